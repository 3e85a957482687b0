/- Own facts, put together: no statement of its own. -/
import Derived.Test.YtibhkijaafdkoaaGreatDoorA23
import Derived.Test.YtibhkijaafdkoaaGreatDoorA04
import Derived.Test.YtibhkijaafdkoaaGreatDoorA07
import Derived.Test.YtibhkijaafdkoaaGreatDoorA05
import Derived.Test.YtibhkijaafdkoaaGreatDoorA24
import Derived.Test.YtibhkijaafdkoaaGreatDoorA17
import Derived.Deep.LoopGhost
import Derived.Test.YtibhkijaafdkoaaGreatDoorA18
namespace Go.Proofs.YtibhkijaafdkoaaGreatDoor
open Go.RowKit
structure GateLies (w : World) (ca : Option Addr) (ccap : Nat) (cs : List (List (Int × Int))) (na : Option Addr) (ncap : Nat) (ns : List Int) : Prop where
 curves : LiesC w ca cs
 cfit : cs.length ≤ ccap
 cmax : ccap ≤ maxLen
 nums : LiesN w na ns
 nfit : ns.length ≤ ncap
 nmax : ncap ≤ maxLen
 nnone : na = none → ns = [] ∧ ncap = 0
 slim : Slim cs ns
theorem GateLies.below {w w' : World} {ca : Option Addr} {ccap : Nat} {cs : List (List (Int × Int))} {na : Option Addr} {ncap : Nat} {ns : List Int} (h : GateLies w ca ccap cs na ncap ns) (hb : Below w.heap.size w w') : GateLies w' ca ccap cs na ncap ns := ⟨h.curves.below hb, h.cfit, h.cmax, h.nums.below hb, h.nfit, h.nmax, h.nnone, h.slim⟩
structure PksLie (w : World) (pa : Option Addr) (pcap : Nat) (ps : List Pk) : Prop where
 pks : LiesP w pa ps
 cap : ps.length ≤ pcap
 max : pcap ≤ maxLen
 none_ : pa = none → ps = [] ∧ pcap = 0
theorem PksLie.below {w w' : World} {pa : Option Addr} {pcap : Nat} {ps : List Pk} (h : PksLie w pa pcap ps) (hb : Below w.heap.size w w') : PksLie w' pa pcap ps := ⟨h.pks.below hb, h.cap, h.max, h.none_⟩
structure SntLie (w : World) (la : Option Addr) (lcap : Nat) (l : List Sn) : Prop where
 sent : LiesS w la l
 cap : l.length ≤ lcap
 max : lcap ≤ maxLen
 none_ : la = none → l = [] ∧ lcap = 0
theorem SntLie.below {w w' : World} {la : Option Addr} {lcap : Nat} {l : List Sn} (h : SntLie w la lcap l) (hb : Below w.heap.size w w') : SntLie w' la lcap l := ⟨h.sent.below hb, h.cap, h.max, h.none_⟩
def GateBad (c p : Int) (w : World) (e : Ending) (w' : World) : Prop := ∃ qa qcap la lcap E, e = .returned (.tuple #[.slice qa 0 qcap, .slice la 0 lcap, E]) ∧ ErrIs w' E c p ∧ Below w.heap.size w w'
def GateGood (cs : List (List (Int × Int))) (k : Nat) (per : Int) (ns : List Int) (ps : List Pk) (w : World) (e : Ending) (w' : World) : Prop := ∃ qa qcap la lcap qs l, e = .returned (.tuple #[.slice qa qs.length qcap, .slice la l.length lcap, .nilIface]) ∧ PksLie w' qa qcap qs ∧ SntLie w' la lcap l ∧ GateRun (curveFl cs) k per ns ps qs l ∧ Below w.heap.size w w'
structure GateWalks : Prop where
 check : ∀ (ca : Option Addr) (ccap : Nat) (cs : List (List (Int × Int))) (kb : ByteArray) (per : Int) (na : Option Addr) (ncap : Nat) (ns : List Int) (w : World) (ad : Nat → Addr) (c p : Int), Errs9 w ad → GateLies w ca ccap cs na ncap ns → GateIs cs (kindOf kb.toList) per ns c p →
  Calls Tryz.prog 29 #[.agg #[.slice ca cs.length ccap, .string kb, .int .i64 per, .slice na ns.length ncap]] w fun e w' => ∃ E, e = .returned E ∧ ErrIs w' E c p ∧ Below w.heap.size w w'
 bad : ∀ (ca : Option Addr) (ccap : Nat) (cs : List (List (Int × Int))) (kb : ByteArray) (per : Int) (na : Option Addr) (ncap : Nat) (ns : List Int) (pa : Option Addr) (pcap : Nat) (ps : List Pk) (w : World) (ad : Nat → Addr) (c p : Int), Errs9 w ad → GateLies w ca ccap cs na ncap ns → PksLie w pa pcap ps → RunIs cs (kindOf kb.toList) per ns ps c p → 0 < c →
  Calls Tryz.prog 20 #[.agg #[.slice ca cs.length ccap, .string kb, .int .i64 per, .slice na ns.length ncap], .slice pa ps.length pcap] w fun e w' => GateBad c p w e w'
 good : ∀ (ca : Option Addr) (ccap : Nat) (cs : List (List (Int × Int))) (kb : ByteArray) (per : Int) (na : Option Addr) (ncap : Nat) (ns : List Int) (pa : Option Addr) (pcap : Nat) (ps : List Pk) (w : World) (ad : Nat → Addr), Errs9 w ad → GateLies w ca ccap cs na ncap ns → PksLie w pa pcap ps → GateOk cs (kindOf kb.toList) per ns → OkPks ps → (∀ i, ¬ NeverAt (curveFl cs) ps i) →
  Calls Tryz.prog 20 #[.agg #[.slice ca cs.length ccap, .string kb, .int .i64 per, .slice na ns.length ncap], .slice pa ps.length pcap] w fun e w' => GateGood cs (kindOf kb.toList) per ns ps w e w'
end Go.Proofs.YtibhkijaafdkoaaGreatDoor

namespace Go.Proofs.YtibhkijaafdkoaaGreatDoor
open Go.RowKit
structure GateRaw (w : World) (ca : Option Addr) (ccap : Nat) (cs : List (List (Int × Int))) (na : Option Addr) (ncap : Nat) (ns : List Int) : Prop where
 curves : LiesC w ca cs
 cfit : cs.length ≤ ccap
 cmax : ccap ≤ maxLen
 nums : LiesN w na ns
 nfit : ns.length ≤ ncap
 nmax : ncap ≤ maxLen
 nnone : na = none → ns = [] ∧ ncap = 0
theorem GateRaw.below {w w' : World} {ca : Option Addr} {ccap : Nat} {cs : List (List (Int × Int))} {na : Option Addr} {ncap : Nat} {ns : List Int} (h : GateRaw w ca ccap cs na ncap ns) (hb : Below w.heap.size w w') : GateRaw w' ca ccap cs na ncap ns := ⟨h.curves.below hb, h.cfit, h.cmax, h.nums.below hb, h.nfit, h.nmax, h.nnone⟩
theorem GateRaw.lies {w : World} {ca : Option Addr} {ccap : Nat} {cs : List (List (Int × Int))} {na : Option Addr} {ncap : Nat} {ns : List Int} (h : GateRaw w ca ccap cs na ncap ns) (hs : Slim cs ns) : GateLies w ca ccap cs na ncap ns := ⟨h.curves, h.cfit, h.cmax, h.nums, h.nfit, h.nmax, h.nnone, hs⟩
end Go.Proofs.YtibhkijaafdkoaaGreatDoor

namespace Go.Proofs.YtibhkijaafdkoaaGreatDoor
open Go.RowKit
def AtEnd (p : Int) (v : Value) (w : World) (e : Ending) (w' : World) : Prop := ∃ B, e = .returned (.iface 110 (.pointer (some ⟨B, 0, none⟩))) ∧ w'.cell? ⟨B, 0, none⟩ = some (.int .i64 p) ∧ w'.cell? ⟨B, 1, none⟩ = some v ∧ w.heap.size ≤ B ∧ Below w.heap.size w w'
theorem atEnd_made {p : Int} {v : Value} {w W : World} {t : TypeId} (h : Below w.heap.size w W) : AtEnd p v w (.returned (.iface 110 (.pointer (some ⟨W.heap.size, 0, none⟩)))) (W.alloc (.cells #[.int .i64 p, v] t)) :=
 ⟨W.heap.size, rfl, by simp, by simp, h.size, h.alloc h.size _⟩
set_option maxHeartbeats 1000000 in
theorem faultAt_fault (p : Int) (pb : Nat) (ty : TypeId) (x : Value) (w : World) (ad : Nat → Addr) (he : Errs9 w ad) (hp1 : w.cell? ⟨pb, 1, none⟩ = some (.iface ty x)) :
  Calls Tryz.prog 103 #[.int .i64 p, .iface 110 (.pointer (some ⟨pb, 0, none⟩))] w (AtEnd p (.iface ty x) w) := by
 have HB0 : Hid (Below w.heap.size w (w.alloc (.cells #[.pointer none] 110))) := (Below.refl _ _).alloc (Nat.le_refl _) _
 have HE : Hid (Errs9 w ad) := he
 have HP1 : Hid (w.cell? ⟨pb, 1, none⟩ = some (.iface ty x)) := hp1
 clear he hp1
 go_enter Tryz.func103, Tryz.ntmps103
 go_wp2_with fail
 refine (as_hit ⟨pb, 0, none⟩ ⟨w.heap.size, 0, none⟩ (.pointer none) _ (HE.out.below HB0.out).typ (by simp) (by simp)).mono ?_
 rintro e w1 ⟨rfl, hw1⟩
 have hb1 : Below w.heap.size w w1 := by
  rw [hw1]
  exact ((((HB0.out.alloc (by simp) _).alloc (by simp; omega) _).alloc (by simp; omega) _).alloc (by simp; omega) _).setCell (Nat.le_refl _) _
 have ht1 : w1.cell? ⟨w.heap.size, 0, none⟩ = some (.pointer (some ⟨pb, 0, none⟩)) := by
  rw [hw1]
  exact set_at w _ _ _ _ _
 have HB1 : Hid (Below w.heap.size w w1) := hb1
 have hq1 : w1.cell? ⟨pb, 1, none⟩ = some (.iface ty x) := cell_later hb1 HP1.out
 clear hw1 hb1
 go_wp2_with fail
 go_ret
 exact atEnd_made HB1.out
set_option maxHeartbeats 1000000 in
theorem faultAt_sent (p : Int) (e : Addr) (w : World) (ad : Nat → Addr) (he : Errs9 w ad) :
  Calls Tryz.prog 103 #[.int .i64 p, .iface 271 (.pointer (some e))] w (AtEnd p (.iface 271 (.pointer (some e))) w) := by
 have HB0 : Hid (Below w.heap.size w (w.alloc (.cells #[.pointer none] 110))) := (Below.refl _ _).alloc (Nat.le_refl _) _
 have HE : Hid (Errs9 w ad) := he
 clear he
 go_enter Tryz.func103, Tryz.ntmps103
 go_wp2_with fail
 refine (as_miss e ⟨w.heap.size, 0, none⟩ _ (HE.out.below HB0.out).typ).mono ?_
 rintro e w1 ⟨rfl, hw1⟩
 have HB1 : Hid (Below w.heap.size w w1) := by
  show Below _ _ _
  rw [hw1]
  exact ((HB0.out.alloc (by simp) _).alloc (by simp; omega) _).alloc (by simp; omega) _
 clear hw1
 go_wp2_with fail
 go_ret
 exact atEnd_made HB1.out
end Go.Proofs.YtibhkijaafdkoaaGreatDoor

namespace Go.Proofs.YtibhkijaafdkoaaGreatDoor
open Go.RowKit
theorem isEmpty_any (a : Option Addr) (n cap : Nat) (w : World) (b : Bool) (hb : ((n : Int) == 0) = b) :
  Calls Tryz.prog 67 #[.slice a n cap] w fun e w' => e = .returned (.bool b) ∧ w' = w := by
 go_enter Tryz.func67, Tryz.ntmps67
 go_wp2_with fail
 go_ret
 exact ⟨rfl, rfl⟩
def BareOf (ad : Nat → Addr) (c : Int) (w : World) (e : Ending) (w' : World) : Prop := ∃ ty v, e = .returned (.iface ty v) ∧ Below w.heap.size w w' ∧ ∃ k : Nat, k < 9 ∧ c = ((k + 1 : Nat) : Int) ∧ ∀ W (p : Int), Below w'.heap.size w' W → Calls Tryz.prog 103 #[.int .i64 p, .iface ty v] W (AtEnd p (.iface 271 (.pointer (some (ad k)))) W)
theorem check_bare (a : Option Addr) (cap : Nat) (ls : List (Int × Int)) (w : World) (ad : Nat → Addr) (he : Errs9 w ad) (hl : Lies w a ls) (hcap : ls.length ≤ cap) (hm : cap ≤ maxLen) (c p : Int) (h : FaultIs ls c p) (hc : 0 < c) :
  Calls Tryz.prog 73 #[.slice a ls.length cap] w fun e w' => BareOf ad c w e w' := by
 rcases h with ⟨h1, rfl, rfl⟩ | ⟨h1, h6, j, hj, hg, hb, rfl, rfl⟩ | ⟨h, rfl, rfl⟩
 ·
  refine (check_shape a ls.length cap w _ he.c2 (by omega) h1).mono ?_
  rintro e w' ⟨rfl, rfl⟩
  exact ⟨_, _, rfl, Below.refl _ _, 2, by omega, rfl, fun W p hW => faultAt_sent p (ad 2) W ad (he.below hW)⟩
 ·
  refine (check_bad a cap ls w (ad 1) he.c1 hl h1 h6 j hj hg hb).mono ?_
  rintro e w' ⟨hbel, B, rfl, h7, h8, h9, h10⟩
  exact ⟨_, _, rfl, hbel, 1, by omega, rfl, fun W p hW => faultAt_fault p B _ _ W ad ((he.below hbel).below hW) (cell_later hW h10)⟩
 · exact absurd hc (by omega)
set_option maxRecDepth 100000 in
set_option maxHeartbeats 2000000 in
theorem curvesCheck_short (ca : Option Addr) (m ccap : Nat) (w : World) (ad : Nat → Addr) (he : Errs9 w ad) (h : m ≠ 8) :
  Calls Tryz.prog 61 #[.slice ca m ccap] w fun e w' => ∃ E, e = .returned E ∧ ErrIs w' E 3 (-1) ∧ Below w.heap.size w w' := by
 have c2 := he.c2
 have HE : Hid (Errs9 w ad) := he
 have hz : ((m : Int) == 8) = false := by simp; omega
 have hz2 : ¬ (m : Int) = 8 := by omega
 clear he
 go_enter Tryz.func61, Tryz.ntmps61
 go_wp2_with fail
 go_ret
 exact ⟨_, rfl, errIs_sent HE.out 2 (by omega), Below.refl _ _⟩
def CurvesEnd (c p : Int) (w : World) (e : Ending) (w' : World) : Prop := ∃ E, e = .returned E ∧ ErrIs w' E c p ∧ Below w.heap.size w w'
set_option maxRecDepth 100000 in
set_option maxHeartbeats 2000000 in
theorem curvesCheck_to (ca : Option Addr) (ccap : Nat) (cs : List (List (Int × Int))) (w : World) (ad : Nat → Addr) (he : Errs9 w ad) (hl : LiesC w ca cs) (h8 : cs.length = 8) (i : Nat) (hi : i ≤ 8) (hto : CurvesTo cs i) (c p : Int) (hbad : (i = 8 ∧ c = 0 ∧ p = -1) ∨ (CurveBad cs i c ∧ p = i)) :
  Calls Tryz.prog 61 #[.slice ca cs.length ccap] w fun e w' => CurvesEnd c p w e w' := by
 have HE : Hid (Errs9 w ad) := he
 have HTo : Hid (CurvesTo cs i) := hto
 have HBad : Hid ((i = 8 ∧ c = 0 ∧ p = -1) ∨ (CurveBad cs i c ∧ p = i)) := hbad
 obtain ⟨b, off, rfl, -, hcc⟩ := hl.place (by omega)
 have HC : Hid (∀ (i : Nat) ls, cs[i]? = some ls → ∃ a' cap, w.cell? ⟨b, off + i, none⟩ = some (.slice a' ls.length cap) ∧ Lies w a' ls ∧ ls.length ≤ cap ∧ cap ≤ maxLen ∧ (a' = none → ls = [] ∧ cap = 0)) := hcc
 have H8 : Hid (cs.length = 8) := h8
 rw [h8]
 clear he hto hbad hl hcc h8
 go_enter Tryz.func61, Tryz.ntmps61
 go_wp2_with fail
 go_loopg [12] 8 (fun gk iv wr => ∃ k : Nat, iv = .int .i64 (k : Int) ∧ k ≤ i ∧ 8 - k ≤ gk ∧ Hid (Below w.heap.size w wr))
 case atStart => exact ⟨0, rfl, Nat.zero_le _, by omega, Below.refl _ _⟩
 case round =>
  obtain ⟨k, rfl, hki, hgk, HB⟩ := hrel
  by_cases hk8 : k < 8
  ·
   have hkz : (k : Int) < 8 := by omega
   obtain ⟨ls, hls, -⟩ := get_some cs k (by rw [H8.out]; exact hk8)
   obtain ⟨a', cap, cj0, hlies, hlc, hlm, -⟩ := HC.out k ls hls
   have cj := cell_later HB.out cj0
   have HG : Hid (cs[k]? = some ls) := hls
   obtain ⟨n, hn⟩ : ∃ n, ls.length = n := ⟨_, rfl⟩
   have HN : Hid (ls.length = n) := hn
   have HL : Hid (Lies w a' ls ∧ ls.length ≤ cap ∧ cap ≤ maxLen) := ⟨hlies, hlc, hlm⟩
   rw [hn] at cj
   clear hls cj0 hlies hlc hlm hn
   by_cases hn0 : n = 0
   ·
    have HEm : Hid (Calls Tryz.prog 67 #[.slice a' n cap] wr fun e w' => e = .returned (.bool true) ∧ w' = wr) := isEmpty_any a' n cap wr true (by simp; exact hn0)
    have HNe : Hid (k < i) := by
     show k < i
     rcases Nat.lt_or_ge k i with h | h
     · exact h
     ·
      obtain rfl : k = i := by omega
      rcases HBad.out with ⟨h1, -⟩ | ⟨⟨ls', p', h1, h2, -⟩, -⟩
      · omega
      ·
       rw [HG.out] at h1
       obtain rfl := Option.some.inj h1
       exact absurd (List.length_eq_zero_iff.1 (HN.out.trans hn0)) h2
    clear hn0
    go_wp2_with fail
    refine HEm.out.mono ?_
    rintro e w1 ⟨rfl, rfl⟩
    go_wp2_with fail
    go_roundg (8 - (k + 1))
    case measure => omega
    case rel => exact ⟨k + 1, by go_num, HNe.out, Nat.le_refl _, HB⟩
   ·
    have HEm : Hid (Calls Tryz.prog 67 #[.slice a' n cap] wr fun e w' => e = .returned (.bool false) ∧ w' = wr) := isEmpty_any a' n cap wr false (by simp; omega)
    by_cases hk : k < i
    ·
     have hok : okCurve ls := by
      rcases HTo.out k ls hk HG.out with h | h
      · exact absurd (by rw [← HN.out, h]; rfl) hn0
      · exact h
     have HCh : Hid (Calls Tryz.prog 73 #[.slice a' n cap] wr fun e w' => e = .returned .nilIface ∧ Below wr.heap.size wr w') := by
      have := check_ok a' cap ls wr (HL.out.1.below HB.out) hok
      rwa [HN.out] at this
     clear hok hn0
     go_wp2_with fail
     refine HEm.out.mono ?_
     rintro e w1 ⟨rfl, rfl⟩
     go_wp2_with fail
     refine HCh.out.mono ?_
     rintro e w2 ⟨rfl, hb2⟩
     have HB2 : Hid (Below w.heap.size w w2) := HB.out.trans (hb2.mono HB.out.size)
     clear hb2
     go_wp2_with fail
     go_roundg (8 - (k + 1))
     case measure => omega
     case rel => exact ⟨k + 1, by go_num, hk, Nat.le_refl _, HB2⟩
    ·
     obtain rfl : k = i := by omega
     obtain ⟨hbc, hpi⟩ : CurveBad cs k c ∧ p = k := by
      rcases HBad.out with ⟨h1, -⟩ | h1
      · omega
      · exact h1
     obtain ⟨ls', p', h1, -, h3, h4⟩ := hbc
     rw [HG.out] at h1
     obtain rfl := Option.some.inj h1
     have HCh : Hid (Calls Tryz.prog 73 #[.slice a' n cap] wr fun e w' => BareOf ad c wr e w') := by
      have := check_bare a' cap ls wr ad (HE.out.below HB.out) (HL.out.1.below HB.out) HL.out.2.1 HL.out.2.2 c p' h3 h4
      rwa [HN.out] at this
     have HP : Hid (p = (k : Int)) := hpi
     clear hpi h3 h4 h1 hn0
     go_wp2_with fail
     refine HEm.out.mono ?_
     rintro e w1 ⟨rfl, rfl⟩
     go_wp2_with fail
     refine HCh.out.mono ?_
     rintro e w2 ⟨ty, v, rfl, hb2, q, hq9, hcq, hbare⟩
     have HBa := (show Hid (Calls Tryz.prog 103 #[.int .i64 (k : Int), .iface ty v] w2 (AtEnd (k : Int) (.iface 271 (.pointer (some (ad q)))) w2)) from hbare w2 (k : Int) (Below.refl _ _))
     have HB2 : Hid (Below w.heap.size w w2) := HB.out.trans (hb2.mono HB.out.size)
     have HQ : Hid (c = ((q + 1 : Nat) : Int)) := hcq
     clear hb2 hbare hcq
     go_wp2_with fail
     refine HBa.out.mono ?_
     rintro e w3 ⟨B, rfl, h30, h31, -, hb3⟩
     have HB3 : Hid (Below w.heap.size w w3) := HB2.out.trans (hb3.mono HB2.out.size)
     have H3 : Hid (w3.cell? ⟨B, 0, none⟩ = some (.int .i64 (k : Int)) ∧ w3.cell? ⟨B, 1, none⟩ = some (.iface 271 (.pointer (some (ad q))))) := ⟨h30, h31⟩
     clear hb3 h30 h31
     go_wp2_with fail
     go_ret
     refine ⟨_, rfl, ?_, HB3.out⟩
     rw [HQ.out, HP.out]
     refine ⟨?_, fun h => by omega, fun _ => ⟨_, _, rfl⟩⟩
     have := codeIs_fault (HE.out.below HB3.out) q hq9 (k : Int) B H3.out.1 H3.out.2
     simpa using this
  ·
   have hkz : ¬ (k : Int) < 8 := by omega
   obtain rfl : i = 8 := by omega
   have HR : Hid (c = 0 ∧ p = -1) := by
    rcases HBad.out with ⟨-, h⟩ | ⟨⟨ls', p', h1, -⟩, -⟩
    · exact h
    ·
     rw [List.getElem?_eq_none (by rw [H8.out]; omega)] at h1
     cases h1
   obtain rfl : k = 8 := by omega
   go_wp2_with fail
   go_ret
   refine ⟨_, rfl, ?_, HB.out⟩
   rw [HR.out.1, HR.out.2]
   exact errIs_nil wr
end Go.Proofs.YtibhkijaafdkoaaGreatDoor
