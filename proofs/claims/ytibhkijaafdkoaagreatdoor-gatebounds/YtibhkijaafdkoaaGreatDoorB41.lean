/- Own facts, put together: no statement of its own. -/
import Derived.Test.YtibhkijaafdkoaaGreatDoorB37
import Derived.Test.YtibhkijaafdkoaaGreatDoorB17
import Derived.Test.YtibhkijaafdkoaaGreatDoorB40
import Derived.Test.YtibhkijaafdkoaaGreatDoorB38
import Derived.Test.YtibhkijaafdkoaaGreatDoorB18
import Derived.Test.YtibhkijaafdkoaaGreatDoorB39
import Derived.Test.YtibhkijaafdkoaaGreatDoorB28
namespace Go.Proofs.YtibhkijaafdkoaaGreatDoor
open Go.RowKit
set_option maxHeartbeats 1000000 in
theorem weight_yes (x : Int) (w : World) (h : isWt x) : Calls Tryz.prog 161 #[.int .i64 x] w fun e w' => e = .returned (.bool true) ∧ w' = w := by
 obtain ⟨h1, h2⟩ := h
 have h3 : (12 % x == 0) = true := by simpa using h2
 clear h2
 go_enter Tryz.func161, Tryz.ntmps161
 go_wp2
 go_ret
 exact ⟨rfl, rfl⟩
set_option maxHeartbeats 1000000 in
theorem weight_no (x : Int) (w : World) (h : ¬ isWt x) : Calls Tryz.prog 161 #[.int .i64 x] w fun e w' => e = .returned (.bool false) ∧ w' = w := by
 by_cases h1 : 1 ≤ x
 ·
  have h4 : (12 % x == 0) = false := by simpa using fun h2 => h ⟨h1, h2⟩
  clear h
  go_enter Tryz.func161, Tryz.ntmps161
  go_wp2
  go_ret
  exact ⟨rfl, rfl⟩
 ·
  clear h
  go_enter Tryz.func161, Tryz.ntmps161
  go_wp2
  go_ret
  exact ⟨rfl, rfl⟩
set_option maxHeartbeats 2000000 in
theorem checkWeights_to (a : Option Addr) (cap : Nat) (ns : List Int) (w : World) (ad : Nat → Addr) (hl : LiesN w a ns) (h8 : ns.length = 8) (j : Nat) (hj : j ≤ 8) (hg : ∀ (i : Nat) y, i < j → ns[i]? = some y → isWt y) (R : Value)
  (h : (j = 8 ∧ R = .nilIface) ∨ (R = .iface 271 (.pointer (some (ad 1))) ∧ w.cell? ⟨3, 0, none⟩ = some (.iface 271 (.pointer (some (ad 1)))) ∧ ∃ x, ns[j]? = some x ∧ ¬ isWt x)) :
  Calls Tryz.prog 57 #[.slice a 8 cap, .func (.func 161) #[] #[]] w fun e w' => e = .returned R ∧ w' = w := by
 have HG : Hid (∀ (i : Nat) y, i < j → ns[i]? = some y → isWt y) := hg
 have HR : Hid ((j = 8 ∧ R = .nilIface) ∨ (R = .iface 271 (.pointer (some (ad 1))) ∧ w.cell? ⟨3, 0, none⟩ = some (.iface 271 (.pointer (some (ad 1)))) ∧ ∃ x, ns[j]? = some x ∧ ¬ isWt x)) := h
 obtain ⟨b, off, rfl, -, hcell⟩ := hl.place (by omega)
 have HC : Hid (∀ (i : Nat) x, ns[i]? = some x → w.cell? ⟨b, off + i, none⟩ = some (.int .i64 x)) := hcell
 have H8 : Hid (ns.length = 8) := h8
 clear hg h hl hcell h8
 go_enter Tryz.func57, Tryz.ntmps57
 go_wp2_with fail
 go_loopw [13] (fun i wr => ∃ k : Nat, k ≤ j ∧ i = .int .i64 k ∧ wr = w) (fun i _ => 8 - (intOf i).toNat)
 case atStart => exact ⟨0, Nat.zero_le _, rfl, rfl⟩
 case round =>
  obtain ⟨k, hk, rfl, rfl⟩ := hrel
  by_cases hkj : k < j
  ·
   obtain ⟨x, hx, -⟩ := get_some ns k (by rw [H8.out]; omega)
   have hok := HG.out k x hkj hx
   have c1 := HC.out k x hx
   clear hx
   go_wp2_with fail
   refine (weight_yes x _ hok).mono ?_
   rintro e w1 ⟨rfl, rfl⟩
   go_wp2_with fail
   go_roundw
   case rel => exact ⟨k + 1, by omega, by go_num, trivial⟩
   case measure => simp [intOf]; omega
  ·
   obtain rfl : k = j := by omega
   rcases HR.out with ⟨rfl, rfl⟩ | ⟨rfl, he, x, hx, hbad⟩
   ·
    go_wp2_with fail
    go_ret
    exact ⟨rfl, rfl⟩
   ·
    have c1 := HC.out k x hx
    have hk8 : k < 8 := by
     rw [← H8.out]
     rcases Nat.lt_or_ge k ns.length with h' | h'
     · exact h'
     · simp [List.getElem?_eq_none h'] at hx
    clear hx
    go_wp2_with fail
    refine (weight_no x _ hbad).mono ?_
    rintro e w1 ⟨rfl, rfl⟩
    go_wp2_with fail
    go_ret
    exact ⟨rfl, rfl⟩
theorem checkWeights_ok (a : Option Addr) (cap : Nat) (ns : List Int) (w : World) (hl : LiesN w a ns) (ho : WtsAll ns) :
  Calls Tryz.prog 57 #[.slice a ns.length cap, .func (.func 161) #[] #[]] w fun e w' => e = .returned .nilIface ∧ w' = w := by
 rw [ho.len]
 exact checkWeights_to a cap ns w (fun _ => ⟨0, 0, none⟩) hl ho.len 8 (Nat.le_refl _) (fun i y _ hy => ho.each i y hy) _ (.inl ⟨rfl, rfl⟩)
theorem checkWeights_bad (a : Option Addr) (cap : Nat) (ns : List Int) (w : World) (ad : Nat → Addr) (he : NumErrs w ad) (hl : LiesN w a ns) (c : Nat) (h : WtsFault ns c) (hc : 0 < c) :
  Calls Tryz.prog 57 #[.slice a ns.length cap, .func (.func 161) #[] #[]] w fun e w' => e = .returned (sentOf ad c) ∧ w' = w := by
 rcases h with ⟨rfl, h8⟩ | ⟨rfl, j, h8, ⟨x, hx, hbad⟩, hg⟩ | ⟨rfl, -⟩
 · exact checkNumbers_shape a ns.length cap _ w ad h8 he.2
 ·
  rw [h8]
  exact checkWeights_to a cap ns w ad hl h8 j (by have := lt_of_get hx; omega) hg _ (.inr ⟨rfl, he.1, x, hx, hbad⟩)
 · omega
end Go.Proofs.YtibhkijaafdkoaaGreatDoor

namespace Go.Proofs.YtibhkijaafdkoaaGreatDoor
open Go.RowKit
set_option maxHeartbeats 1000000 in
theorem fairCheck_ok (a : Option Addr) (cap : Nat) (ps : List Pk) (per : Int) (na : Option Addr) (ncap : Nat) (ws : List Int) (w : World) (hl : LiesP w a ps) (hn : LiesN w na ws) (ho : OkPks ps) (h1 : 1 ≤ per) (h2 : per ≤ 1000) (hk : WtsAll ws) :
  Calls Tryz.prog 135 #[.slice a ps.length cap, .int .i64 per, .slice na ws.length ncap] w fun e w' => e = .returned .nilIface ∧ Below w.heap.size w w' := by
 have HCheck : Hid (Calls Tryz.prog 52 #[.slice a ps.length cap, .int .i64 per] w fun e w' => e = .returned .nilIface ∧ Below w.heap.size w w') := linkCheck_ok a cap ps per w hl ho h1 h2
 have HUp : Hid (∀ W, Below w.heap.size w W → Calls Tryz.prog 57 #[.slice na ws.length ncap, .func (.func 161) #[] #[]] W fun e w' => e = .returned .nilIface ∧ w' = W) := fun W hb => checkWeights_ok na ncap ws W (hn.below hb) hk
 clear hl hn ho hk
 generalize ps.length = n at *
 generalize ws.length = m at *
 go_enter Tryz.func135, Tryz.ntmps135
 go_wp2_with fail
 refine HCheck.out.mono ?_
 rintro e w1 ⟨rfl, hb⟩
 have HB1 : Hid (Below w.heap.size w w1) := hb
 clear hb
 go_wp2_with fail
 refine (HUp.out _ HB1.out).mono ?_
 rintro e w2 ⟨rfl, rfl⟩
 go_wp2_with fail
 go_ret
 exact ⟨rfl, HB1.out⟩
set_option maxHeartbeats 1000000 in
theorem fairCheck_err1 {R : TypeId → Value → World → Prop} (a : Option Addr) (n cap : Nat) (per : Int) (na : Option Addr) (m ncap : Nat) (w : World) (h : Calls Tryz.prog 52 #[.slice a n cap, .int .i64 per] w fun e w' => ∃ ty v, e = .returned (.iface ty v) ∧ R ty v w') :
  Calls Tryz.prog 135 #[.slice a n cap, .int .i64 per, .slice na m ncap] w fun e w' => ∃ ty v, e = .returned (.iface ty v) ∧ R ty v w' := by
 have HC : Hid (Calls Tryz.prog 52 #[.slice a n cap, .int .i64 per] w fun e w' => ∃ ty v, e = .returned (.iface ty v) ∧ R ty v w') := h
 clear h
 go_enter Tryz.func135, Tryz.ntmps135
 go_wp2_with fail
 refine HC.out.mono ?_
 rintro e w1 ⟨ty, v, rfl, hR⟩
 have HR : Hid (R ty v w1) := hR
 clear hR
 go_wp2_with fail
 go_ret
 exact ⟨ty, v, rfl, HR.out⟩
set_option maxHeartbeats 1000000 in
theorem fairCheck_err2 {R : TypeId → Value → World → Prop} (a : Option Addr) (n cap : Nat) (per : Int) (na : Option Addr) (m ncap : Nat) (w : World) (h : Calls Tryz.prog 52 #[.slice a n cap, .int .i64 per] w fun e w' => e = .returned .nilIface ∧ Below w.heap.size w w')
  (h2 : ∀ W, Below w.heap.size w W → Calls Tryz.prog 57 #[.slice na m ncap, .func (.func 161) #[] #[]] W fun e w' => ∃ ty v, e = .returned (.iface ty v) ∧ R ty v w') :
  Calls Tryz.prog 135 #[.slice a n cap, .int .i64 per, .slice na m ncap] w fun e w' => ∃ ty v, e = .returned (.iface ty v) ∧ R ty v w' := by
 have HC : Hid (Calls Tryz.prog 52 #[.slice a n cap, .int .i64 per] w fun e w' => e = .returned .nilIface ∧ Below w.heap.size w w') := h
 have HU : Hid (∀ W, Below w.heap.size w W → Calls Tryz.prog 57 #[.slice na m ncap, .func (.func 161) #[] #[]] W fun e w' => ∃ ty v, e = .returned (.iface ty v) ∧ R ty v w') := h2
 clear h h2
 go_enter Tryz.func135, Tryz.ntmps135
 go_wp2_with fail
 refine HC.out.mono ?_
 rintro e w1 ⟨rfl, hb⟩
 have HB : Hid (Below w.heap.size w w1) := hb
 clear hb
 go_wp2_with fail
 refine (HU.out _ HB.out).mono ?_
 rintro e w2 ⟨ty, v, rfl, hR⟩
 have HR : Hid (R ty v w2) := hR
 clear hR
 go_wp2_with fail
 go_ret
 exact ⟨ty, v, rfl, HR.out⟩
theorem fairSend_from (a : Option Addr) (cap : Nat) (ps : List Pk) (per : Int) (na : Option Addr) (ncap : Nat) (ws : List Int) (w : World) (hl : LiesP w a ps) (hn : LiesN w na ws) (ho : OkPks ps) (h1 : 1 ≤ per) (h2 : per ≤ 1000) (hk : WtsAll ws) (W W3 W4 : World) (g gt gm : Nat) (D : Nat → Prop) (hb : Below w.heap.size w W) (h0 : HeldW W.heap.size W g gt gm ps.length (.slice a ps.length cap) (.slice na ws.length ncap) W3 D fair0) (hb3 : Below W.heap.size W W3) (hb4 : Below W3.heap.size W3 W4) :
  Calls Tryz.prog 59 #[.slice a ps.length cap, .int .i64 per, .iface 164 (ruleW g)] W4 fun e w' => ∃ v, e = .returned v ∧ SentTags per ps ws w.heap.size g gt w v w' := by
 have hlW := hl.below hb
 have hnW := hn.below hb
 have hs3 : W.heap.size ≤ W3.heap.size := hb3.size
 refine (fairSend_ok a cap ps per na ncap ws W.heap.size W g gt gm D W4 ⟨hlW, hnW, hlW.at_lt, fun ad had => ?_, ho, hk⟩ h1 h2 (h0.later hb4)).mono ?_
 ·
  obtain ⟨b, off, e, hlt, -⟩ := hnW.place (by rw [hk.len]; omega)
  rw [e] at had
  cases had
  exact hlt
 ·
  rintro e w' ⟨v, rfl, l, f, g1, g2, g3, g4, g5⟩
  have hbb : Below w.heap.size w W4 := (hb.trans (hb3.mono hb.size)).trans (hb4.mono (Nat.le_trans hb.size hs3))
  exact ⟨v, rfl, l, f, ownsRow_mono g1 hbb.size, g2, hbb.trans (g3.mono hb.size), g4, g5⟩
set_option maxRecDepth 100000 in
set_option maxHeartbeats 2000000 in
theorem fairRun_ok (a : Option Addr) (cap : Nat) (ps : List Pk) (per : Int) (na : Option Addr) (ncap : Nat) (ws : List Int) (w : World) (hl : LiesP w a ps) (hn : LiesN w na ws) (ho : OkPks ps) (h1 : 1 ≤ per) (h2 : per ≤ 1000) (hk : WtsAll ws) :
  Calls Tryz.prog 88 #[.slice a ps.length cap, .int .i64 per, .slice na ws.length ncap] w fun e w' => ∃ v, e = .returned (.tuple #[v, .nilIface]) ∧ ∃ g gt, SentTags per ps ws w.heap.size g gt w v w' := by
 have HCheck : Hid (Calls Tryz.prog 135 #[.slice a ps.length cap, .int .i64 per, .slice na ws.length ncap] w fun e w' => e = .returned .nilIface ∧ Below w.heap.size w w') := fairCheck_ok a cap ps per na ncap ws w hl hn ho h1 h2 hk
 have HNew : Hid (∀ W, Calls Tryz.prog 136 #[.slice a ps.length cap, .slice na ws.length ncap] W fun e w' => ∃ g gt gm, e = .returned (.pointer (some ⟨g, 0, none⟩)) ∧ HeldW W.heap.size W g gt gm ps.length (.slice a ps.length cap) (.slice na ws.length ncap) w' (fairFoot g gt gm (.slice none 0 0)) fair0 ∧ Below W.heap.size W w') := fun W => newTags_any a ps.length cap na ws.length ncap W (by have := ho.few; omega)
 have HSend : Hid (∀ W W3 W4 g gt gm D, Below w.heap.size w W → HeldW W.heap.size W g gt gm ps.length (.slice a ps.length cap) (.slice na ws.length ncap) W3 D fair0 → Below W.heap.size W W3 → Below W3.heap.size W3 W4 →
   Calls Tryz.prog 59 #[.slice a ps.length cap, .int .i64 per, .iface 164 (ruleW g)] W4 fun e w' => ∃ v, e = .returned v ∧ SentTags per ps ws w.heap.size g gt w v w') := fun W W3 W4 g gt gm D hb h0 hb3 hb4 => fairSend_from a cap ps per na ncap ws w hl hn ho h1 h2 hk W W3 W4 g gt gm D hb h0 hb3 hb4
 clear hl hn ho hk
 generalize hpl : ps.length = n at *
 generalize hnl : ws.length = m at *
 clear hpl hnl
 go_enter Tryz.func88, Tryz.ntmps88
 go_wp2_with fail
 refine HCheck.out.mono ?_
 rintro e w1 ⟨rfl, hb⟩
 have HB1 : Hid (Below w.heap.size w w1) := hb
 clear hb
 go_wp2_with fail
 refine (HNew.out _).mono ?_
 rintro e w3 ⟨g, gt, gm, rfl, hh, hb3⟩
 have HS : Hid (∀ W4, Below w3.heap.size w3 W4 → Calls Tryz.prog 59 #[.slice a n cap, .int .i64 per, .iface 164 (ruleW g)] W4 fun e w' => ∃ v, e = .returned v ∧ SentTags per ps ws w.heap.size g gt w v w') := fun W4 hb4 => HSend.out w1 w3 W4 g gt gm _ HB1.out hh hb3 hb4
 clear hh hb3
 go_wp2_with fail
 refine (fairQueue_any g _).mono ?_
 rintro e w4 ⟨rfl, hb4⟩
 have HC4 := HS.out w4 hb4
 have HS4 : Hid (Calls Tryz.prog 59 #[.slice a n cap, .int .i64 per, .iface 164 (ruleW g)] w4 fun e w' => ∃ v, e = .returned v ∧ SentTags per ps ws w.heap.size g gt w v w') := HC4
 clear HC4 hb4
 go_wp2_with fail
 refine HS4.out.mono ?_
 rintro e w5 ⟨v, rfl, hs⟩
 have HE : Hid (SentTags per ps ws w.heap.size g gt w v w5) := hs
 clear hs
 go_wp2_with fail
 go_ret2
 exact ⟨v, rfl, g, gt, HE.out⟩
set_option maxHeartbeats 1000000 in
theorem fairRun_err {R : TypeId → Value → World → Prop} (a : Option Addr) (n cap : Nat) (per : Int) (na : Option Addr) (m ncap : Nat) (w : World) (h : Calls Tryz.prog 135 #[.slice a n cap, .int .i64 per, .slice na m ncap] w fun e w' => ∃ ty v, e = .returned (.iface ty v) ∧ R ty v w') :
  Calls Tryz.prog 88 #[.slice a n cap, .int .i64 per, .slice na m ncap] w fun e w' => ∃ ty v, e = .returned (.tuple #[.slice none 0 0, .iface ty v]) ∧ R ty v w' := by
 have HC : Hid (Calls Tryz.prog 135 #[.slice a n cap, .int .i64 per, .slice na m ncap] w fun e w' => ∃ ty v, e = .returned (.iface ty v) ∧ R ty v w') := h
 clear h
 go_enter Tryz.func88, Tryz.ntmps88
 go_wp2_with fail
 refine HC.out.mono ?_
 rintro e w1 ⟨ty, v, rfl, hR⟩
 have HR : Hid (R ty v w1) := hR
 clear hR
 go_wp2_with fail
 go_ret2
 exact ⟨ty, v, rfl, HR.out⟩
end Go.Proofs.YtibhkijaafdkoaaGreatDoor

namespace Go.Proofs.YtibhkijaafdkoaaGreatDoor
open Go.RowKit
theorem errIs_nums {w : World} {ad : Nat → Addr} (he : Errs9 w ad) {hi : Int} {ns : List Int} {c : Nat} (h : NumsFault 0 hi ns c) (hc : 0 < c) : ∃ ty v, sentOf ad c = .iface ty v ∧ ErrIs w (.iface ty v) c (-1) := by
 rcases h with ⟨rfl, -⟩ | ⟨rfl, -⟩ | ⟨rfl, -⟩
 · exact ⟨_, _, rfl, errIs_sent he 2 (by decide)⟩
 · exact ⟨_, _, rfl, errIs_sent he 1 (by decide)⟩
 · omega
theorem Errs9.nums {w : World} {ad : Nat → Addr} (he : Errs9 w ad) : NumErrs w ad := ⟨he.c1, he.c2⟩
theorem errIs_numsB {w : World} {ad : Nat → Addr} (he : Errs9 w ad) {lo hi : Int} {ns : List Int} {c : Nat} (h : NumsFault lo hi ns c) (hc : 0 < c) : ∃ ty v, sentOf ad c = .iface ty v ∧ ErrIs w (.iface ty v) c (-1) := by
 rcases h with ⟨rfl, -⟩ | ⟨rfl, -⟩ | ⟨rfl, -⟩
 · exact ⟨_, _, rfl, errIs_sent he 2 (by decide)⟩
 · exact ⟨_, _, rfl, errIs_sent he 1 (by decide)⟩
 · omega
end Go.Proofs.YtibhkijaafdkoaaGreatDoor

namespace Go.Proofs.YtibhkijaafdkoaaGreatDoor
open Go.RowKit
theorem rankRun_isL (a : Option Addr) (cap : Nat) (ps : List Pk) (per : Int) (na : Option Addr) (nn ncap : Nat) (w : World) (ad : Nat → Addr) (he : Errs9 w ad) (hl : LiesP w a ps) (hcap : ps.length ≤ cap) (hm : cap ≤ maxLen) (c p : Int) (h : LinkFaultIs ps per c p) (hc : 0 < c) :
  Calls Tryz.prog 86 #[.slice a ps.length cap, .int .i64 per, .slice na nn ncap] w fun e w' => ∃ ty v, e = .returned (.tuple #[.slice none 0 0, .iface ty v]) ∧ (ErrIs w' (.iface ty v) c p ∧ Below w.heap.size w w') := by
 refine rankRun_err1 (R := fun ty v w' => ErrIs w' (.iface ty v) c p ∧ Below w.heap.size w w') a _ cap per na _ ncap w (fun W hB => (linkCheck_is a cap ps per c p W ad (he.below hB.below) (hl.below hB.below) hcap hm h hc).mono ?_)
 rintro e w' ⟨ty, v, rfl, hE, hb⟩
 exact ⟨ty, v, rfl, hE, hB.below.trans (hb.mono hB.below.size)⟩
theorem rankRun_isN (a : Option Addr) (cap : Nat) (ps : List Pk) (per : Int) (na : Option Addr) (ncap : Nat) (ns : List Int) (w : World) (ad : Nat → Addr) (he : Errs9 w ad) (hl : LiesP w a ps) (hn : LiesN w na ns) (ho : OkPks ps) (h1 : 1 ≤ per) (h2 : per ≤ 1000) (c : Nat) (h : NumsFault 0 100 ns c) (hc : 0 < c) :
  Calls Tryz.prog 86 #[.slice a ps.length cap, .int .i64 per, .slice na ns.length ncap] w fun e w' => ∃ ty v, e = .returned (.tuple #[.slice none 0 0, .iface ty v]) ∧ (ErrIs w' (.iface ty v) c (-1) ∧ Below w.heap.size w w') := by
 refine rankRun_err2 (R := fun ty v w' => ErrIs w' (.iface ty v) c (-1) ∧ Below w.heap.size w w') a _ cap per na _ ncap w (fun W hB => linkCheck_ok a cap ps per W (hl.below hB.below) ho h1 h2) (fun W hB => (checkUpTo_bad na ncap ns 100 W ad (he.below hB.below).nums (hn.below hB.below) c h hc).mono ?_)
 rintro e w' ⟨rfl, hb⟩
 have hb' := hB.below.trans (hb.mono hB.below.size)
 obtain ⟨ty, v, e1, e2⟩ := errIs_nums (he.below hb') h hc
 exact ⟨ty, v, by rw [e1], e2, hb'⟩
theorem rankDue_isL (a : Option Addr) (cap : Nat) (ps : List Pk) (per : Int) (na : Option Addr) (nn ncap : Nat) (w : World) (ad : Nat → Addr) (he : Errs9 w ad) (hl : LiesP w a ps) (hcap : ps.length ≤ cap) (hm : cap ≤ maxLen) (c p : Int) (h : LinkFaultIs ps per c p) (hc : 0 < c) :
  Calls Tryz.prog 87 #[.slice a ps.length cap, .int .i64 per, .slice na nn ncap] w fun e w' => ∃ ty v, e = .returned (.tuple #[.slice none 0 0, .iface ty v]) ∧ (ErrIs w' (.iface ty v) c p ∧ Below w.heap.size w w') := by
 refine rankDue_err1 (R := fun ty v w' => ErrIs w' (.iface ty v) c p ∧ Below w.heap.size w w') a _ cap per na _ ncap w (fun W hB => (linkCheck_is a cap ps per c p W ad (he.below hB.below) (hl.below hB.below) hcap hm h hc).mono ?_)
 rintro e w' ⟨ty, v, rfl, hE, hb⟩
 exact ⟨ty, v, rfl, hE, hB.below.trans (hb.mono hB.below.size)⟩
theorem rankDue_isN (a : Option Addr) (cap : Nat) (ps : List Pk) (per : Int) (na : Option Addr) (ncap : Nat) (ns : List Int) (w : World) (ad : Nat → Addr) (he : Errs9 w ad) (hl : LiesP w a ps) (hn : LiesN w na ns) (ho : OkPks ps) (h1 : 1 ≤ per) (h2 : per ≤ 1000) (c : Nat) (h : NumsFault 0 1099511627776 ns c) (hc : 0 < c) :
  Calls Tryz.prog 87 #[.slice a ps.length cap, .int .i64 per, .slice na ns.length ncap] w fun e w' => ∃ ty v, e = .returned (.tuple #[.slice none 0 0, .iface ty v]) ∧ (ErrIs w' (.iface ty v) c (-1) ∧ Below w.heap.size w w') := by
 refine rankDue_err2 (R := fun ty v w' => ErrIs w' (.iface ty v) c (-1) ∧ Below w.heap.size w w') a _ cap per na _ ncap w (fun W hB => linkCheck_ok a cap ps per W (hl.below hB.below) ho h1 h2) (fun W hB => (checkUpTo_bad na ncap ns 1099511627776 W ad (he.below hB.below).nums (hn.below hB.below) c h hc).mono ?_)
 rintro e w' ⟨rfl, hb⟩
 have hb' := hB.below.trans (hb.mono hB.below.size)
 obtain ⟨ty, v, e1, e2⟩ := errIs_nums (he.below hb') h hc
 exact ⟨ty, v, by rw [e1], e2, hb'⟩
theorem roundRun_isL (a : Option Addr) (cap : Nat) (ps : List Pk) (per : Int) (na : Option Addr) (nn ncap : Nat) (w : World) (ad : Nat → Addr) (he : Errs9 w ad) (hl : LiesP w a ps) (hcap : ps.length ≤ cap) (hm : cap ≤ maxLen) (c p : Int) (h : LinkFaultIs ps per c p) (hc : 0 < c) :
  Calls Tryz.prog 26 #[.slice a ps.length cap, .int .i64 per, .slice na nn ncap] w fun e w' => ∃ ty v, e = .returned (.tuple #[.slice none 0 0, .iface ty v]) ∧ (ErrIs w' (.iface ty v) c p ∧ Below w.heap.size w w') :=
 roundRun_err1 (R := fun ty v w' => ErrIs w' (.iface ty v) c p ∧ Below w.heap.size w w') a _ cap per na _ ncap w (linkCheck_is a cap ps per c p w ad he hl hcap hm h hc)
theorem roundRun_isN (a : Option Addr) (cap : Nat) (ps : List Pk) (per : Int) (na : Option Addr) (ncap : Nat) (ns : List Int) (w : World) (ad : Nat → Addr) (he : Errs9 w ad) (hl : LiesP w a ps) (hn : LiesN w na ns) (ho : OkPks ps) (h1 : 1 ≤ per) (h2 : per ≤ 1000) (c : Nat) (h : NumsFault 1 3000 ns c) (hc : 0 < c) :
  Calls Tryz.prog 26 #[.slice a ps.length cap, .int .i64 per, .slice na ns.length ncap] w fun e w' => ∃ ty v, e = .returned (.tuple #[.slice none 0 0, .iface ty v]) ∧ (ErrIs w' (.iface ty v) c (-1) ∧ Below w.heap.size w w') := by
 refine roundRun_err2 (R := fun ty v w' => ErrIs w' (.iface ty v) c (-1) ∧ Below w.heap.size w w') a _ cap per na _ ncap w (linkCheck_ok a cap ps per w hl ho h1 h2) (fun W hb => (checkQuanta_bad na ncap ns W ad (he.below hb).nums (hn.below hb) c h hc).mono ?_)
 rintro e w' ⟨rfl, rfl⟩
 obtain ⟨ty, v, e1, e2⟩ := errIs_numsB (he.below hb) h hc
 exact ⟨ty, v, by rw [e1], e2, hb⟩
theorem errIs_wts {w : World} {ad : Nat → Addr} (he : Errs9 w ad) {ns : List Int} {c : Nat} (h : WtsFault ns c) (hc : 0 < c) : ∃ ty v, sentOf ad c = .iface ty v ∧ ErrIs w (.iface ty v) c (-1) := by
 rcases h with ⟨rfl, -⟩ | ⟨rfl, -⟩ | ⟨rfl, -⟩
 · exact ⟨_, _, rfl, errIs_sent he 2 (by decide)⟩
 · exact ⟨_, _, rfl, errIs_sent he 1 (by decide)⟩
 · omega
theorem fairCheck_isL (a : Option Addr) (cap : Nat) (ps : List Pk) (per : Int) (na : Option Addr) (nn ncap : Nat) (w : World) (ad : Nat → Addr) (he : Errs9 w ad) (hl : LiesP w a ps) (hcap : ps.length ≤ cap) (hm : cap ≤ maxLen) (c p : Int) (h : LinkFaultIs ps per c p) (hc : 0 < c) :
  Calls Tryz.prog 135 #[.slice a ps.length cap, .int .i64 per, .slice na nn ncap] w fun e w' => ∃ ty v, e = .returned (.iface ty v) ∧ (ErrIs w' (.iface ty v) c p ∧ Below w.heap.size w w') :=
 fairCheck_err1 (R := fun ty v w' => ErrIs w' (.iface ty v) c p ∧ Below w.heap.size w w') a _ cap per na _ ncap w (linkCheck_is a cap ps per c p w ad he hl hcap hm h hc)
theorem fairCheck_isN (a : Option Addr) (cap : Nat) (ps : List Pk) (per : Int) (na : Option Addr) (ncap : Nat) (ns : List Int) (w : World) (ad : Nat → Addr) (he : Errs9 w ad) (hl : LiesP w a ps) (hn : LiesN w na ns) (ho : OkPks ps) (h1 : 1 ≤ per) (h2 : per ≤ 1000) (c : Nat) (h : WtsFault ns c) (hc : 0 < c) :
  Calls Tryz.prog 135 #[.slice a ps.length cap, .int .i64 per, .slice na ns.length ncap] w fun e w' => ∃ ty v, e = .returned (.iface ty v) ∧ (ErrIs w' (.iface ty v) c (-1) ∧ Below w.heap.size w w') := by
 refine fairCheck_err2 (R := fun ty v w' => ErrIs w' (.iface ty v) c (-1) ∧ Below w.heap.size w w') a _ cap per na _ ncap w (linkCheck_ok a cap ps per w hl ho h1 h2) (fun W hb => (checkWeights_bad na ncap ns W ad (he.below hb).nums (hn.below hb) c h hc).mono ?_)
 rintro e w' ⟨rfl, rfl⟩
 obtain ⟨ty, v, e1, e2⟩ := errIs_wts (he.below hb) h hc
 exact ⟨ty, v, by rw [e1], e2, hb⟩
end Go.Proofs.YtibhkijaafdkoaaGreatDoor
