/- Walks: package fair's check and Run. -/
import Derived.Test.YtolbmkniafkeaaaDoorCAllFairQs
import Derived.Test.YtolbmkniafkeaaaDoorCWts
import Derived.Test.YtolbmkniafkeaaaDoorCRankRun
namespace Go.Proofs.YtolbmkniafkeaaaDoor
open Go.RowKit

set_option maxHeartbeats 1000000 in
theorem fairCheck_ok (a : Option Addr) (cap : Nat) (ps : List Pk) (per : Int) (na : Option Addr) (ncap : Nat) (ws : List Int) (w : World) (hl : LiesP w a ps) (hn : LiesN w na ws) (ho : OkPks ps) (h1 : 1 ≤ per) (h2 : per ≤ 1000) (hk : WtsAll ws) :
    Calls Tryd.prog 41 #[.slice a ps.length cap, .int .i64 per, .slice na ws.length ncap] w fun e w' => e = .returned .nilIface ∧ Below w.heap.size w w' := by
  have HCheck : Hid (Calls Tryd.prog 23 #[.slice a ps.length cap, .int .i64 per] w fun e w' => e = .returned .nilIface ∧ Below w.heap.size w w') := linkCheck_ok a cap ps per w hl ho h1 h2
  have HUp : Hid (∀ W, Below w.heap.size w W → Calls Tryd.prog 38 #[.slice na ws.length ncap, .func (.func 71) #[] #[]] W fun e w' => e = .returned .nilIface ∧ w' = W) := fun W hb => checkWeights_ok na ncap ws W (hn.below hb) hk
  clear hl hn ho hk
  generalize ps.length = n at *
  generalize ws.length = m at *
  go_enter Tryd.func41, Tryd.ntmps41
  go_wp2_with fail
  refine HCheck.out.mono ?_
  rintro e w1 ⟨rfl, hb⟩
  have HB1 : Hid (Below w.heap.size w w1) := hb
  clear hb
  go_wp2_with fail
  refine (HUp.out _ HB1.out).mono ?_
  rintro e w2 ⟨rfl, rfl⟩
  go_wp2_with fail
  go_ret
  exact ⟨rfl, HB1.out⟩
set_option maxHeartbeats 1000000 in
theorem fairCheck_err1 {R : TypeId → Value → World → Prop} (a : Option Addr) (n cap : Nat) (per : Int) (na : Option Addr) (m ncap : Nat) (w : World) (h : Calls Tryd.prog 23 #[.slice a n cap, .int .i64 per] w fun e w' => ∃ ty v, e = .returned (.iface ty v) ∧ R ty v w') :
    Calls Tryd.prog 41 #[.slice a n cap, .int .i64 per, .slice na m ncap] w fun e w' => ∃ ty v, e = .returned (.iface ty v) ∧ R ty v w' := by
  have HC : Hid (Calls Tryd.prog 23 #[.slice a n cap, .int .i64 per] w fun e w' => ∃ ty v, e = .returned (.iface ty v) ∧ R ty v w') := h
  clear h
  go_enter Tryd.func41, Tryd.ntmps41
  go_wp2_with fail
  refine HC.out.mono ?_
  rintro e w1 ⟨ty, v, rfl, hR⟩
  have HR : Hid (R ty v w1) := hR
  clear hR
  go_wp2_with fail
  go_ret
  exact ⟨ty, v, rfl, HR.out⟩
set_option maxHeartbeats 1000000 in
theorem fairCheck_err2 {R : TypeId → Value → World → Prop} (a : Option Addr) (n cap : Nat) (per : Int) (na : Option Addr) (m ncap : Nat) (w : World) (h : Calls Tryd.prog 23 #[.slice a n cap, .int .i64 per] w fun e w' => e = .returned .nilIface ∧ Below w.heap.size w w')
    (h2 : ∀ W, Below w.heap.size w W → Calls Tryd.prog 38 #[.slice na m ncap, .func (.func 71) #[] #[]] W fun e w' => ∃ ty v, e = .returned (.iface ty v) ∧ R ty v w') :
    Calls Tryd.prog 41 #[.slice a n cap, .int .i64 per, .slice na m ncap] w fun e w' => ∃ ty v, e = .returned (.iface ty v) ∧ R ty v w' := by
  have HC : Hid (Calls Tryd.prog 23 #[.slice a n cap, .int .i64 per] w fun e w' => e = .returned .nilIface ∧ Below w.heap.size w w') := h
  have HU : Hid (∀ W, Below w.heap.size w W → Calls Tryd.prog 38 #[.slice na m ncap, .func (.func 71) #[] #[]] W fun e w' => ∃ ty v, e = .returned (.iface ty v) ∧ R ty v w') := h2
  clear h h2
  go_enter Tryd.func41, Tryd.ntmps41
  go_wp2_with fail
  refine HC.out.mono ?_
  rintro e w1 ⟨rfl, hb⟩
  have HB : Hid (Below w.heap.size w w1) := hb
  clear hb
  go_wp2_with fail
  refine (HU.out _ HB.out).mono ?_
  rintro e w2 ⟨ty, v, rfl, hR⟩
  have HR : Hid (R ty v w2) := hR
  clear hR
  go_wp2_with fail
  go_ret
  exact ⟨ty, v, rfl, HR.out⟩

theorem fairSend_from (a : Option Addr) (cap : Nat) (ps : List Pk) (per : Int) (na : Option Addr) (ncap : Nat) (ws : List Int) (w : World) (hl : LiesP w a ps) (hn : LiesN w na ws) (ho : OkPks ps) (h1 : 1 ≤ per) (h2 : per ≤ 1000) (hk : WtsAll ws) (W W3 W4 : World) (g gt gm : Nat) (D : Nat → Prop) (hb : Below w.heap.size w W) (h0 : HeldW W.heap.size W g gt gm ps.length (.slice a ps.length cap) (.slice na ws.length ncap) W3 D fair0) (hb3 : Below W.heap.size W W3) (hb4 : Below W3.heap.size W3 W4) :
    Calls Tryd.prog 32 #[.slice a ps.length cap, .int .i64 per, .iface 101 (ruleW g)] W4 fun e w' => ∃ v, e = .returned v ∧ SentTags per ps ws w.heap.size g gt w v w' := by
  have hlW := hl.below hb
  have hnW := hn.below hb
  have hs3 : W.heap.size ≤ W3.heap.size := hb3.size
  refine (fairSend_ok a cap ps per na ncap ws W.heap.size W g gt gm D W4 ⟨hlW, hnW, hlW.at_lt, fun ad had => ?_, ho, hk⟩ h1 h2 (h0.later hb4)).mono ?_
  · obtain ⟨b, off, e, hlt, -⟩ := hnW.place (by rw [hk.len]; omega)
    rw [e] at had
    cases had
    exact hlt
  · rintro e w' ⟨v, rfl, l, f, g1, g2, g3, g4, g5⟩
    have hbb : Below w.heap.size w W4 := (hb.trans (hb3.mono hb.size)).trans (hb4.mono (Nat.le_trans hb.size hs3))
    exact ⟨v, rfl, l, f, ownsRow_mono g1 hbb.size, g2, hbb.trans (g3.mono hb.size), g4, g5⟩

set_option maxRecDepth 100000 in
set_option maxHeartbeats 2000000 in
theorem fairRun_ok (a : Option Addr) (cap : Nat) (ps : List Pk) (per : Int) (na : Option Addr) (ncap : Nat) (ws : List Int) (w : World) (hl : LiesP w a ps) (hn : LiesN w na ws) (ho : OkPks ps) (h1 : 1 ≤ per) (h2 : per ≤ 1000) (hk : WtsAll ws) :
    Calls Tryd.prog 21 #[.slice a ps.length cap, .int .i64 per, .slice na ws.length ncap] w fun e w' => ∃ v, e = .returned (.tuple #[v, .nilIface]) ∧ ∃ g gt, SentTags per ps ws w.heap.size g gt w v w' := by
  have HCheck : Hid (Calls Tryd.prog 41 #[.slice a ps.length cap, .int .i64 per, .slice na ws.length ncap] w fun e w' => e = .returned .nilIface ∧ Below w.heap.size w w') := fairCheck_ok a cap ps per na ncap ws w hl hn ho h1 h2 hk
  have HNew : Hid (∀ W, Calls Tryd.prog 42 #[.slice a ps.length cap, .slice na ws.length ncap] W fun e w' => ∃ g gt gm, e = .returned (.pointer (some ⟨g, 0, none⟩)) ∧ HeldW W.heap.size W g gt gm ps.length (.slice a ps.length cap) (.slice na ws.length ncap) w' (fairFoot g gt gm (.slice none 0 0)) fair0 ∧ Below W.heap.size W w') := fun W => newTags_any a ps.length cap na ws.length ncap W (by have := ho.few; omega)
  have HSend : Hid (∀ W W3 W4 g gt gm D, Below w.heap.size w W → HeldW W.heap.size W g gt gm ps.length (.slice a ps.length cap) (.slice na ws.length ncap) W3 D fair0 → Below W.heap.size W W3 → Below W3.heap.size W3 W4 →
      Calls Tryd.prog 32 #[.slice a ps.length cap, .int .i64 per, .iface 101 (ruleW g)] W4 fun e w' => ∃ v, e = .returned v ∧ SentTags per ps ws w.heap.size g gt w v w') := fun W W3 W4 g gt gm D hb h0 hb3 hb4 => fairSend_from a cap ps per na ncap ws w hl hn ho h1 h2 hk W W3 W4 g gt gm D hb h0 hb3 hb4
  clear hl hn ho hk
  generalize hpl : ps.length = n at *
  generalize hnl : ws.length = m at *
  clear hpl hnl
  go_enter Tryd.func21, Tryd.ntmps21
  go_wp2_with fail
  refine HCheck.out.mono ?_
  rintro e w1 ⟨rfl, hb⟩
  have HB1 : Hid (Below w.heap.size w w1) := hb
  clear hb
  go_wp2_with fail
  refine (HNew.out _).mono ?_
  rintro e w3 ⟨g, gt, gm, rfl, hh, hb3⟩
  have HS : Hid (∀ W4, Below w3.heap.size w3 W4 → Calls Tryd.prog 32 #[.slice a n cap, .int .i64 per, .iface 101 (ruleW g)] W4 fun e w' => ∃ v, e = .returned v ∧ SentTags per ps ws w.heap.size g gt w v w') := fun W4 hb4 => HSend.out w1 w3 W4 g gt gm _ HB1.out hh hb3 hb4
  clear hh hb3
  go_wp2_with fail
  refine (fairQueue_any g _).mono ?_
  rintro e w4 ⟨rfl, hb4⟩
  have HC4 := HS.out w4 hb4
  have HS4 : Hid (Calls Tryd.prog 32 #[.slice a n cap, .int .i64 per, .iface 101 (ruleW g)] w4 fun e w' => ∃ v, e = .returned v ∧ SentTags per ps ws w.heap.size g gt w v w') := HC4
  clear HC4 hb4
  go_wp2_with fail
  refine HS4.out.mono ?_
  rintro e w5 ⟨v, rfl, hs⟩
  have HE : Hid (SentTags per ps ws w.heap.size g gt w v w5) := hs
  clear hs
  go_wp2_with fail
  go_ret2
  exact ⟨v, rfl, g, gt, HE.out⟩

set_option maxHeartbeats 1000000 in
theorem fairRun_err {R : TypeId → Value → World → Prop} (a : Option Addr) (n cap : Nat) (per : Int) (na : Option Addr) (m ncap : Nat) (w : World) (h : Calls Tryd.prog 41 #[.slice a n cap, .int .i64 per, .slice na m ncap] w fun e w' => ∃ ty v, e = .returned (.iface ty v) ∧ R ty v w') :
    Calls Tryd.prog 21 #[.slice a n cap, .int .i64 per, .slice na m ncap] w fun e w' => ∃ ty v, e = .returned (.tuple #[.slice none 0 0, .iface ty v]) ∧ R ty v w' := by
  have HC : Hid (Calls Tryd.prog 41 #[.slice a n cap, .int .i64 per, .slice na m ncap] w fun e w' => ∃ ty v, e = .returned (.iface ty v) ∧ R ty v w') := h
  clear h
  go_enter Tryd.func21, Tryd.ntmps21
  go_wp2_with fail
  refine HC.out.mono ?_
  rintro e w1 ⟨ty, v, rfl, hR⟩
  have HR : Hid (R ty v w1) := hR
  clear hR
  go_wp2_with fail
  go_ret2
  exact ⟨ty, v, rfl, HR.out⟩
end Go.Proofs.YtolbmkniafkeaaaDoor
