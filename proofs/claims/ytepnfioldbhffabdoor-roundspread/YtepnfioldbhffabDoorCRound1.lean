/- Walks: package round's Run. -/
import Derived.Test.YtepnfioldbhffabDoorCAllTurns
namespace Go.Proofs.YtepnfioldbhffabDoor
open Go.RowKit

/-- What a link that sends round by round leaves. -/
def SentRounds (per : Int) (ps : List Pk) (ns : List Int) (B : Nat) (w : World) (v : Value) (w' : World) : Prop := ∃ l, OwnS w' w.heap.size v l ∧ RoundSent per ps ns l ∧ Below B w w'

theorem roundSend_ok (a : Option Addr) (cap : Nat) (ps : List Pk) (per : Int) (na : Option Addr) (ncap : Nat) (ns : List Int) (B : Nat) (W0 : World) (g : Nat) (D0 : Nat → Prop) (w : World) (E : TurnsEnv B W0 a na ps ns) (h1 : 1 ≤ per) (h2 : per ≤ 1000) (h0 : HeldT B W0 g (.slice a ps.length cap) (.slice na ns.length ncap) w D0 turns0) :
    Calls Tryd.prog 53 #[.slice a ps.length cap, .int .i64 per, .iface 117 (ruleT g)] w fun e w' => ∃ v, e = .returned v ∧ SentRounds per ps ns B w v w' := by
  have hqu : ∀ f, 1 ≤ quOf ns f := fun f => (quOf_in E.ns.each (by omega) f).1
  have hlaw := turns_law (per := per) (ps := ps) E.ok hqu
  have hlen : ∀ s, Reaches (turnsQ ps ns) per ps turns0 s → s.q.n ≤ 300 := fun s hr => by
    have hc := hr.count hlaw
    have hn := hr.next_le
    have := E.ok.few
    have : (turnsQ ps ns).rest s.q = s.q.n := rfl
    omega
  refine (send_any (turnsQ ps ns) (HeldT B W0 g (.slice a ps.length cap) (.slice na ns.length ncap)) per ps turns0 B _ _ _ (turnsMem B W0 g _ _) hlaw E.ok h1 h2 ?_ ?_ ?_ a cap w (E.pk.bel E.pB h0.env) h0.le E.pB D0 h0).mono ?_
  · intro w D s p hr hp hh
    exact turnsRuleCome E hh (turns_ok E.ok hqu hr) (hlen s hr) hp
  · intro w D s hr h0' hh
    exact turnsRulePick E hh (turns_ok E.ok hqu hr) h0' (hlen s hr) (fun f => by
      obtain ⟨f1, f2⟩ := turns_few E.ok hqu hr f
      exact ⟨f1, fun k hk => by have := (f2 k hk).1; have := hr.next_le; omega⟩)
  · intro w D s hr hh
    rw [asked_same _ (fun _ => rfl)]
    exact turnsRuleRest hh
  · rintro e w' ⟨s, v, rfl, hr, hn, hrest, hown, hb⟩
    exact ⟨v, rfl, s.out, hown, ⟨s, hr, hn, hrest, rfl⟩, hb⟩

set_option maxRecDepth 100000 in
set_option maxHeartbeats 2000000 in
theorem roundRun_ok (a : Option Addr) (cap : Nat) (ps : List Pk) (per : Int) (na : Option Addr) (ncap : Nat) (ns : List Int) (w : World) (hl : LiesP w a ps) (hn : LiesN w na ns) (ho : OkPks ps) (h1 : 1 ≤ per) (h2 : per ≤ 1000) (hk : NumsOk 1 3000 ns) :
    Calls Tryd.prog 42 #[.slice a ps.length cap, .int .i64 per, .slice na ns.length ncap] w fun e w' => ∃ v, e = .returned (.tuple #[v, .nilIface]) ∧ SentRounds per ps ns w.heap.size w v w' := by
  have HCheck : Hid (∀ W, Below w.heap.size w W → Calls Tryd.prog 52 #[.slice a ps.length cap, .int .i64 per] W fun e w' => e = .returned .nilIface ∧ Below W.heap.size W w') := fun W hb => linkCheck_ok a cap ps per W (hl.below hb) ho h1 h2
  have HUp : Hid (∀ W, Below w.heap.size w W → Calls Tryd.prog 68 #[.slice na ns.length ncap, .func (.func 69) #[] #[]] W fun e w' => e = .returned .nilIface ∧ w' = W) := fun W hb => checkQuanta_ok na ncap ns W (hn.below hb) hk
  have HSend : Hid (∀ W W3, Below w.heap.size w W → HeldT W.heap.size W W.heap.size (.slice a ps.length cap) (.slice na ns.length ncap) W3 (fun k => k = W.heap.size) turns0 → Below W.heap.size W W3 →
      Calls Tryd.prog 53 #[.slice a ps.length cap, .int .i64 per, .iface 117 (ruleT W.heap.size)] W3 fun e w' => ∃ v, e = .returned v ∧ SentRounds per ps ns w.heap.size w v w') := fun W W3 hb h0 hb3 => by
    have hlW := hl.below hb
    have hnW := hn.below hb
    refine (roundSend_ok a cap ps per na ncap ns W.heap.size W W.heap.size _ W3 ⟨hlW, hnW, hlW.at_lt, fun ad had => ?_, ho, hk⟩ h1 h2 h0).mono ?_
    · obtain ⟨b, off, e, hlt, -⟩ := hnW.place (by rw [hk.len]; omega)
      rw [e] at had
      cases had
      exact hlt
    · rintro e w' ⟨v, rfl, l, g1, g2, g3⟩
      exact ⟨v, rfl, l, ownsRow_mono g1 (Nat.le_trans hb.size hb3.size), g2, (hb.trans (hb3.mono hb.size)).trans (g3.mono hb.size)⟩
  clear hl hn ho hk
  generalize hpl : ps.length = n at *
  generalize hnl : ns.length = m at *
  clear hpl hnl
  go_enter Tryd.func42, Tryd.ntmps42
  go_wp2_with fail
  refine (HCheck.out _ (Below.refl _ _)).mono ?_
  rintro e w1 ⟨rfl, hb⟩
  have HB1 : Hid (Below w.heap.size w w1) := hb
  clear hb
  go_wp2_with fail
  refine (HUp.out _ HB1.out).mono ?_
  rintro e w2 ⟨rfl, rfl⟩
  go_wp2_with fail
  refine (byTurns_any a n cap na m ncap w2).mono ?_
  rintro e w3 ⟨rfl, hh, hb3⟩
  have HS : Hid (Calls Tryd.prog 53 #[.slice a n cap, .int .i64 per, .iface 117 (ruleT w2.heap.size)] w3 fun e w' => ∃ v, e = .returned v ∧ SentRounds per ps ns w.heap.size w v w') := HSend.out w2 w3 HB1.out hh hb3
  clear hh hb3
  go_wp2_with fail
  refine HS.out.mono ?_
  rintro e w4 ⟨v, rfl, hs⟩
  have HE : Hid (SentRounds per ps ns w.heap.size w v w4) := hs
  clear hs
  go_wp2_with fail
  go_ret2
  exact ⟨v, rfl, HE.out⟩

set_option maxRecDepth 100000 in
set_option maxHeartbeats 1000000 in
theorem roundRun_err1 {R : TypeId → Value → World → Prop} (a : Option Addr) (n cap : Nat) (per : Int) (na : Option Addr) (m ncap : Nat) (w : World) (h : Calls Tryd.prog 52 #[.slice a n cap, .int .i64 per] w fun e w' => ∃ ty v, e = .returned (.iface ty v) ∧ R ty v w') :
    Calls Tryd.prog 42 #[.slice a n cap, .int .i64 per, .slice na m ncap] w fun e w' => ∃ ty v, e = .returned (.tuple #[.slice none 0 0, .iface ty v]) ∧ R ty v w' := by
  have HC : Hid (Calls Tryd.prog 52 #[.slice a n cap, .int .i64 per] w fun e w' => ∃ ty v, e = .returned (.iface ty v) ∧ R ty v w') := h
  clear h
  go_enter Tryd.func42, Tryd.ntmps42
  go_wp2_with fail
  refine HC.out.mono ?_
  rintro e w1 ⟨ty, v, rfl, hR⟩
  have HR : Hid (R ty v w1) := hR
  clear hR
  go_wp2_with fail
  go_ret2
  exact ⟨ty, v, rfl, HR.out⟩
set_option maxRecDepth 100000 in
set_option maxHeartbeats 1000000 in
theorem roundRun_err2 {R : TypeId → Value → World → Prop} (a : Option Addr) (n cap : Nat) (per : Int) (na : Option Addr) (m ncap : Nat) (w : World) (h : Calls Tryd.prog 52 #[.slice a n cap, .int .i64 per] w fun e w' => e = .returned .nilIface ∧ Below w.heap.size w w')
    (h2 : ∀ W, Below w.heap.size w W → Calls Tryd.prog 68 #[.slice na m ncap, .func (.func 69) #[] #[]] W fun e w' => ∃ ty v, e = .returned (.iface ty v) ∧ R ty v w') :
    Calls Tryd.prog 42 #[.slice a n cap, .int .i64 per, .slice na m ncap] w fun e w' => ∃ ty v, e = .returned (.tuple #[.slice none 0 0, .iface ty v]) ∧ R ty v w' := by
  have HC : Hid (Calls Tryd.prog 52 #[.slice a n cap, .int .i64 per] w fun e w' => e = .returned .nilIface ∧ Below w.heap.size w w') := h
  have HU : Hid (∀ W, Below w.heap.size w W → Calls Tryd.prog 68 #[.slice na m ncap, .func (.func 69) #[] #[]] W fun e w' => ∃ ty v, e = .returned (.iface ty v) ∧ R ty v w') := h2
  clear h h2
  go_enter Tryd.func42, Tryd.ntmps42
  go_wp2_with fail
  refine HC.out.mono ?_
  rintro e w1 ⟨rfl, hb⟩
  have HB : Hid (Below w.heap.size w w1) := hb
  clear hb
  go_wp2_with fail
  refine (HU.out _ HB.out).mono ?_
  rintro e w2 ⟨ty, v, rfl, hR⟩
  have HR : Hid (R ty v w2) := hR
  clear hR
  go_wp2_with fail
  go_ret2
  exact ⟨ty, v, rfl, HR.out⟩
end Go.Proofs.YtepnfioldbhffabDoor
