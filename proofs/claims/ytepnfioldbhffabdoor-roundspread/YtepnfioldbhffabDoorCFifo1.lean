/- Walks: package fifo's Run. -/
import Derived.Test.YtepnfioldbhffabDoorCAllLinks
import Derived.Test.YtepnfioldbhffabDoorCFifoQ
namespace Go.Proofs.YtepnfioldbhffabDoor
open Go.RowKit

/-- Where packets lie, if there are any. -/
theorem LiesP.at_lt {w : World} {a : Option Addr} {ps : List Pk} (h : LiesP w a ps) : ∀ ad, a = some ad → 0 < ps.length → ad.block < w.heap.size := by
  intro ad e h0
  obtain ⟨b, off, rfl, hlt, -⟩ := h.place h0
  cases e
  exact hlt

theorem fifoMem (B g : Nat) : QueMem (HeldF B g) B := ⟨fun _ _ _ h => h.foot, fun _ _ _ _ _ h hb hs _ => h.but hb hs⟩

theorem fifoSend_ok (a : Option Addr) (cap : Nat) (ps : List Pk) (per : Int) (g : Nat) (w : World) (hl : LiesP w a ps) (ho : OkPks ps) (h1 : 1 ≤ per) (h2 : per ≤ 1000) (ha : ∀ ad, a = some ad → 0 < ps.length → ad.block < g) (h0 : HeldF g g w (fun k => k = g) []) :
    Calls Tryd.prog 53 #[.slice a ps.length cap, .int .i64 per, .iface 117 (ruleF g)] w fun e w' => ∃ v, e = .returned v ∧ OwnS w' w.heap.size v (lindAll per ps ps.length) ∧ Below g w w' := by
  have hlaw := fifo_law (per := per) (by omega) ho
  have hgw : g ≤ w.heap.size := Nat.le_of_lt (h0.foot g rfl).2
  refine (send_any fifoQ (HeldF g g) per ps [] g _ _ _ (fifoMem g g) hlaw ho h1 h2 ?_ ?_ ?_ a cap w hl hgw ha _ h0).mono ?_
  · intro w D s p hr hp hh
    have hc := hr.count hlaw
    have hn := hr.next_le
    have := ho.few
    exact fifoRuleCome g g D s.q s.next w hh (by have : fifoQ.rest s.q = s.q.length := rfl; omega)
  · intro w D s hr h0 hh
    have hc := hr.count hlaw
    have hn := hr.next_le
    have := ho.few
    have hlen : s.q.length ≤ 1000 := by have : fifoQ.rest s.q = s.q.length := rfl; omega
    have h0' : 0 < s.q.length := h0
    obtain ⟨k, q, hq⟩ : ∃ k q, s.q = k :: q := by
      cases h : s.q with
      | nil => rw [h] at h0'; simp at h0'
      | cons k q => exact ⟨k, q, rfl⟩
    rw [hq] at hh hlen ⊢
    exact fifoRulePick g g D q k w hh (by simp at hlen; omega)
  · intro w D s hr hh
    rw [asked_same _ (fun _ => rfl)]
    exact fifoRuleRest g g D s.q w hh
  · rintro e w' ⟨s, v, rfl, hr, hn, hrest, hown, hb⟩
    exact ⟨v, rfl, by rw [← fifo_end (by omega) ho hr hn hrest]; exact hown, hb⟩

set_option maxHeartbeats 1000000 in
theorem fifoRun_ok (a : Option Addr) (cap : Nat) (ps : List Pk) (per : Int) (w : World) (hl : LiesP w a ps) (ho : OkPks ps) (h1 : 1 ≤ per) (h2 : per ≤ 1000) :
    Calls Tryd.prog 25 #[.slice a ps.length cap, .int .i64 per] w fun e w' => ∃ v, e = .returned (.tuple #[v, .nilIface]) ∧ OwnS w' w.heap.size v (lindAll per ps ps.length) ∧ Below w.heap.size w w' := by
  have HL : Hid (LiesP w a ps ∧ OkPks ps) := ⟨hl, ho⟩
  have HC : Hid (Calls Tryd.prog 52 #[.slice a ps.length cap, .int .i64 per] w fun e w' => e = .returned .nilIface ∧ Below w.heap.size w w') := linkCheck_ok a cap ps per w hl ho h1 h2
  clear hl ho
  go_enter Tryd.func25, Tryd.ntmps25
  go_wp2_with fail
  refine HC.out.mono ?_
  rintro e w1 ⟨rfl, hb⟩
  have HB1 : Hid (Below w.heap.size w w1) := hb
  clear hb
  go_wp2_with fail
  refine (inOrder_any w1).mono ?_
  rintro e w2 ⟨rfl, hh, hb⟩
  have HB2 : Hid (Below w1.heap.size w1 w2) := hb
  have HH : Hid (HeldF w1.heap.size w1.heap.size w2 (fun k => k = w1.heap.size) []) := hh
  have HLP : Hid (LiesP w2 a ps) := (HL.out.1.below HB1.out).below hb
  have HAt : Hid (∀ ad, a = some ad → 0 < ps.length → ad.block < w1.heap.size) := (HL.out.1.below HB1.out).at_lt
  clear hb hh
  go_wp2_with fail
  refine (fifoSend_ok a cap ps per w1.heap.size w2 HLP.out HL.out.2 h1 h2 HAt.out HH.out).mono ?_
  rintro e w3 ⟨v, rfl, hown, hb⟩
  have HO : Hid (OwnS w3 w.heap.size v (lindAll per ps ps.length) ∧ Below w.heap.size w w3) := ⟨ownsRow_mono hown (Nat.le_trans HB1.out.size HB2.out.size), HB1.out.trans ((HB2.out.mono HB1.out.size).trans (hb.mono HB1.out.size))⟩
  clear hown hb
  go_wp2_with fail
  go_ret2
  exact ⟨v, rfl, HO.out⟩

set_option maxHeartbeats 1000000 in
theorem fifoRun_err {R : TypeId → Value → World → Prop} (a : Option Addr) (n cap : Nat) (per : Int) (w : World) (h : Calls Tryd.prog 52 #[.slice a n cap, .int .i64 per] w fun e w' => ∃ ty v, e = .returned (.iface ty v) ∧ R ty v w') :
    Calls Tryd.prog 25 #[.slice a n cap, .int .i64 per] w fun e w' => ∃ ty v, e = .returned (.tuple #[.slice none 0 0, .iface ty v]) ∧ R ty v w' := by
  have HC : Hid (Calls Tryd.prog 52 #[.slice a n cap, .int .i64 per] w fun e w' => ∃ ty v, e = .returned (.iface ty v) ∧ R ty v w') := h
  clear h
  go_enter Tryd.func25, Tryd.ntmps25
  go_wp2_with fail
  refine HC.out.mono ?_
  rintro e w1 ⟨ty, v, rfl, hR⟩
  have HR : Hid (R ty v w1) := hR
  clear hR
  go_wp2_with fail
  go_ret2
  exact ⟨ty, v, rfl, HR.out⟩
end Go.Proofs.YtepnfioldbhffabDoor
