/- FifoRuns: its ways. -/
import Derived.Test.YtcldgpbimaoliabDoorLeast2
import Derived.Test.YtcldgpbimaoliabDoorSameSent
import Derived.Test.YtcldgpbimaoliabDoorFault1
import Derived.Test.YtcldgpbimaoliabDoorFaulted
import Derived.Test.YtcldgpbimaoliabDoorSends
import Derived.Test.YtcldgpbimaoliabDoorFitPkts
import Derived.Test.YtcldgpbimaoliabDoorFifoQ
namespace Go.Proofs.YtcldgpbimaoliabDoor
open Go.RowKit

/-- What FifoOf leaves. -/
def FifoEnd (per : Int) (ps : List Pk) (w : World) (e : Ending) (w' : World) : Prop := ∃ v, e = .returned v ∧ OwnS w' w.heap.size v (lindAll per ps ps.length) ∧ Below w.heap.size w w'

set_option maxRecDepth 100000 in
set_option maxHeartbeats 1000000 in
theorem fifoOf_any (a : Option Addr) (cap : Nat) (ps : List Pk) (per : Int) (w : World) (hl : LiesP w a ps) (ho : OkPks ps) (h1 : 1 ≤ per) (h2 : per ≤ 1000) :
    Calls Tryd.prog 23 #[.slice a ps.length cap, .int .i64 per] w fun e w' => FifoEnd per ps w e w' := by
  have hfew := ho.few
  have HL : Hid (∀ w', w' = w.alloc (.cells (madeCells #[.int .i64 0] ps.length) 3) → Calls Tryd.prog 38 #[.slice a ps.length cap, .int .i64 per, .slice (some ⟨w.heap.size, 0, none⟩) ps.length ps.length] w' fun e w'' => FifoEnd per ps w e w'') := fun w' e => by
    subst e
    have hb : Below w.heap.size w (w.alloc (.cells (madeCells #[.int .i64 0] ps.length) 3)) := (Below.refl _ _).alloc (Nat.le_refl _) _
    refine (leastOf_any a cap ps per (some ⟨w.heap.size, 0, none⟩) ps.length (List.replicate ps.length 0) _ (hl.below hb) (liesN_made w ps.length 3) (by simp) ho h1 h2).mono ?_
    rintro e w'' ⟨v, l, rfl, h3, h4, h5, h6⟩
    have hsame : l = lindAll per ps ps.length := h4.same (lind_sched ho _ (fun i => by
      rw [List.getD_eq_getElem?_getD, List.getElem?_replicate]
      split <;> rfl)) (by rw [h5, lindAll_length])
    subst hsame
    exact ⟨v, rfl, ownsRow_mono h3 (by simp), hb.trans (h6.mono (by simp))⟩
  obtain ⟨n, hn⟩ : ∃ n, ps.length = n := ⟨_, rfl⟩
  rw [hn] at hfew HL ⊢
  have hmk : ∀ w' : World, (Instr.makeSlice 32 (.int .i64 n) (.int .i64 n)).run Tryd.prog w' = .ok (.slice (some ⟨w'.heap.size, 0, none⟩) n n) (w'.alloc (.cells (madeCells #[.int .i64 0] n) 3)) := fun w' => by
    obtain ⟨i0, hi, hz0, hz1, hz2⟩ := info_parts Tryd.infoInt
    have := run_make (P := Tryd.prog) w' 32 3 i0 (.int .i64 0) Tryd.underlying32 hi hz0 .i64 .i64 n n (by omega) (by omega) (by rw [hz2]; omega) (by omega)
    simpa [hz1, Value.cells] using this
  clear hl ho hn
  go_enter Tryd.func23, Tryd.ntmps23
  go_wp2_with fail
  refine (HL.out _ rfl).mono ?_
  rintro e w1 ⟨v, rfl, h3, h4⟩
  have HE : Hid (FifoEnd per ps w (.returned v) w1) := ⟨v, rfl, h3, h4⟩
  clear h3 h4
  go_wp2_with fail
  go_ret
  exact HE.out

set_option maxRecDepth 100000 in
set_option maxHeartbeats 1000000 in
theorem runs_many (pa : Option Addr) (n cap : Nat) (per : Int) (w : World) (h1 : ¬ (n : Int) ≤ 100) (h2 : n ≠ 301) :
    Calls Tryd.prog 5 #[.slice pa n cap, .int .i64 per] w fun e w' => e = .returned (.bool true) ∧ Below w.heap.size w w' := by
  have HF : Hid (∀ w', Calls Tryd.prog 19 #[.slice pa n cap, .int .i64 100] w' fun e w'' => e = .returned (.bool false) ∧ w'' = w') := fun w' => fitPkts_no pa n cap 100 w' h1 h2
  clear h1 h2
  go_enter Tryd.func5, Tryd.ntmps5
  go_wp2_with fail
  refine (sends_any _).mono ?_
  rintro e w1 ⟨rfl, hb⟩
  have HB : Hid (Below w.heap.size w w1) := hb
  clear hb
  go_wp2_with fail
  refine (HF.out _).mono ?_
  rintro e w2 ⟨rfl, rfl⟩
  go_wp2_with fail
  go_ret
  exact ⟨rfl, HB.out⟩

set_option maxRecDepth 100000 in
set_option maxHeartbeats 2000000 in
theorem runs_bad (pa : Option Addr) (cap : Nat) (ps : List Pk) (per c p : Int) (w : World) (ad : Nat → Addr) (he : Errs9 w ad) (hp : LiesP w pa ps) (hpa : pa = none → ps = [] ∧ cap = 0) (hcap : ps.length ≤ cap) (hm : cap ≤ maxLen) (hn : ps.length ≤ 100 ∨ ps.length = 301) (h : LinkFaultIs ps per c p) (hc : 0 < c) :
    Calls Tryd.prog 5 #[.slice pa ps.length cap, .int .i64 per] w fun e w' => e = .returned (.bool true) ∧ Below w.heap.size w w' := by
  have HE : Hid (Errs9 w ad) := he
  have HP : Hid (LiesP w pa ps ∧ (pa = none → ps = [] ∧ cap = 0) ∧ ps.length ≤ cap ∧ cap ≤ maxLen) := ⟨hp, hpa, hcap, hm⟩
  have HFault : Hid (LinkFaultIs ps per c p) := h
  have HF : Hid (∀ w', Calls Tryd.prog 19 #[.slice pa ps.length cap, .int .i64 100] w' fun e w'' => e = .returned (.bool true) ∧ w'' = w') := fun w' => fitPkts_yes pa ps.length cap 100 w' (Nat.le_trans hcap hm) (by omega)
  clear he hp hpa h hm hcap
  go_enter Tryd.func5, Tryd.ntmps5
  go_wp2_with fail
  refine (sends_any _).mono ?_
  rintro e w1 ⟨rfl, hb⟩
  have HB1 : Hid (Below w.heap.size w w1) := hb
  clear hb
  go_wp2_with fail
  refine (HF.out _).mono ?_
  rintro e w1' ⟨rfl, rfl⟩
  go_wp2_with fail
  refine (ownPackets_from pa cap ps w _ HB1.out HP.out.1 (by omega) HP.out.2.1).mono ?_
  rintro e w3 ⟨a3, k3, rfl, l3, g3, m3, b3, B3⟩
  have HB3 : Hid (Below w.heap.size w w3) := B3
  have HL3 : Hid (LiesP w3 a3 ps ∧ ps.length ≤ k3 ∧ k3 ≤ maxLen) := ⟨l3, g3, m3⟩
  clear l3 g3 m3 b3 B3
  go_wp2_with fail
  refine (fifoRun_is a3 k3 ps per c p w3 ad (HE.out.below HB3.out) HL3.out.1 HL3.out.2.1 HL3.out.2.2 HFault.out hc).mono ?_
  rintro e w4 ⟨ty, v, rfl, hE4, b4⟩
  have HB4 : Hid (Below w.heap.size w w4) := HB3.out.trans (b4.mono HB3.out.size)
  have HE4 : Hid (ErrIs w4 (.iface ty v) c p) := hE4
  clear b4 hE4
  go_wp2_with fail
  refine (refLinkFault_is pa cap ps per c p w4 (HP.out.1.below HB4.out) HP.out.2.2.1 HP.out.2.2.2 HFault.out).mono ?_
  rintro e w5 ⟨rfl, b5⟩
  have HB5 : Hid (Below w.heap.size w (w5.alloc (.cells #[.int .i64 c, .int .i64 p] 39))) := (HB4.out.trans (b5.mono HB4.out.size)).alloc (Nat.le_trans HB4.out.size b5.size) _
  have HE5 : Hid (ErrIs (w5.alloc (.cells #[.int .i64 c, .int .i64 p] 39)) (.iface ty v) c p) := (HE4.out.below b5).below ((Below.refl _ _).alloc (Nat.le_refl _) _)
  clear b5
  go_wp2_with fail
  refine (faulted_yes (.iface ty v) c p _ HE5.out.code).mono ?_
  rintro e w6 ⟨rfl, b6⟩
  have HB6 : Hid (Below w.heap.size w w6) := HB5.out.trans (b6.mono HB5.out.size)
  clear b6
  go_wp2_with fail
  go_ret
  exact ⟨rfl, HB6.out⟩

set_option maxRecDepth 100000 in
set_option maxHeartbeats 2000000 in
theorem runs_main (pa : Option Addr) (cap : Nat) (ps : List Pk) (per : Int) (w : World) (hp : LiesP w pa ps) (hpa : pa = none → ps = [] ∧ cap = 0) (hcap : ps.length ≤ cap) (hm : cap ≤ maxLen) (hn : ps.length ≤ 100) (ho : OkPks ps) (h1 : 1 ≤ per) (h2 : per ≤ 1000) :
    Calls Tryd.prog 5 #[.slice pa ps.length cap, .int .i64 per] w fun e w' => e = .returned (.bool true) ∧ Below w.heap.size w w' := by
  have HP : Hid (LiesP w pa ps ∧ (pa = none → ps = [] ∧ cap = 0) ∧ ps.length ≤ cap ∧ cap ≤ maxLen) := ⟨hp, hpa, hcap, hm⟩
  have HO : Hid (OkPks ps) := ho
  have HF : Hid (∀ w', Calls Tryd.prog 19 #[.slice pa ps.length cap, .int .i64 100] w' fun e w'' => e = .returned (.bool true) ∧ w'' = w') := fun w' => fitPkts_yes pa ps.length cap 100 w' (Nat.le_trans hcap hm) (by omega)
  clear hp hpa hm hcap ho
  go_enter Tryd.func5, Tryd.ntmps5
  go_wp2_with fail
  refine (sends_any _).mono ?_
  rintro e w1 ⟨rfl, hb⟩
  have HB1 : Hid (Below w.heap.size w w1) := hb
  clear hb
  go_wp2_with fail
  refine (HF.out _).mono ?_
  rintro e w1' ⟨rfl, rfl⟩
  go_wp2_with fail
  refine (ownPackets_from pa cap ps w _ HB1.out HP.out.1 (by omega) HP.out.2.1).mono ?_
  rintro e w3 ⟨a3, k3, rfl, l3, g3, m3, b3, B3⟩
  have HB3 : Hid (Below w.heap.size w w3) := B3
  have HL3 : Hid (LiesP w3 a3 ps ∧ ps.length ≤ k3 ∧ k3 ≤ maxLen) := ⟨l3, g3, m3⟩
  clear l3 g3 m3 b3 B3
  go_wp2_with fail
  refine (fifoRun_ok a3 k3 ps per w3 HL3.out.1 HO.out h1 h2).mono ?_
  rintro e w4 ⟨v, rfl, o4, b4⟩
  obtain ⟨a4, k4, rfl, h41, h42, h43, -, -⟩ := o4.open
  have HB4 : Hid (Below w.heap.size w w4 ∧ LiesS w4 a4 (lindAll per ps ps.length)) := ⟨HB3.out.trans (b4.mono HB3.out.size), h43⟩
  clear b4 o4 h43
  go_wp2_with fail
  refine (refLinkFault_is pa cap ps per 0 (-1) w4 (HP.out.1.below HB4.out.1) HP.out.2.2.1 HP.out.2.2.2 (.inr (.inr ⟨HO.out, h1, h2, rfl, rfl⟩))).mono ?_
  rintro e w5 ⟨rfl, b5⟩
  have HB5 : Hid (Below w.heap.size w (w5.alloc (.cells #[.int .i64 0, .int .i64 (-1)] 39)) ∧ LiesS (w5.alloc (.cells #[.int .i64 0, .int .i64 (-1)] 39)) a4 (lindAll per ps ps.length)) := ⟨(HB4.out.1.trans (b5.mono HB4.out.1.size)).alloc (Nat.le_trans HB4.out.1.size b5.size) _, (HB4.out.2.below b5).below ((Below.refl _ _).alloc (Nat.le_refl _) _)⟩
  clear b5
  go_wp2_with fail
  refine (fifoOf_any pa cap ps per _ (HP.out.1.below HB5.out.1) HO.out h1 h2).mono ?_
  rintro e w6 ⟨v, rfl, o6, b6⟩
  obtain ⟨a6, k6, rfl, h61, h62, h63, -, -⟩ := o6.open
  have HB6 : Hid (Below w.heap.size w w6 ∧ LiesS w6 a4 (lindAll per ps ps.length) ∧ LiesS w6 a6 (lindAll per ps ps.length)) := ⟨HB5.out.1.trans (b6.mono HB5.out.1.size), HB5.out.2.below b6, h63⟩
  clear b6 o6 h63
  go_wp2_with fail
  refine (sameSent_yes a4 a6 k4 k6 (lindAll per ps ps.length) w6 HB6.out.2.1 HB6.out.2.2 (by rw [lindAll_length]; omega)).mono ?_
  rintro e w7 ⟨rfl, b7⟩
  have HB7 : Hid (Below w.heap.size w w7) := HB6.out.1.trans (b7.mono HB6.out.1.size)
  clear b7
  go_wp2_with fail
  go_ret
  exact ⟨rfl, HB7.out⟩
end Go.Proofs.YtcldgpbimaoliabDoor
