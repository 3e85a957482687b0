/- Own facts, put together: no statement of its own. -/
import Derived.Deep.RegionWith
import Derived.Test.YtolbmkniafkeaaaDoorCAuLaw
import Derived.Test.YtolbmkniafkeaaaDoorCAllTames
import Derived.Test.YtolbmkniafkeaaaDoorCRankBad
import Derived.Test.YtolbmkniafkeaaaDoorCRound1
import Derived.Test.YtolbmkniafkeaaaDoorCFair1
import Derived.Test.YtolbmkniafkeaaaDoorCRoundBad
import Derived.Test.YtolbmkniafkeaaaDoorCFairBad

/- AuditRuns: its ways, by what the five links tell. -/
namespace Go.Proofs.YtolbmkniafkeaaaDoor
open Go.RowKit

/-- What a link that sends leaves. -/
def RunFine (per : Int) (ps : List Pk) (m : Nat) (W : World) (e : Ending) (w' : World) : Prop := ∃ a' k' l, e = .returned (.tuple #[.slice a' m k', .nilIface]) ∧ (LiesS w' a' l ∧ l.length = m ∧ (a' = none → l = [] ∧ k' = 0) ∧ tameAll l ∧ AuditAll per ps l 0 (-1)) ∧ Below W.heap.size W w'
/-- What one with an error leaves. -/
def RunFault (W : World) (e : Ending) (w' : World) : Prop := ∃ ty v, e = .returned (.tuple #[.slice none 0 0, .iface ty v]) ∧ Below W.heap.size W w'
/-- One of the five. -/
structure FiveAt (per : Int) (ps : List Pk) (m : Nat) (V : World) (v : Value) (bad : Bool) : Prop where
  bad_ : bad = true → v = .slice none 0 0
  fine : bad = false → ∃ a k l, v = .slice a m k ∧ LiesS V a l ∧ l.length = m ∧ (a = none → l = [] ∧ k = 0) ∧ tameAll l ∧ AuditAll per ps l 0 (-1)
theorem FiveAt.later {per : Int} {ps : List Pk} {m : Nat} {V W : World} {v : Value} {bad : Bool} (h : FiveAt per ps m V v bad) (hb : Below V.heap.size V W) : FiveAt per ps m W v bad :=
  ⟨h.bad_, fun e => by obtain ⟨a, k, l, h1, h2, h3⟩ := h.fine e; exact ⟨a, k, l, h1, h2.below hb, h3⟩⟩
theorem fiveAt_bad (per : Int) (ps : List Pk) (m : Nat) (V : World) : FiveAt per ps m V (.slice none 0 0) true := ⟨fun _ => rfl, fun e => by cases e⟩
theorem fiveAt_fine {per : Int} {ps : List Pk} {m : Nat} {V : World} {a : Option Addr} {k : Nat} {l : List Sn} (h : LiesS V a l ∧ l.length = m ∧ (a = none → l = [] ∧ k = 0) ∧ tameAll l ∧ AuditAll per ps l 0 (-1)) : FiveAt per ps m V (.slice a m k) false := ⟨(fun e => by cases e), fun _ => ⟨a, k, l, rfl, h⟩⟩
def five {α : Type} (a b c d e : α) : Nat → α
  | 0 => a
  | 1 => b
  | 2 => c
  | 3 => d
  | _ => e

set_option maxRecDepth 100000 in
set_option maxHeartbeats 4000000 in
theorem arLaw_00000 (pa : Option Addr) (m pcap : Nat) (ps : List Pk) (per : Int) (na : Option Addr) (r ncap : Nat) (w : World) (hm : m ≤ 80 ∨ m = 301) (hmm : m ≤ maxLen) (hr : r ≤ 30)
    (hAud : ∀ w', Below w.heap.size w w' → Calls Tryd.prog 5 #[] w' fun e w'' => e = .returned (.bool true) ∧ Below w'.heap.size w' w'')
    (hOwn : ∀ w', Below w.heap.size w w' → Calls Tryd.prog 10 #[.slice pa m pcap] w' fun e w'' => ∃ a' cap', e = .returned (.slice a' m cap') ∧ LiesP w'' a' ps ∧ m ≤ cap' ∧ cap' ≤ maxLen ∧ Below w'.heap.size w' w'' ∧ Below w.heap.size w w'')
    (hChk : ∀ W a3 k3 b3 j3 l, Below w.heap.size w W → LiesP W a3 ps → m ≤ k3 → k3 ≤ maxLen → LiesS W b3 l → l.length = m → tameAll l → AuditAll per ps l 0 (-1) → Calls Tryd.prog 9 #[.slice a3 m k3, .int .i64 per, .slice b3 m j3] W fun e w' => e = .returned .nilIface ∧ Below W.heap.size W w')
    (h0 : ∀ W a3 k3, Below w.heap.size w W → LiesP W a3 ps → m ≤ k3 → k3 ≤ maxLen → Calls Tryd.prog 17 #[.slice a3 m k3, .int .i64 per] W fun e w' => RunFault W e w') (h1 : ∀ W a3 k3, Below w.heap.size w W → LiesP W a3 ps → m ≤ k3 → k3 ≤ maxLen → Calls Tryd.prog 18 #[.slice a3 m k3, .int .i64 per, .slice na r ncap] W fun e w' => RunFault W e w') (h2 : ∀ W a3 k3, Below w.heap.size w W → LiesP W a3 ps → m ≤ k3 → k3 ≤ maxLen → Calls Tryd.prog 19 #[.slice a3 m k3, .int .i64 per, .slice na r ncap] W fun e w' => RunFault W e w') (h3 : ∀ W a3 k3, Below w.heap.size w W → LiesP W a3 ps → m ≤ k3 → k3 ≤ maxLen → Calls Tryd.prog 20 #[.slice a3 m k3, .int .i64 per, .slice na r ncap] W fun e w' => RunFault W e w') (h4 : ∀ W a3 k3, Below w.heap.size w W → LiesP W a3 ps → m ≤ k3 → k3 ≤ maxLen → Calls Tryd.prog 21 #[.slice a3 m k3, .int .i64 per, .slice na r ncap] W fun e w' => RunFault W e w') :
    Calls Tryd.prog 4 #[.slice pa m pcap, .int .i64 per, .slice na r ncap] w fun e w' => e = .returned (.bool true) ∧ Below w.heap.size w w' := by
  have HFit : Hid (∀ w', Calls Tryd.prog 6 #[.slice pa m pcap, .int .i64 80] w' fun e w'' => e = .returned (.bool true) ∧ w'' = w') := fun w' => fitPkts_yes pa m pcap 80 w' hmm (by omega)
  have HA : Hid (∀ w', Below w.heap.size w w' → Calls Tryd.prog 5 #[] w' fun e w'' => e = .returned (.bool true) ∧ Below w'.heap.size w' w'') := hAud
  have HOwn : Hid (∀ w', Below w.heap.size w w' → Calls Tryd.prog 10 #[.slice pa m pcap] w' fun e w'' => ∃ a' cap', e = .returned (.slice a' m cap') ∧ LiesP w'' a' ps ∧ m ≤ cap' ∧ cap' ≤ maxLen ∧ Below w'.heap.size w' w'' ∧ Below w.heap.size w w'') := hOwn
  have HChk : Hid (∀ W a3 k3 b3 j3 l, Below w.heap.size w W → LiesP W a3 ps → m ≤ k3 → k3 ≤ maxLen → LiesS W b3 l → l.length = m → tameAll l → AuditAll per ps l 0 (-1) → Calls Tryd.prog 9 #[.slice a3 m k3, .int .i64 per, .slice b3 m j3] W fun e w' => e = .returned .nilIface ∧ Below W.heap.size W w') := hChk
  have H0 : Hid (∀ W a3 k3, Below w.heap.size w W → LiesP W a3 ps → m ≤ k3 → k3 ≤ maxLen → Calls Tryd.prog 17 #[.slice a3 m k3, .int .i64 per] W fun e w' => RunFault W e w') := h0
  have H1 : Hid (∀ W a3 k3, Below w.heap.size w W → LiesP W a3 ps → m ≤ k3 → k3 ≤ maxLen → Calls Tryd.prog 18 #[.slice a3 m k3, .int .i64 per, .slice na r ncap] W fun e w' => RunFault W e w') := h1
  have H2 : Hid (∀ W a3 k3, Below w.heap.size w W → LiesP W a3 ps → m ≤ k3 → k3 ≤ maxLen → Calls Tryd.prog 19 #[.slice a3 m k3, .int .i64 per, .slice na r ncap] W fun e w' => RunFault W e w') := h2
  have H3 : Hid (∀ W a3 k3, Below w.heap.size w W → LiesP W a3 ps → m ≤ k3 → k3 ≤ maxLen → Calls Tryd.prog 20 #[.slice a3 m k3, .int .i64 per, .slice na r ncap] W fun e w' => RunFault W e w') := h3
  have H4 : Hid (∀ W a3 k3, Below w.heap.size w W → LiesP W a3 ps → m ≤ k3 → k3 ≤ maxLen → Calls Tryd.prog 21 #[.slice a3 m k3, .int .i64 per, .slice na r ncap] W fun e w' => RunFault W e w') := h4
  have hr2 : decide ((30 : Int) < (r : Int)) = false := decide_eq_false (by omega)
  unfold maxLen at hmm
  clear hAud hOwn hChk h0 h1 h2 h3 h4
  go_enter Tryd.func4, Tryd.ntmps4
  go_wp2_with fail
  refine (HA.out _ (Below.refl _ _)).mono ?_
  rintro e u0 ⟨rfl, hb⟩
  have HB0 : Hid (Below w.heap.size w u0) := hb
  clear hb
  go_wp2_with fail
  refine (HFit.out _).mono ?_
  rintro e u0x ⟨rfl, hu0⟩
  rw [hu0]
  clear hu0
  go_wp2_with fail
  refine (HOwn.out _ HB0.out).mono ?_
  rintro e p0 ⟨q0, j0, rfl, l0, g0, m0, b0, B0⟩
  have HP0 : Hid (Below w.heap.size w p0 ∧ LiesP p0 q0 ps ∧ m ≤ j0 ∧ j0 ≤ maxLen ∧ Below u0.heap.size u0 p0) := ⟨B0, l0, g0, m0, b0⟩
  clear l0 g0 m0 b0 B0
  go_wp2_with fail
  refine (H0.out p0 q0 j0 HP0.out.1 HP0.out.2.1 HP0.out.2.2.1 HP0.out.2.2.2.1).mono ?_
  rintro e w0 ⟨ty0, v0, rfl, c0⟩
  have HW0 : Hid (Below w.heap.size w w0 ∧ FiveAt per ps m w0 (.slice none 0 0) true ∧ Below p0.heap.size p0 w0) := ⟨HP0.out.1.trans (c0.mono HP0.out.1.size), fiveAt_bad _ _ _ _, c0⟩
  clear c0
  go_wp2_with fail
  refine (HOwn.out _ HW0.out.1).mono ?_
  rintro e p1 ⟨q1, j1, rfl, l1, g1, m1, b1, B1⟩
  have HP1 : Hid (Below w.heap.size w p1 ∧ LiesP p1 q1 ps ∧ m ≤ j1 ∧ j1 ≤ maxLen ∧ Below w0.heap.size w0 p1) := ⟨B1, l1, g1, m1, b1⟩
  clear l1 g1 m1 b1 B1
  go_wp2_with fail
  refine (H1.out p1 q1 j1 HP1.out.1 HP1.out.2.1 HP1.out.2.2.1 HP1.out.2.2.2.1).mono ?_
  rintro e w1 ⟨ty1, v1, rfl, c1⟩
  have HW1 : Hid (Below w.heap.size w w1 ∧ FiveAt per ps m w1 (.slice none 0 0) true ∧ Below p1.heap.size p1 w1) := ⟨HP1.out.1.trans (c1.mono HP1.out.1.size), fiveAt_bad _ _ _ _, c1⟩
  clear c1
  go_wp2_with fail
  refine (HOwn.out _ HW1.out.1).mono ?_
  rintro e p2 ⟨q2, j2, rfl, l2, g2, m2, b2, B2⟩
  have HP2 : Hid (Below w.heap.size w p2 ∧ LiesP p2 q2 ps ∧ m ≤ j2 ∧ j2 ≤ maxLen ∧ Below w1.heap.size w1 p2) := ⟨B2, l2, g2, m2, b2⟩
  clear l2 g2 m2 b2 B2
  go_wp2_with fail
  refine (H2.out p2 q2 j2 HP2.out.1 HP2.out.2.1 HP2.out.2.2.1 HP2.out.2.2.2.1).mono ?_
  rintro e w2 ⟨ty2, v2, rfl, c2⟩
  have HW2 : Hid (Below w.heap.size w w2 ∧ FiveAt per ps m w2 (.slice none 0 0) true ∧ Below p2.heap.size p2 w2) := ⟨HP2.out.1.trans (c2.mono HP2.out.1.size), fiveAt_bad _ _ _ _, c2⟩
  clear c2
  go_wp2_with fail
  refine (HOwn.out _ HW2.out.1).mono ?_
  rintro e p3 ⟨q3, j3, rfl, l3, g3, m3, b3, B3⟩
  have HP3 : Hid (Below w.heap.size w p3 ∧ LiesP p3 q3 ps ∧ m ≤ j3 ∧ j3 ≤ maxLen ∧ Below w2.heap.size w2 p3) := ⟨B3, l3, g3, m3, b3⟩
  clear l3 g3 m3 b3 B3
  go_wp2_with fail
  refine (H3.out p3 q3 j3 HP3.out.1 HP3.out.2.1 HP3.out.2.2.1 HP3.out.2.2.2.1).mono ?_
  rintro e w3 ⟨ty3, v3, rfl, c3⟩
  have HW3 : Hid (Below w.heap.size w w3 ∧ FiveAt per ps m w3 (.slice none 0 0) true ∧ Below p3.heap.size p3 w3) := ⟨HP3.out.1.trans (c3.mono HP3.out.1.size), fiveAt_bad _ _ _ _, c3⟩
  clear c3
  go_wp2_with fail
  refine (HOwn.out _ HW3.out.1).mono ?_
  rintro e p4 ⟨q4, j4, rfl, l4, g4, m4, b4, B4⟩
  have HP4 : Hid (Below w.heap.size w p4 ∧ LiesP p4 q4 ps ∧ m ≤ j4 ∧ j4 ≤ maxLen ∧ Below w3.heap.size w3 p4) := ⟨B4, l4, g4, m4, b4⟩
  clear l4 g4 m4 b4 B4
  go_wp2_with fail
  refine (H4.out p4 q4 j4 HP4.out.1 HP4.out.2.1 HP4.out.2.2.1 HP4.out.2.2.2.1).mono ?_
  rintro e w4 ⟨ty4, v4, rfl, c4⟩
  have HW4 : Hid (Below w.heap.size w w4 ∧ FiveAt per ps m w4 (.slice none 0 0) true ∧ Below p4.heap.size p4 w4) := ⟨HP4.out.1.trans (c4.mono HP4.out.1.size), fiveAt_bad _ _ _ _, c4⟩
  clear c4
  have s34 : Below w3.heap.size w3 w4 := HP4.out.2.2.2.2.trans (HW4.out.2.2.mono HP4.out.2.2.2.2.size)
  have s23 : Below w2.heap.size w2 w3 := HP3.out.2.2.2.2.trans (HW3.out.2.2.mono HP3.out.2.2.2.2.size)
  have s12 : Below w1.heap.size w1 w2 := HP2.out.2.2.2.2.trans (HW2.out.2.2.mono HP2.out.2.2.2.2.size)
  have s01 : Below w0.heap.size w0 w1 := HP1.out.2.2.2.2.trans (HW1.out.2.2.mono HP1.out.2.2.2.2.size)
  have s24 := s23.trans (s34.mono s23.size)
  have s14 := s12.trans (s24.mono s12.size)
  have s04 := s01.trans (s14.mono s01.size)
  have HV0 : Hid (∀ k, k < 5 → FiveAt per ps m w4 (five (.slice none 0 0) (.slice none 0 0) (.slice none 0 0) (.slice none 0 0) (.slice none 0 0) k) (five true true true true true k)) := fun k hk => by
    match k, hk with
    | 0, _ => exact HW0.out.2.1.later s04
    | 1, _ => exact HW1.out.2.1.later s14
    | 2, _ => exact HW2.out.2.1.later s24
    | 3, _ => exact HW3.out.2.1.later s34
    | 4, _ => exact HW4.out.2.1
    | k + 5, h => omega
  clear s34 s23 s12 s01 s24 s14 s04
  go_wp2_with fail
  obtain ⟨V1, hV1⟩ : ∃ V1, w4.alloc (.cells #[.slice none 0 0, .slice none 0 0, .slice none 0 0, .slice none 0 0, .slice none 0 0] 23) = V1 := ⟨_, rfl⟩
  have HV1 : Hid (w4.alloc (.cells #[.slice none 0 0, .slice none 0 0, .slice none 0 0, .slice none 0 0, .slice none 0 0] 23) = V1) := hV1
  have gA : Hid (V1.heap.size = w4.heap.size + 1 ∧ Below w4.heap.size w4 V1) := by
    show _ ∧ _
    rw [← hV1]
    exact ⟨by simp, (Below.refl _ _).alloc (Nat.le_refl _) _⟩
  have HcA : Hid (∀ k, k < 5 → V1.cell? ⟨w4.heap.size, k, none⟩ = some (five (.slice none 0 0) (.slice none 0 0) (.slice none 0 0) (.slice none 0 0) (.slice none 0 0) k)) := fun k hk => by
    rw [← hV1, World.cell?_alloc_at _ _ _ _ rfl]
    match k, hk with
    | 0, _ => rfl
    | 1, _ => rfl
    | 2, _ => rfl
    | 3, _ => rfl
    | 4, _ => rfl
    | k + 5, h => omega
  rw [hV1]
  clear hV1
  go_region
  obtain ⟨V2, hV2⟩ : ∃ V2, (V1.alloc (.cells #[.bool true, .bool true, .bool true, .bool true, .bool true] 4)).drew = V2 := ⟨_, rfl⟩
  have hbV : Below V1.heap.size V1 V2 := by
    rw [← hV2]
    exact below_drewN ((Below.refl _ _).alloc (Nat.le_refl _) _) 1
  have HcB : Hid (∀ k, k < 5 → V2.cell? ⟨V1.heap.size, k, none⟩ = some (.bool (five true true true true true k))) := fun k hk => by
    have hc : (V1.alloc (.cells #[.bool true, .bool true, .bool true, .bool true, .bool true] 4)).cell? ⟨V1.heap.size, k, none⟩ = some (.bool (five true true true true true k)) := by
      rw [World.cell?_alloc_at _ _ _ _ rfl]
      match k, hk with
      | 0, _ => rfl
      | 1, _ => rfl
      | 2, _ => rfl
      | 3, _ => rfl
      | 4, _ => rfl
      | k + 5, h => omega
    rw [← hV2]
    exact hc
  have hb4 : Below w4.heap.size w4 V2 := gA.out.2.trans (hbV.mono gA.out.2.size)
  have HV2 : Hid ((∀ k, k < 5 → FiveAt per ps m V2 (five (.slice none 0 0) (.slice none 0 0) (.slice none 0 0) (.slice none 0 0) (.slice none 0 0) k) (five true true true true true k)) ∧ (∀ k, k < 5 → V2.cell? ⟨w4.heap.size, k, none⟩ = some (five (.slice none 0 0) (.slice none 0 0) (.slice none 0 0) (.slice none 0 0) (.slice none 0 0) k)) ∧ Below w.heap.size w V2) := ⟨fun k hk => (HV0.out k hk).later hb4, fun k hk => cell_later hbV (HcA.out k hk), HW4.out.1.trans (hb4.mono HW4.out.1.size)⟩
  rw [hV2]
  clear hV2 hbV hb4
  go_wp2_with fail
  go_loopg [20] 5 (fun gk iv wr => ∃ k : Nat, gk = 5 - k ∧ k ≤ 5 ∧ iv = .int .i64 (k : Int) ∧ Below V2.heap.size V2 wr)
  case atStart => exact ⟨0, rfl, by omega, rfl, Below.refl _ _⟩
  case round =>
    obtain ⟨k, rfl, hk', rfl, hbw⟩ := hrel
    have HBw : Hid (Below V2.heap.size V2 wr ∧ Below w.heap.size w wr) := ⟨hbw, HV2.out.2.2.trans (hbw.mono HV2.out.2.2.size)⟩
    clear hbw
    by_cases hk : k < 5
    · have hki : (k : Int) < 5 := by omega
      have cB := cell_later HBw.out.1 (HcB.out k hk)
      have cA := cell_later HBw.out.1 (HV2.out.2.1 k hk)
      have hF := (HV2.out.1 k hk).later HBw.out.1
      obtain ⟨bd, hbd⟩ : ∃ bd, five true true true true true k = bd := ⟨_, rfl⟩
      obtain ⟨vv, hvv⟩ : ∃ vv : Value, five (.slice none 0 0) (.slice none 0 0) (.slice none 0 0) (.slice none 0 0) (.slice none 0 0) k = vv := ⟨_, rfl⟩
      rw [hbd] at cB hF
      rw [hvv] at cA hF
      clear hbd hvv
      cases bd with
      | true =>
        have hv := hF.bad_ rfl
        subst hv
        clear hF
        go_wp2_with fail
        go_roundg (5 - (k + 1))
        case measure => omega
        case rel => exact ⟨k + 1, rfl, by omega, by go_num, HBw.out.1⟩
      | false =>
        obtain ⟨sa, sk, l, hvv, hl, hlen, hnil, htm, hau⟩ := hF.fine rfl
        subst hvv
        have HL : Hid (LiesS wr sa l ∧ l.length = m ∧ (sa = none → l = [] ∧ sk = 0) ∧ tameAll l ∧ AuditAll per ps l 0 (-1)) := ⟨hl, hlen, hnil, htm, hau⟩
        have HOwnS : Hid (∀ W, Below wr.heap.size wr W → Calls Tryd.prog 11 #[.slice sa m sk] W fun e w'' => ∃ a' cap', e = .returned (.slice a' m cap') ∧ LiesS w'' a' l ∧ Below W.heap.size W w'' ∧ Below wr.heap.size wr w'') := fun W hb => by
          have := ownSent_from sa sk l wr W hb hl (by omega) hnil
          rwa [hlen] at this
        have HOwnP : Hid (∀ W, Below wr.heap.size wr W → Calls Tryd.prog 10 #[.slice pa m pcap] W fun e w'' => ∃ a' cap', e = .returned (.slice a' m cap') ∧ LiesP w'' a' ps ∧ m ≤ cap' ∧ cap' ≤ maxLen ∧ Below W.heap.size W w'' ∧ Below wr.heap.size wr w'') := fun W hb => (HOwn.out W (HBw.out.2.trans (hb.mono HBw.out.2.size))).mono fun e w'' ⟨a', c', g1, g2, g3, g4, g5, _⟩ => ⟨a', c', g1, g2, g3, g4, g5, hb.trans (g5.mono hb.size)⟩
        clear hF hl hlen hnil htm hau
        go_wp2_with fail
        go_region_with (first
          | (go_simp; go_at_call 10; go_must (refine (HOwnP.out _ (by first | exact HSb.out.2.1 | exact below_drewN (Below.refl _ _) 1)).mono ?_; rintro e wp ⟨pq, pc, rfl, lp, gp, mp, bp, Bp⟩; have HPb := (show Hid (LiesP wp pq ps ∧ Below wr.heap.size wr wp ∧ (m ≤ pc ∧ pc ≤ maxLen) ∧ Below _ _ wp) from ⟨lp, Bp, ⟨gp, mp⟩, bp⟩); have cAp := cell_later Bp cA; clear lp gp mp bp Bp))
          | (go_simp; go_at_call 11; go_must (refine (HOwnS.out _ (by first | exact HPb.out.2.1 | exact below_drewN (Below.refl _ _) 1)).mono ?_; rintro e ws ⟨sq, sc, rfl, ls, bs, Bs⟩; have HSb := (show Hid (LiesS ws sq l ∧ Below wr.heap.size wr ws ∧ Below _ _ ws) from ⟨ls, Bs, bs⟩); clear ls bs Bs))
          | (go_simp; go_at_call 9; go_must (refine (HChk.out _ pq pc sq sc l (by first | exact HBw.out.2.trans (HSb.out.2.1.mono HBw.out.2.size) | exact HBw.out.2.trans (HPb.out.2.1.mono HBw.out.2.size)) (by first | exact HPb.out.1 | exact HPb.out.1.below HSb.out.2.2) HPb.out.2.2.1.1 HPb.out.2.2.1.2 (by first | exact HSb.out.1 | exact HSb.out.1.below HPb.out.2.2.2) HL.out.2.1 HL.out.2.2.2.1 HL.out.2.2.2.2).mono ?_; rintro e wc ⟨rfl, bc⟩; have HCb : Hid (Below V2.heap.size V2 wc) := (by first | exact HBw.out.1.trans ((HSb.out.2.1.trans (bc.mono HSb.out.2.1.size)).mono HBw.out.1.size) | exact HBw.out.1.trans ((HPb.out.2.1.trans (bc.mono HPb.out.2.1.size)).mono HBw.out.1.size)); clear bc))
          | fail)
        all_goals (go_wp2_with fail)
        all_goals (go_roundg (5 - (k + 1)))
        all_goals first
          | (show _ < _; omega)
          | exact ⟨k + 1, rfl, by omega, by go_num, HCb.out⟩
    · go_wp2_with fail
      go_ret
      exact ⟨rfl, HBw.out.2⟩
end Go.Proofs.YtolbmkniafkeaaaDoor

/- AuditRuns: its other ways. -/
namespace Go.Proofs.YtolbmkniafkeaaaDoor
open Go.RowKit

set_option maxRecDepth 100000 in
set_option maxHeartbeats 4000000 in
theorem arLaw_10000 (pa : Option Addr) (m pcap : Nat) (ps : List Pk) (per : Int) (na : Option Addr) (r ncap : Nat) (w : World) (hm : m ≤ 80 ∨ m = 301) (hmm : m ≤ maxLen) (hr : r ≤ 30)
    (hAud : ∀ w', Below w.heap.size w w' → Calls Tryd.prog 5 #[] w' fun e w'' => e = .returned (.bool true) ∧ Below w'.heap.size w' w'')
    (hOwn : ∀ w', Below w.heap.size w w' → Calls Tryd.prog 10 #[.slice pa m pcap] w' fun e w'' => ∃ a' cap', e = .returned (.slice a' m cap') ∧ LiesP w'' a' ps ∧ m ≤ cap' ∧ cap' ≤ maxLen ∧ Below w'.heap.size w' w'' ∧ Below w.heap.size w w'')
    (hChk : ∀ W a3 k3 b3 j3 l, Below w.heap.size w W → LiesP W a3 ps → m ≤ k3 → k3 ≤ maxLen → LiesS W b3 l → l.length = m → tameAll l → AuditAll per ps l 0 (-1) → Calls Tryd.prog 9 #[.slice a3 m k3, .int .i64 per, .slice b3 m j3] W fun e w' => e = .returned .nilIface ∧ Below W.heap.size W w')
    (h0 : ∀ W a3 k3, Below w.heap.size w W → LiesP W a3 ps → m ≤ k3 → k3 ≤ maxLen → Calls Tryd.prog 17 #[.slice a3 m k3, .int .i64 per] W fun e w' => RunFine per ps m W e w') (h1 : ∀ W a3 k3, Below w.heap.size w W → LiesP W a3 ps → m ≤ k3 → k3 ≤ maxLen → Calls Tryd.prog 18 #[.slice a3 m k3, .int .i64 per, .slice na r ncap] W fun e w' => RunFault W e w') (h2 : ∀ W a3 k3, Below w.heap.size w W → LiesP W a3 ps → m ≤ k3 → k3 ≤ maxLen → Calls Tryd.prog 19 #[.slice a3 m k3, .int .i64 per, .slice na r ncap] W fun e w' => RunFault W e w') (h3 : ∀ W a3 k3, Below w.heap.size w W → LiesP W a3 ps → m ≤ k3 → k3 ≤ maxLen → Calls Tryd.prog 20 #[.slice a3 m k3, .int .i64 per, .slice na r ncap] W fun e w' => RunFault W e w') (h4 : ∀ W a3 k3, Below w.heap.size w W → LiesP W a3 ps → m ≤ k3 → k3 ≤ maxLen → Calls Tryd.prog 21 #[.slice a3 m k3, .int .i64 per, .slice na r ncap] W fun e w' => RunFault W e w') :
    Calls Tryd.prog 4 #[.slice pa m pcap, .int .i64 per, .slice na r ncap] w fun e w' => e = .returned (.bool true) ∧ Below w.heap.size w w' := by
  have HFit : Hid (∀ w', Calls Tryd.prog 6 #[.slice pa m pcap, .int .i64 80] w' fun e w'' => e = .returned (.bool true) ∧ w'' = w') := fun w' => fitPkts_yes pa m pcap 80 w' hmm (by omega)
  have HA : Hid (∀ w', Below w.heap.size w w' → Calls Tryd.prog 5 #[] w' fun e w'' => e = .returned (.bool true) ∧ Below w'.heap.size w' w'') := hAud
  have HOwn : Hid (∀ w', Below w.heap.size w w' → Calls Tryd.prog 10 #[.slice pa m pcap] w' fun e w'' => ∃ a' cap', e = .returned (.slice a' m cap') ∧ LiesP w'' a' ps ∧ m ≤ cap' ∧ cap' ≤ maxLen ∧ Below w'.heap.size w' w'' ∧ Below w.heap.size w w'') := hOwn
  have HChk : Hid (∀ W a3 k3 b3 j3 l, Below w.heap.size w W → LiesP W a3 ps → m ≤ k3 → k3 ≤ maxLen → LiesS W b3 l → l.length = m → tameAll l → AuditAll per ps l 0 (-1) → Calls Tryd.prog 9 #[.slice a3 m k3, .int .i64 per, .slice b3 m j3] W fun e w' => e = .returned .nilIface ∧ Below W.heap.size W w') := hChk
  have H0 : Hid (∀ W a3 k3, Below w.heap.size w W → LiesP W a3 ps → m ≤ k3 → k3 ≤ maxLen → Calls Tryd.prog 17 #[.slice a3 m k3, .int .i64 per] W fun e w' => RunFine per ps m W e w') := h0
  have H1 : Hid (∀ W a3 k3, Below w.heap.size w W → LiesP W a3 ps → m ≤ k3 → k3 ≤ maxLen → Calls Tryd.prog 18 #[.slice a3 m k3, .int .i64 per, .slice na r ncap] W fun e w' => RunFault W e w') := h1
  have H2 : Hid (∀ W a3 k3, Below w.heap.size w W → LiesP W a3 ps → m ≤ k3 → k3 ≤ maxLen → Calls Tryd.prog 19 #[.slice a3 m k3, .int .i64 per, .slice na r ncap] W fun e w' => RunFault W e w') := h2
  have H3 : Hid (∀ W a3 k3, Below w.heap.size w W → LiesP W a3 ps → m ≤ k3 → k3 ≤ maxLen → Calls Tryd.prog 20 #[.slice a3 m k3, .int .i64 per, .slice na r ncap] W fun e w' => RunFault W e w') := h3
  have H4 : Hid (∀ W a3 k3, Below w.heap.size w W → LiesP W a3 ps → m ≤ k3 → k3 ≤ maxLen → Calls Tryd.prog 21 #[.slice a3 m k3, .int .i64 per, .slice na r ncap] W fun e w' => RunFault W e w') := h4
  have hr2 : decide ((30 : Int) < (r : Int)) = false := decide_eq_false (by omega)
  unfold maxLen at hmm
  clear hAud hOwn hChk h0 h1 h2 h3 h4
  go_enter Tryd.func4, Tryd.ntmps4
  go_wp2_with fail
  refine (HA.out _ (Below.refl _ _)).mono ?_
  rintro e u0 ⟨rfl, hb⟩
  have HB0 : Hid (Below w.heap.size w u0) := hb
  clear hb
  go_wp2_with fail
  refine (HFit.out _).mono ?_
  rintro e u0x ⟨rfl, hu0⟩
  rw [hu0]
  clear hu0
  go_wp2_with fail
  refine (HOwn.out _ HB0.out).mono ?_
  rintro e p0 ⟨q0, j0, rfl, l0, g0, m0, b0, B0⟩
  have HP0 : Hid (Below w.heap.size w p0 ∧ LiesP p0 q0 ps ∧ m ≤ j0 ∧ j0 ≤ maxLen ∧ Below u0.heap.size u0 p0) := ⟨B0, l0, g0, m0, b0⟩
  clear l0 g0 m0 b0 B0
  go_wp2_with fail
  refine (H0.out p0 q0 j0 HP0.out.1 HP0.out.2.1 HP0.out.2.2.1 HP0.out.2.2.2.1).mono ?_
  rintro e w0 ⟨a0, k0, s0, rfl, hf0, c0⟩
  have HW0 : Hid (Below w.heap.size w w0 ∧ FiveAt per ps m w0 (.slice a0 m k0) false ∧ Below p0.heap.size p0 w0) := ⟨HP0.out.1.trans (c0.mono HP0.out.1.size), fiveAt_fine hf0, c0⟩
  clear hf0 c0
  go_wp2_with fail
  refine (HOwn.out _ HW0.out.1).mono ?_
  rintro e p1 ⟨q1, j1, rfl, l1, g1, m1, b1, B1⟩
  have HP1 : Hid (Below w.heap.size w p1 ∧ LiesP p1 q1 ps ∧ m ≤ j1 ∧ j1 ≤ maxLen ∧ Below w0.heap.size w0 p1) := ⟨B1, l1, g1, m1, b1⟩
  clear l1 g1 m1 b1 B1
  go_wp2_with fail
  refine (H1.out p1 q1 j1 HP1.out.1 HP1.out.2.1 HP1.out.2.2.1 HP1.out.2.2.2.1).mono ?_
  rintro e w1 ⟨ty1, v1, rfl, c1⟩
  have HW1 : Hid (Below w.heap.size w w1 ∧ FiveAt per ps m w1 (.slice none 0 0) true ∧ Below p1.heap.size p1 w1) := ⟨HP1.out.1.trans (c1.mono HP1.out.1.size), fiveAt_bad _ _ _ _, c1⟩
  clear c1
  go_wp2_with fail
  refine (HOwn.out _ HW1.out.1).mono ?_
  rintro e p2 ⟨q2, j2, rfl, l2, g2, m2, b2, B2⟩
  have HP2 : Hid (Below w.heap.size w p2 ∧ LiesP p2 q2 ps ∧ m ≤ j2 ∧ j2 ≤ maxLen ∧ Below w1.heap.size w1 p2) := ⟨B2, l2, g2, m2, b2⟩
  clear l2 g2 m2 b2 B2
  go_wp2_with fail
  refine (H2.out p2 q2 j2 HP2.out.1 HP2.out.2.1 HP2.out.2.2.1 HP2.out.2.2.2.1).mono ?_
  rintro e w2 ⟨ty2, v2, rfl, c2⟩
  have HW2 : Hid (Below w.heap.size w w2 ∧ FiveAt per ps m w2 (.slice none 0 0) true ∧ Below p2.heap.size p2 w2) := ⟨HP2.out.1.trans (c2.mono HP2.out.1.size), fiveAt_bad _ _ _ _, c2⟩
  clear c2
  go_wp2_with fail
  refine (HOwn.out _ HW2.out.1).mono ?_
  rintro e p3 ⟨q3, j3, rfl, l3, g3, m3, b3, B3⟩
  have HP3 : Hid (Below w.heap.size w p3 ∧ LiesP p3 q3 ps ∧ m ≤ j3 ∧ j3 ≤ maxLen ∧ Below w2.heap.size w2 p3) := ⟨B3, l3, g3, m3, b3⟩
  clear l3 g3 m3 b3 B3
  go_wp2_with fail
  refine (H3.out p3 q3 j3 HP3.out.1 HP3.out.2.1 HP3.out.2.2.1 HP3.out.2.2.2.1).mono ?_
  rintro e w3 ⟨ty3, v3, rfl, c3⟩
  have HW3 : Hid (Below w.heap.size w w3 ∧ FiveAt per ps m w3 (.slice none 0 0) true ∧ Below p3.heap.size p3 w3) := ⟨HP3.out.1.trans (c3.mono HP3.out.1.size), fiveAt_bad _ _ _ _, c3⟩
  clear c3
  go_wp2_with fail
  refine (HOwn.out _ HW3.out.1).mono ?_
  rintro e p4 ⟨q4, j4, rfl, l4, g4, m4, b4, B4⟩
  have HP4 : Hid (Below w.heap.size w p4 ∧ LiesP p4 q4 ps ∧ m ≤ j4 ∧ j4 ≤ maxLen ∧ Below w3.heap.size w3 p4) := ⟨B4, l4, g4, m4, b4⟩
  clear l4 g4 m4 b4 B4
  go_wp2_with fail
  refine (H4.out p4 q4 j4 HP4.out.1 HP4.out.2.1 HP4.out.2.2.1 HP4.out.2.2.2.1).mono ?_
  rintro e w4 ⟨ty4, v4, rfl, c4⟩
  have HW4 : Hid (Below w.heap.size w w4 ∧ FiveAt per ps m w4 (.slice none 0 0) true ∧ Below p4.heap.size p4 w4) := ⟨HP4.out.1.trans (c4.mono HP4.out.1.size), fiveAt_bad _ _ _ _, c4⟩
  clear c4
  have s34 : Below w3.heap.size w3 w4 := HP4.out.2.2.2.2.trans (HW4.out.2.2.mono HP4.out.2.2.2.2.size)
  have s23 : Below w2.heap.size w2 w3 := HP3.out.2.2.2.2.trans (HW3.out.2.2.mono HP3.out.2.2.2.2.size)
  have s12 : Below w1.heap.size w1 w2 := HP2.out.2.2.2.2.trans (HW2.out.2.2.mono HP2.out.2.2.2.2.size)
  have s01 : Below w0.heap.size w0 w1 := HP1.out.2.2.2.2.trans (HW1.out.2.2.mono HP1.out.2.2.2.2.size)
  have s24 := s23.trans (s34.mono s23.size)
  have s14 := s12.trans (s24.mono s12.size)
  have s04 := s01.trans (s14.mono s01.size)
  have HV0 : Hid (∀ k, k < 5 → FiveAt per ps m w4 (five (.slice a0 m k0) (.slice none 0 0) (.slice none 0 0) (.slice none 0 0) (.slice none 0 0) k) (five false true true true true k)) := fun k hk => by
    match k, hk with
    | 0, _ => exact HW0.out.2.1.later s04
    | 1, _ => exact HW1.out.2.1.later s14
    | 2, _ => exact HW2.out.2.1.later s24
    | 3, _ => exact HW3.out.2.1.later s34
    | 4, _ => exact HW4.out.2.1
    | k + 5, h => omega
  clear s34 s23 s12 s01 s24 s14 s04
  go_wp2_with fail
  obtain ⟨V1, hV1⟩ : ∃ V1, w4.alloc (.cells #[.slice a0 m k0, .slice none 0 0, .slice none 0 0, .slice none 0 0, .slice none 0 0] 23) = V1 := ⟨_, rfl⟩
  have HV1 : Hid (w4.alloc (.cells #[.slice a0 m k0, .slice none 0 0, .slice none 0 0, .slice none 0 0, .slice none 0 0] 23) = V1) := hV1
  have gA : Hid (V1.heap.size = w4.heap.size + 1 ∧ Below w4.heap.size w4 V1) := by
    show _ ∧ _
    rw [← hV1]
    exact ⟨by simp, (Below.refl _ _).alloc (Nat.le_refl _) _⟩
  have HcA : Hid (∀ k, k < 5 → V1.cell? ⟨w4.heap.size, k, none⟩ = some (five (.slice a0 m k0) (.slice none 0 0) (.slice none 0 0) (.slice none 0 0) (.slice none 0 0) k)) := fun k hk => by
    rw [← hV1, World.cell?_alloc_at _ _ _ _ rfl]
    match k, hk with
    | 0, _ => rfl
    | 1, _ => rfl
    | 2, _ => rfl
    | 3, _ => rfl
    | 4, _ => rfl
    | k + 5, h => omega
  rw [hV1]
  clear hV1
  go_region
  obtain ⟨V2, hV2⟩ : ∃ V2, (V1.alloc (.cells #[.bool false, .bool true, .bool true, .bool true, .bool true] 4)).drew = V2 := ⟨_, rfl⟩
  have hbV : Below V1.heap.size V1 V2 := by
    rw [← hV2]
    exact below_drewN ((Below.refl _ _).alloc (Nat.le_refl _) _) 1
  have HcB : Hid (∀ k, k < 5 → V2.cell? ⟨V1.heap.size, k, none⟩ = some (.bool (five false true true true true k))) := fun k hk => by
    have hc : (V1.alloc (.cells #[.bool false, .bool true, .bool true, .bool true, .bool true] 4)).cell? ⟨V1.heap.size, k, none⟩ = some (.bool (five false true true true true k)) := by
      rw [World.cell?_alloc_at _ _ _ _ rfl]
      match k, hk with
      | 0, _ => rfl
      | 1, _ => rfl
      | 2, _ => rfl
      | 3, _ => rfl
      | 4, _ => rfl
      | k + 5, h => omega
    rw [← hV2]
    exact hc
  have hb4 : Below w4.heap.size w4 V2 := gA.out.2.trans (hbV.mono gA.out.2.size)
  have HV2 : Hid ((∀ k, k < 5 → FiveAt per ps m V2 (five (.slice a0 m k0) (.slice none 0 0) (.slice none 0 0) (.slice none 0 0) (.slice none 0 0) k) (five false true true true true k)) ∧ (∀ k, k < 5 → V2.cell? ⟨w4.heap.size, k, none⟩ = some (five (.slice a0 m k0) (.slice none 0 0) (.slice none 0 0) (.slice none 0 0) (.slice none 0 0) k)) ∧ Below w.heap.size w V2) := ⟨fun k hk => (HV0.out k hk).later hb4, fun k hk => cell_later hbV (HcA.out k hk), HW4.out.1.trans (hb4.mono HW4.out.1.size)⟩
  rw [hV2]
  clear hV2 hbV hb4
  go_wp2_with fail
  go_loopg [20] 5 (fun gk iv wr => ∃ k : Nat, gk = 5 - k ∧ k ≤ 5 ∧ iv = .int .i64 (k : Int) ∧ Below V2.heap.size V2 wr)
  case atStart => exact ⟨0, rfl, by omega, rfl, Below.refl _ _⟩
  case round =>
    obtain ⟨k, rfl, hk', rfl, hbw⟩ := hrel
    have HBw : Hid (Below V2.heap.size V2 wr ∧ Below w.heap.size w wr) := ⟨hbw, HV2.out.2.2.trans (hbw.mono HV2.out.2.2.size)⟩
    clear hbw
    by_cases hk : k < 5
    · have hki : (k : Int) < 5 := by omega
      have cB := cell_later HBw.out.1 (HcB.out k hk)
      have cA := cell_later HBw.out.1 (HV2.out.2.1 k hk)
      have hF := (HV2.out.1 k hk).later HBw.out.1
      obtain ⟨bd, hbd⟩ : ∃ bd, five false true true true true k = bd := ⟨_, rfl⟩
      obtain ⟨vv, hvv⟩ : ∃ vv : Value, five (.slice a0 m k0) (.slice none 0 0) (.slice none 0 0) (.slice none 0 0) (.slice none 0 0) k = vv := ⟨_, rfl⟩
      rw [hbd] at cB hF
      rw [hvv] at cA hF
      clear hbd hvv
      cases bd with
      | true =>
        have hv := hF.bad_ rfl
        subst hv
        clear hF
        go_wp2_with fail
        go_roundg (5 - (k + 1))
        case measure => omega
        case rel => exact ⟨k + 1, rfl, by omega, by go_num, HBw.out.1⟩
      | false =>
        obtain ⟨sa, sk, l, hvv, hl, hlen, hnil, htm, hau⟩ := hF.fine rfl
        subst hvv
        have HL : Hid (LiesS wr sa l ∧ l.length = m ∧ (sa = none → l = [] ∧ sk = 0) ∧ tameAll l ∧ AuditAll per ps l 0 (-1)) := ⟨hl, hlen, hnil, htm, hau⟩
        have HOwnS : Hid (∀ W, Below wr.heap.size wr W → Calls Tryd.prog 11 #[.slice sa m sk] W fun e w'' => ∃ a' cap', e = .returned (.slice a' m cap') ∧ LiesS w'' a' l ∧ Below W.heap.size W w'' ∧ Below wr.heap.size wr w'') := fun W hb => by
          have := ownSent_from sa sk l wr W hb hl (by omega) hnil
          rwa [hlen] at this
        have HOwnP : Hid (∀ W, Below wr.heap.size wr W → Calls Tryd.prog 10 #[.slice pa m pcap] W fun e w'' => ∃ a' cap', e = .returned (.slice a' m cap') ∧ LiesP w'' a' ps ∧ m ≤ cap' ∧ cap' ≤ maxLen ∧ Below W.heap.size W w'' ∧ Below wr.heap.size wr w'') := fun W hb => (HOwn.out W (HBw.out.2.trans (hb.mono HBw.out.2.size))).mono fun e w'' ⟨a', c', g1, g2, g3, g4, g5, _⟩ => ⟨a', c', g1, g2, g3, g4, g5, hb.trans (g5.mono hb.size)⟩
        clear hF hl hlen hnil htm hau
        go_wp2_with fail
        go_region_with (first
          | (go_simp; go_at_call 10; go_must (refine (HOwnP.out _ (by first | exact HSb.out.2.1 | exact below_drewN (Below.refl _ _) 1)).mono ?_; rintro e wp ⟨pq, pc, rfl, lp, gp, mp, bp, Bp⟩; have HPb := (show Hid (LiesP wp pq ps ∧ Below wr.heap.size wr wp ∧ (m ≤ pc ∧ pc ≤ maxLen) ∧ Below _ _ wp) from ⟨lp, Bp, ⟨gp, mp⟩, bp⟩); have cAp := cell_later Bp cA; clear lp gp mp bp Bp))
          | (go_simp; go_at_call 11; go_must (refine (HOwnS.out _ (by first | exact HPb.out.2.1 | exact below_drewN (Below.refl _ _) 1)).mono ?_; rintro e ws ⟨sq, sc, rfl, ls, bs, Bs⟩; have HSb := (show Hid (LiesS ws sq l ∧ Below wr.heap.size wr ws ∧ Below _ _ ws) from ⟨ls, Bs, bs⟩); clear ls bs Bs))
          | (go_simp; go_at_call 9; go_must (refine (HChk.out _ pq pc sq sc l (by first | exact HBw.out.2.trans (HSb.out.2.1.mono HBw.out.2.size) | exact HBw.out.2.trans (HPb.out.2.1.mono HBw.out.2.size)) (by first | exact HPb.out.1 | exact HPb.out.1.below HSb.out.2.2) HPb.out.2.2.1.1 HPb.out.2.2.1.2 (by first | exact HSb.out.1 | exact HSb.out.1.below HPb.out.2.2.2) HL.out.2.1 HL.out.2.2.2.1 HL.out.2.2.2.2).mono ?_; rintro e wc ⟨rfl, bc⟩; have HCb : Hid (Below V2.heap.size V2 wc) := (by first | exact HBw.out.1.trans ((HSb.out.2.1.trans (bc.mono HSb.out.2.1.size)).mono HBw.out.1.size) | exact HBw.out.1.trans ((HPb.out.2.1.trans (bc.mono HPb.out.2.1.size)).mono HBw.out.1.size)); clear bc))
          | fail)
        all_goals (go_wp2_with fail)
        all_goals (go_roundg (5 - (k + 1)))
        all_goals first
          | (show _ < _; omega)
          | exact ⟨k + 1, rfl, by omega, by go_num, HCb.out⟩
    · go_wp2_with fail
      go_ret
      exact ⟨rfl, HBw.out.2⟩
set_option maxRecDepth 100000 in
set_option maxHeartbeats 4000000 in
theorem arLaw_10100 (pa : Option Addr) (m pcap : Nat) (ps : List Pk) (per : Int) (na : Option Addr) (r ncap : Nat) (w : World) (hm : m ≤ 80 ∨ m = 301) (hmm : m ≤ maxLen) (hr : r ≤ 30)
    (hAud : ∀ w', Below w.heap.size w w' → Calls Tryd.prog 5 #[] w' fun e w'' => e = .returned (.bool true) ∧ Below w'.heap.size w' w'')
    (hOwn : ∀ w', Below w.heap.size w w' → Calls Tryd.prog 10 #[.slice pa m pcap] w' fun e w'' => ∃ a' cap', e = .returned (.slice a' m cap') ∧ LiesP w'' a' ps ∧ m ≤ cap' ∧ cap' ≤ maxLen ∧ Below w'.heap.size w' w'' ∧ Below w.heap.size w w'')
    (hChk : ∀ W a3 k3 b3 j3 l, Below w.heap.size w W → LiesP W a3 ps → m ≤ k3 → k3 ≤ maxLen → LiesS W b3 l → l.length = m → tameAll l → AuditAll per ps l 0 (-1) → Calls Tryd.prog 9 #[.slice a3 m k3, .int .i64 per, .slice b3 m j3] W fun e w' => e = .returned .nilIface ∧ Below W.heap.size W w')
    (h0 : ∀ W a3 k3, Below w.heap.size w W → LiesP W a3 ps → m ≤ k3 → k3 ≤ maxLen → Calls Tryd.prog 17 #[.slice a3 m k3, .int .i64 per] W fun e w' => RunFine per ps m W e w') (h1 : ∀ W a3 k3, Below w.heap.size w W → LiesP W a3 ps → m ≤ k3 → k3 ≤ maxLen → Calls Tryd.prog 18 #[.slice a3 m k3, .int .i64 per, .slice na r ncap] W fun e w' => RunFault W e w') (h2 : ∀ W a3 k3, Below w.heap.size w W → LiesP W a3 ps → m ≤ k3 → k3 ≤ maxLen → Calls Tryd.prog 19 #[.slice a3 m k3, .int .i64 per, .slice na r ncap] W fun e w' => RunFine per ps m W e w') (h3 : ∀ W a3 k3, Below w.heap.size w W → LiesP W a3 ps → m ≤ k3 → k3 ≤ maxLen → Calls Tryd.prog 20 #[.slice a3 m k3, .int .i64 per, .slice na r ncap] W fun e w' => RunFault W e w') (h4 : ∀ W a3 k3, Below w.heap.size w W → LiesP W a3 ps → m ≤ k3 → k3 ≤ maxLen → Calls Tryd.prog 21 #[.slice a3 m k3, .int .i64 per, .slice na r ncap] W fun e w' => RunFault W e w') :
    Calls Tryd.prog 4 #[.slice pa m pcap, .int .i64 per, .slice na r ncap] w fun e w' => e = .returned (.bool true) ∧ Below w.heap.size w w' := by
  have HFit : Hid (∀ w', Calls Tryd.prog 6 #[.slice pa m pcap, .int .i64 80] w' fun e w'' => e = .returned (.bool true) ∧ w'' = w') := fun w' => fitPkts_yes pa m pcap 80 w' hmm (by omega)
  have HA : Hid (∀ w', Below w.heap.size w w' → Calls Tryd.prog 5 #[] w' fun e w'' => e = .returned (.bool true) ∧ Below w'.heap.size w' w'') := hAud
  have HOwn : Hid (∀ w', Below w.heap.size w w' → Calls Tryd.prog 10 #[.slice pa m pcap] w' fun e w'' => ∃ a' cap', e = .returned (.slice a' m cap') ∧ LiesP w'' a' ps ∧ m ≤ cap' ∧ cap' ≤ maxLen ∧ Below w'.heap.size w' w'' ∧ Below w.heap.size w w'') := hOwn
  have HChk : Hid (∀ W a3 k3 b3 j3 l, Below w.heap.size w W → LiesP W a3 ps → m ≤ k3 → k3 ≤ maxLen → LiesS W b3 l → l.length = m → tameAll l → AuditAll per ps l 0 (-1) → Calls Tryd.prog 9 #[.slice a3 m k3, .int .i64 per, .slice b3 m j3] W fun e w' => e = .returned .nilIface ∧ Below W.heap.size W w') := hChk
  have H0 : Hid (∀ W a3 k3, Below w.heap.size w W → LiesP W a3 ps → m ≤ k3 → k3 ≤ maxLen → Calls Tryd.prog 17 #[.slice a3 m k3, .int .i64 per] W fun e w' => RunFine per ps m W e w') := h0
  have H1 : Hid (∀ W a3 k3, Below w.heap.size w W → LiesP W a3 ps → m ≤ k3 → k3 ≤ maxLen → Calls Tryd.prog 18 #[.slice a3 m k3, .int .i64 per, .slice na r ncap] W fun e w' => RunFault W e w') := h1
  have H2 : Hid (∀ W a3 k3, Below w.heap.size w W → LiesP W a3 ps → m ≤ k3 → k3 ≤ maxLen → Calls Tryd.prog 19 #[.slice a3 m k3, .int .i64 per, .slice na r ncap] W fun e w' => RunFine per ps m W e w') := h2
  have H3 : Hid (∀ W a3 k3, Below w.heap.size w W → LiesP W a3 ps → m ≤ k3 → k3 ≤ maxLen → Calls Tryd.prog 20 #[.slice a3 m k3, .int .i64 per, .slice na r ncap] W fun e w' => RunFault W e w') := h3
  have H4 : Hid (∀ W a3 k3, Below w.heap.size w W → LiesP W a3 ps → m ≤ k3 → k3 ≤ maxLen → Calls Tryd.prog 21 #[.slice a3 m k3, .int .i64 per, .slice na r ncap] W fun e w' => RunFault W e w') := h4
  have hr2 : decide ((30 : Int) < (r : Int)) = false := decide_eq_false (by omega)
  unfold maxLen at hmm
  clear hAud hOwn hChk h0 h1 h2 h3 h4
  go_enter Tryd.func4, Tryd.ntmps4
  go_wp2_with fail
  refine (HA.out _ (Below.refl _ _)).mono ?_
  rintro e u0 ⟨rfl, hb⟩
  have HB0 : Hid (Below w.heap.size w u0) := hb
  clear hb
  go_wp2_with fail
  refine (HFit.out _).mono ?_
  rintro e u0x ⟨rfl, hu0⟩
  rw [hu0]
  clear hu0
  go_wp2_with fail
  refine (HOwn.out _ HB0.out).mono ?_
  rintro e p0 ⟨q0, j0, rfl, l0, g0, m0, b0, B0⟩
  have HP0 : Hid (Below w.heap.size w p0 ∧ LiesP p0 q0 ps ∧ m ≤ j0 ∧ j0 ≤ maxLen ∧ Below u0.heap.size u0 p0) := ⟨B0, l0, g0, m0, b0⟩
  clear l0 g0 m0 b0 B0
  go_wp2_with fail
  refine (H0.out p0 q0 j0 HP0.out.1 HP0.out.2.1 HP0.out.2.2.1 HP0.out.2.2.2.1).mono ?_
  rintro e w0 ⟨a0, k0, s0, rfl, hf0, c0⟩
  have HW0 : Hid (Below w.heap.size w w0 ∧ FiveAt per ps m w0 (.slice a0 m k0) false ∧ Below p0.heap.size p0 w0) := ⟨HP0.out.1.trans (c0.mono HP0.out.1.size), fiveAt_fine hf0, c0⟩
  clear hf0 c0
  go_wp2_with fail
  refine (HOwn.out _ HW0.out.1).mono ?_
  rintro e p1 ⟨q1, j1, rfl, l1, g1, m1, b1, B1⟩
  have HP1 : Hid (Below w.heap.size w p1 ∧ LiesP p1 q1 ps ∧ m ≤ j1 ∧ j1 ≤ maxLen ∧ Below w0.heap.size w0 p1) := ⟨B1, l1, g1, m1, b1⟩
  clear l1 g1 m1 b1 B1
  go_wp2_with fail
  refine (H1.out p1 q1 j1 HP1.out.1 HP1.out.2.1 HP1.out.2.2.1 HP1.out.2.2.2.1).mono ?_
  rintro e w1 ⟨ty1, v1, rfl, c1⟩
  have HW1 : Hid (Below w.heap.size w w1 ∧ FiveAt per ps m w1 (.slice none 0 0) true ∧ Below p1.heap.size p1 w1) := ⟨HP1.out.1.trans (c1.mono HP1.out.1.size), fiveAt_bad _ _ _ _, c1⟩
  clear c1
  go_wp2_with fail
  refine (HOwn.out _ HW1.out.1).mono ?_
  rintro e p2 ⟨q2, j2, rfl, l2, g2, m2, b2, B2⟩
  have HP2 : Hid (Below w.heap.size w p2 ∧ LiesP p2 q2 ps ∧ m ≤ j2 ∧ j2 ≤ maxLen ∧ Below w1.heap.size w1 p2) := ⟨B2, l2, g2, m2, b2⟩
  clear l2 g2 m2 b2 B2
  go_wp2_with fail
  refine (H2.out p2 q2 j2 HP2.out.1 HP2.out.2.1 HP2.out.2.2.1 HP2.out.2.2.2.1).mono ?_
  rintro e w2 ⟨a2, k2, s2, rfl, hf2, c2⟩
  have HW2 : Hid (Below w.heap.size w w2 ∧ FiveAt per ps m w2 (.slice a2 m k2) false ∧ Below p2.heap.size p2 w2) := ⟨HP2.out.1.trans (c2.mono HP2.out.1.size), fiveAt_fine hf2, c2⟩
  clear hf2 c2
  go_wp2_with fail
  refine (HOwn.out _ HW2.out.1).mono ?_
  rintro e p3 ⟨q3, j3, rfl, l3, g3, m3, b3, B3⟩
  have HP3 : Hid (Below w.heap.size w p3 ∧ LiesP p3 q3 ps ∧ m ≤ j3 ∧ j3 ≤ maxLen ∧ Below w2.heap.size w2 p3) := ⟨B3, l3, g3, m3, b3⟩
  clear l3 g3 m3 b3 B3
  go_wp2_with fail
  refine (H3.out p3 q3 j3 HP3.out.1 HP3.out.2.1 HP3.out.2.2.1 HP3.out.2.2.2.1).mono ?_
  rintro e w3 ⟨ty3, v3, rfl, c3⟩
  have HW3 : Hid (Below w.heap.size w w3 ∧ FiveAt per ps m w3 (.slice none 0 0) true ∧ Below p3.heap.size p3 w3) := ⟨HP3.out.1.trans (c3.mono HP3.out.1.size), fiveAt_bad _ _ _ _, c3⟩
  clear c3
  go_wp2_with fail
  refine (HOwn.out _ HW3.out.1).mono ?_
  rintro e p4 ⟨q4, j4, rfl, l4, g4, m4, b4, B4⟩
  have HP4 : Hid (Below w.heap.size w p4 ∧ LiesP p4 q4 ps ∧ m ≤ j4 ∧ j4 ≤ maxLen ∧ Below w3.heap.size w3 p4) := ⟨B4, l4, g4, m4, b4⟩
  clear l4 g4 m4 b4 B4
  go_wp2_with fail
  refine (H4.out p4 q4 j4 HP4.out.1 HP4.out.2.1 HP4.out.2.2.1 HP4.out.2.2.2.1).mono ?_
  rintro e w4 ⟨ty4, v4, rfl, c4⟩
  have HW4 : Hid (Below w.heap.size w w4 ∧ FiveAt per ps m w4 (.slice none 0 0) true ∧ Below p4.heap.size p4 w4) := ⟨HP4.out.1.trans (c4.mono HP4.out.1.size), fiveAt_bad _ _ _ _, c4⟩
  clear c4
  have s34 : Below w3.heap.size w3 w4 := HP4.out.2.2.2.2.trans (HW4.out.2.2.mono HP4.out.2.2.2.2.size)
  have s23 : Below w2.heap.size w2 w3 := HP3.out.2.2.2.2.trans (HW3.out.2.2.mono HP3.out.2.2.2.2.size)
  have s12 : Below w1.heap.size w1 w2 := HP2.out.2.2.2.2.trans (HW2.out.2.2.mono HP2.out.2.2.2.2.size)
  have s01 : Below w0.heap.size w0 w1 := HP1.out.2.2.2.2.trans (HW1.out.2.2.mono HP1.out.2.2.2.2.size)
  have s24 := s23.trans (s34.mono s23.size)
  have s14 := s12.trans (s24.mono s12.size)
  have s04 := s01.trans (s14.mono s01.size)
  have HV0 : Hid (∀ k, k < 5 → FiveAt per ps m w4 (five (.slice a0 m k0) (.slice none 0 0) (.slice a2 m k2) (.slice none 0 0) (.slice none 0 0) k) (five false true false true true k)) := fun k hk => by
    match k, hk with
    | 0, _ => exact HW0.out.2.1.later s04
    | 1, _ => exact HW1.out.2.1.later s14
    | 2, _ => exact HW2.out.2.1.later s24
    | 3, _ => exact HW3.out.2.1.later s34
    | 4, _ => exact HW4.out.2.1
    | k + 5, h => omega
  clear s34 s23 s12 s01 s24 s14 s04
  go_wp2_with fail
  obtain ⟨V1, hV1⟩ : ∃ V1, w4.alloc (.cells #[.slice a0 m k0, .slice none 0 0, .slice a2 m k2, .slice none 0 0, .slice none 0 0] 23) = V1 := ⟨_, rfl⟩
  have HV1 : Hid (w4.alloc (.cells #[.slice a0 m k0, .slice none 0 0, .slice a2 m k2, .slice none 0 0, .slice none 0 0] 23) = V1) := hV1
  have gA : Hid (V1.heap.size = w4.heap.size + 1 ∧ Below w4.heap.size w4 V1) := by
    show _ ∧ _
    rw [← hV1]
    exact ⟨by simp, (Below.refl _ _).alloc (Nat.le_refl _) _⟩
  have HcA : Hid (∀ k, k < 5 → V1.cell? ⟨w4.heap.size, k, none⟩ = some (five (.slice a0 m k0) (.slice none 0 0) (.slice a2 m k2) (.slice none 0 0) (.slice none 0 0) k)) := fun k hk => by
    rw [← hV1, World.cell?_alloc_at _ _ _ _ rfl]
    match k, hk with
    | 0, _ => rfl
    | 1, _ => rfl
    | 2, _ => rfl
    | 3, _ => rfl
    | 4, _ => rfl
    | k + 5, h => omega
  rw [hV1]
  clear hV1
  go_region
  obtain ⟨V2, hV2⟩ : ∃ V2, (V1.alloc (.cells #[.bool false, .bool true, .bool false, .bool true, .bool true] 4)).drew = V2 := ⟨_, rfl⟩
  have hbV : Below V1.heap.size V1 V2 := by
    rw [← hV2]
    exact below_drewN ((Below.refl _ _).alloc (Nat.le_refl _) _) 1
  have HcB : Hid (∀ k, k < 5 → V2.cell? ⟨V1.heap.size, k, none⟩ = some (.bool (five false true false true true k))) := fun k hk => by
    have hc : (V1.alloc (.cells #[.bool false, .bool true, .bool false, .bool true, .bool true] 4)).cell? ⟨V1.heap.size, k, none⟩ = some (.bool (five false true false true true k)) := by
      rw [World.cell?_alloc_at _ _ _ _ rfl]
      match k, hk with
      | 0, _ => rfl
      | 1, _ => rfl
      | 2, _ => rfl
      | 3, _ => rfl
      | 4, _ => rfl
      | k + 5, h => omega
    rw [← hV2]
    exact hc
  have hb4 : Below w4.heap.size w4 V2 := gA.out.2.trans (hbV.mono gA.out.2.size)
  have HV2 : Hid ((∀ k, k < 5 → FiveAt per ps m V2 (five (.slice a0 m k0) (.slice none 0 0) (.slice a2 m k2) (.slice none 0 0) (.slice none 0 0) k) (five false true false true true k)) ∧ (∀ k, k < 5 → V2.cell? ⟨w4.heap.size, k, none⟩ = some (five (.slice a0 m k0) (.slice none 0 0) (.slice a2 m k2) (.slice none 0 0) (.slice none 0 0) k)) ∧ Below w.heap.size w V2) := ⟨fun k hk => (HV0.out k hk).later hb4, fun k hk => cell_later hbV (HcA.out k hk), HW4.out.1.trans (hb4.mono HW4.out.1.size)⟩
  rw [hV2]
  clear hV2 hbV hb4
  go_wp2_with fail
  go_loopg [20] 5 (fun gk iv wr => ∃ k : Nat, gk = 5 - k ∧ k ≤ 5 ∧ iv = .int .i64 (k : Int) ∧ Below V2.heap.size V2 wr)
  case atStart => exact ⟨0, rfl, by omega, rfl, Below.refl _ _⟩
  case round =>
    obtain ⟨k, rfl, hk', rfl, hbw⟩ := hrel
    have HBw : Hid (Below V2.heap.size V2 wr ∧ Below w.heap.size w wr) := ⟨hbw, HV2.out.2.2.trans (hbw.mono HV2.out.2.2.size)⟩
    clear hbw
    by_cases hk : k < 5
    · have hki : (k : Int) < 5 := by omega
      have cB := cell_later HBw.out.1 (HcB.out k hk)
      have cA := cell_later HBw.out.1 (HV2.out.2.1 k hk)
      have hF := (HV2.out.1 k hk).later HBw.out.1
      obtain ⟨bd, hbd⟩ : ∃ bd, five false true false true true k = bd := ⟨_, rfl⟩
      obtain ⟨vv, hvv⟩ : ∃ vv : Value, five (.slice a0 m k0) (.slice none 0 0) (.slice a2 m k2) (.slice none 0 0) (.slice none 0 0) k = vv := ⟨_, rfl⟩
      rw [hbd] at cB hF
      rw [hvv] at cA hF
      clear hbd hvv
      cases bd with
      | true =>
        have hv := hF.bad_ rfl
        subst hv
        clear hF
        go_wp2_with fail
        go_roundg (5 - (k + 1))
        case measure => omega
        case rel => exact ⟨k + 1, rfl, by omega, by go_num, HBw.out.1⟩
      | false =>
        obtain ⟨sa, sk, l, hvv, hl, hlen, hnil, htm, hau⟩ := hF.fine rfl
        subst hvv
        have HL : Hid (LiesS wr sa l ∧ l.length = m ∧ (sa = none → l = [] ∧ sk = 0) ∧ tameAll l ∧ AuditAll per ps l 0 (-1)) := ⟨hl, hlen, hnil, htm, hau⟩
        have HOwnS : Hid (∀ W, Below wr.heap.size wr W → Calls Tryd.prog 11 #[.slice sa m sk] W fun e w'' => ∃ a' cap', e = .returned (.slice a' m cap') ∧ LiesS w'' a' l ∧ Below W.heap.size W w'' ∧ Below wr.heap.size wr w'') := fun W hb => by
          have := ownSent_from sa sk l wr W hb hl (by omega) hnil
          rwa [hlen] at this
        have HOwnP : Hid (∀ W, Below wr.heap.size wr W → Calls Tryd.prog 10 #[.slice pa m pcap] W fun e w'' => ∃ a' cap', e = .returned (.slice a' m cap') ∧ LiesP w'' a' ps ∧ m ≤ cap' ∧ cap' ≤ maxLen ∧ Below W.heap.size W w'' ∧ Below wr.heap.size wr w'') := fun W hb => (HOwn.out W (HBw.out.2.trans (hb.mono HBw.out.2.size))).mono fun e w'' ⟨a', c', g1, g2, g3, g4, g5, _⟩ => ⟨a', c', g1, g2, g3, g4, g5, hb.trans (g5.mono hb.size)⟩
        clear hF hl hlen hnil htm hau
        go_wp2_with fail
        go_region_with (first
          | (go_simp; go_at_call 10; go_must (refine (HOwnP.out _ (by first | exact HSb.out.2.1 | exact below_drewN (Below.refl _ _) 1)).mono ?_; rintro e wp ⟨pq, pc, rfl, lp, gp, mp, bp, Bp⟩; have HPb := (show Hid (LiesP wp pq ps ∧ Below wr.heap.size wr wp ∧ (m ≤ pc ∧ pc ≤ maxLen) ∧ Below _ _ wp) from ⟨lp, Bp, ⟨gp, mp⟩, bp⟩); have cAp := cell_later Bp cA; clear lp gp mp bp Bp))
          | (go_simp; go_at_call 11; go_must (refine (HOwnS.out _ (by first | exact HPb.out.2.1 | exact below_drewN (Below.refl _ _) 1)).mono ?_; rintro e ws ⟨sq, sc, rfl, ls, bs, Bs⟩; have HSb := (show Hid (LiesS ws sq l ∧ Below wr.heap.size wr ws ∧ Below _ _ ws) from ⟨ls, Bs, bs⟩); clear ls bs Bs))
          | (go_simp; go_at_call 9; go_must (refine (HChk.out _ pq pc sq sc l (by first | exact HBw.out.2.trans (HSb.out.2.1.mono HBw.out.2.size) | exact HBw.out.2.trans (HPb.out.2.1.mono HBw.out.2.size)) (by first | exact HPb.out.1 | exact HPb.out.1.below HSb.out.2.2) HPb.out.2.2.1.1 HPb.out.2.2.1.2 (by first | exact HSb.out.1 | exact HSb.out.1.below HPb.out.2.2.2) HL.out.2.1 HL.out.2.2.2.1 HL.out.2.2.2.2).mono ?_; rintro e wc ⟨rfl, bc⟩; have HCb : Hid (Below V2.heap.size V2 wc) := (by first | exact HBw.out.1.trans ((HSb.out.2.1.trans (bc.mono HSb.out.2.1.size)).mono HBw.out.1.size) | exact HBw.out.1.trans ((HPb.out.2.1.trans (bc.mono HPb.out.2.1.size)).mono HBw.out.1.size)); clear bc))
          | fail)
        all_goals (go_wp2_with fail)
        all_goals (go_roundg (5 - (k + 1)))
        all_goals first
          | (show _ < _; omega)
          | exact ⟨k + 1, rfl, by omega, by go_num, HCb.out⟩
    · go_wp2_with fail
      go_ret
      exact ⟨rfl, HBw.out.2⟩
end Go.Proofs.YtolbmkniafkeaaaDoor

/- AuditRuns: its other ways. -/
namespace Go.Proofs.YtolbmkniafkeaaaDoor
open Go.RowKit

set_option maxRecDepth 100000 in
set_option maxHeartbeats 4000000 in
theorem arLaw_11100 (pa : Option Addr) (m pcap : Nat) (ps : List Pk) (per : Int) (na : Option Addr) (r ncap : Nat) (w : World) (hm : m ≤ 80 ∨ m = 301) (hmm : m ≤ maxLen) (hr : r ≤ 30)
    (hAud : ∀ w', Below w.heap.size w w' → Calls Tryd.prog 5 #[] w' fun e w'' => e = .returned (.bool true) ∧ Below w'.heap.size w' w'')
    (hOwn : ∀ w', Below w.heap.size w w' → Calls Tryd.prog 10 #[.slice pa m pcap] w' fun e w'' => ∃ a' cap', e = .returned (.slice a' m cap') ∧ LiesP w'' a' ps ∧ m ≤ cap' ∧ cap' ≤ maxLen ∧ Below w'.heap.size w' w'' ∧ Below w.heap.size w w'')
    (hChk : ∀ W a3 k3 b3 j3 l, Below w.heap.size w W → LiesP W a3 ps → m ≤ k3 → k3 ≤ maxLen → LiesS W b3 l → l.length = m → tameAll l → AuditAll per ps l 0 (-1) → Calls Tryd.prog 9 #[.slice a3 m k3, .int .i64 per, .slice b3 m j3] W fun e w' => e = .returned .nilIface ∧ Below W.heap.size W w')
    (h0 : ∀ W a3 k3, Below w.heap.size w W → LiesP W a3 ps → m ≤ k3 → k3 ≤ maxLen → Calls Tryd.prog 17 #[.slice a3 m k3, .int .i64 per] W fun e w' => RunFine per ps m W e w') (h1 : ∀ W a3 k3, Below w.heap.size w W → LiesP W a3 ps → m ≤ k3 → k3 ≤ maxLen → Calls Tryd.prog 18 #[.slice a3 m k3, .int .i64 per, .slice na r ncap] W fun e w' => RunFine per ps m W e w') (h2 : ∀ W a3 k3, Below w.heap.size w W → LiesP W a3 ps → m ≤ k3 → k3 ≤ maxLen → Calls Tryd.prog 19 #[.slice a3 m k3, .int .i64 per, .slice na r ncap] W fun e w' => RunFine per ps m W e w') (h3 : ∀ W a3 k3, Below w.heap.size w W → LiesP W a3 ps → m ≤ k3 → k3 ≤ maxLen → Calls Tryd.prog 20 #[.slice a3 m k3, .int .i64 per, .slice na r ncap] W fun e w' => RunFault W e w') (h4 : ∀ W a3 k3, Below w.heap.size w W → LiesP W a3 ps → m ≤ k3 → k3 ≤ maxLen → Calls Tryd.prog 21 #[.slice a3 m k3, .int .i64 per, .slice na r ncap] W fun e w' => RunFault W e w') :
    Calls Tryd.prog 4 #[.slice pa m pcap, .int .i64 per, .slice na r ncap] w fun e w' => e = .returned (.bool true) ∧ Below w.heap.size w w' := by
  have HFit : Hid (∀ w', Calls Tryd.prog 6 #[.slice pa m pcap, .int .i64 80] w' fun e w'' => e = .returned (.bool true) ∧ w'' = w') := fun w' => fitPkts_yes pa m pcap 80 w' hmm (by omega)
  have HA : Hid (∀ w', Below w.heap.size w w' → Calls Tryd.prog 5 #[] w' fun e w'' => e = .returned (.bool true) ∧ Below w'.heap.size w' w'') := hAud
  have HOwn : Hid (∀ w', Below w.heap.size w w' → Calls Tryd.prog 10 #[.slice pa m pcap] w' fun e w'' => ∃ a' cap', e = .returned (.slice a' m cap') ∧ LiesP w'' a' ps ∧ m ≤ cap' ∧ cap' ≤ maxLen ∧ Below w'.heap.size w' w'' ∧ Below w.heap.size w w'') := hOwn
  have HChk : Hid (∀ W a3 k3 b3 j3 l, Below w.heap.size w W → LiesP W a3 ps → m ≤ k3 → k3 ≤ maxLen → LiesS W b3 l → l.length = m → tameAll l → AuditAll per ps l 0 (-1) → Calls Tryd.prog 9 #[.slice a3 m k3, .int .i64 per, .slice b3 m j3] W fun e w' => e = .returned .nilIface ∧ Below W.heap.size W w') := hChk
  have H0 : Hid (∀ W a3 k3, Below w.heap.size w W → LiesP W a3 ps → m ≤ k3 → k3 ≤ maxLen → Calls Tryd.prog 17 #[.slice a3 m k3, .int .i64 per] W fun e w' => RunFine per ps m W e w') := h0
  have H1 : Hid (∀ W a3 k3, Below w.heap.size w W → LiesP W a3 ps → m ≤ k3 → k3 ≤ maxLen → Calls Tryd.prog 18 #[.slice a3 m k3, .int .i64 per, .slice na r ncap] W fun e w' => RunFine per ps m W e w') := h1
  have H2 : Hid (∀ W a3 k3, Below w.heap.size w W → LiesP W a3 ps → m ≤ k3 → k3 ≤ maxLen → Calls Tryd.prog 19 #[.slice a3 m k3, .int .i64 per, .slice na r ncap] W fun e w' => RunFine per ps m W e w') := h2
  have H3 : Hid (∀ W a3 k3, Below w.heap.size w W → LiesP W a3 ps → m ≤ k3 → k3 ≤ maxLen → Calls Tryd.prog 20 #[.slice a3 m k3, .int .i64 per, .slice na r ncap] W fun e w' => RunFault W e w') := h3
  have H4 : Hid (∀ W a3 k3, Below w.heap.size w W → LiesP W a3 ps → m ≤ k3 → k3 ≤ maxLen → Calls Tryd.prog 21 #[.slice a3 m k3, .int .i64 per, .slice na r ncap] W fun e w' => RunFault W e w') := h4
  have hr2 : decide ((30 : Int) < (r : Int)) = false := decide_eq_false (by omega)
  unfold maxLen at hmm
  clear hAud hOwn hChk h0 h1 h2 h3 h4
  go_enter Tryd.func4, Tryd.ntmps4
  go_wp2_with fail
  refine (HA.out _ (Below.refl _ _)).mono ?_
  rintro e u0 ⟨rfl, hb⟩
  have HB0 : Hid (Below w.heap.size w u0) := hb
  clear hb
  go_wp2_with fail
  refine (HFit.out _).mono ?_
  rintro e u0x ⟨rfl, hu0⟩
  rw [hu0]
  clear hu0
  go_wp2_with fail
  refine (HOwn.out _ HB0.out).mono ?_
  rintro e p0 ⟨q0, j0, rfl, l0, g0, m0, b0, B0⟩
  have HP0 : Hid (Below w.heap.size w p0 ∧ LiesP p0 q0 ps ∧ m ≤ j0 ∧ j0 ≤ maxLen ∧ Below u0.heap.size u0 p0) := ⟨B0, l0, g0, m0, b0⟩
  clear l0 g0 m0 b0 B0
  go_wp2_with fail
  refine (H0.out p0 q0 j0 HP0.out.1 HP0.out.2.1 HP0.out.2.2.1 HP0.out.2.2.2.1).mono ?_
  rintro e w0 ⟨a0, k0, s0, rfl, hf0, c0⟩
  have HW0 : Hid (Below w.heap.size w w0 ∧ FiveAt per ps m w0 (.slice a0 m k0) false ∧ Below p0.heap.size p0 w0) := ⟨HP0.out.1.trans (c0.mono HP0.out.1.size), fiveAt_fine hf0, c0⟩
  clear hf0 c0
  go_wp2_with fail
  refine (HOwn.out _ HW0.out.1).mono ?_
  rintro e p1 ⟨q1, j1, rfl, l1, g1, m1, b1, B1⟩
  have HP1 : Hid (Below w.heap.size w p1 ∧ LiesP p1 q1 ps ∧ m ≤ j1 ∧ j1 ≤ maxLen ∧ Below w0.heap.size w0 p1) := ⟨B1, l1, g1, m1, b1⟩
  clear l1 g1 m1 b1 B1
  go_wp2_with fail
  refine (H1.out p1 q1 j1 HP1.out.1 HP1.out.2.1 HP1.out.2.2.1 HP1.out.2.2.2.1).mono ?_
  rintro e w1 ⟨a1, k1, s1, rfl, hf1, c1⟩
  have HW1 : Hid (Below w.heap.size w w1 ∧ FiveAt per ps m w1 (.slice a1 m k1) false ∧ Below p1.heap.size p1 w1) := ⟨HP1.out.1.trans (c1.mono HP1.out.1.size), fiveAt_fine hf1, c1⟩
  clear hf1 c1
  go_wp2_with fail
  refine (HOwn.out _ HW1.out.1).mono ?_
  rintro e p2 ⟨q2, j2, rfl, l2, g2, m2, b2, B2⟩
  have HP2 : Hid (Below w.heap.size w p2 ∧ LiesP p2 q2 ps ∧ m ≤ j2 ∧ j2 ≤ maxLen ∧ Below w1.heap.size w1 p2) := ⟨B2, l2, g2, m2, b2⟩
  clear l2 g2 m2 b2 B2
  go_wp2_with fail
  refine (H2.out p2 q2 j2 HP2.out.1 HP2.out.2.1 HP2.out.2.2.1 HP2.out.2.2.2.1).mono ?_
  rintro e w2 ⟨a2, k2, s2, rfl, hf2, c2⟩
  have HW2 : Hid (Below w.heap.size w w2 ∧ FiveAt per ps m w2 (.slice a2 m k2) false ∧ Below p2.heap.size p2 w2) := ⟨HP2.out.1.trans (c2.mono HP2.out.1.size), fiveAt_fine hf2, c2⟩
  clear hf2 c2
  go_wp2_with fail
  refine (HOwn.out _ HW2.out.1).mono ?_
  rintro e p3 ⟨q3, j3, rfl, l3, g3, m3, b3, B3⟩
  have HP3 : Hid (Below w.heap.size w p3 ∧ LiesP p3 q3 ps ∧ m ≤ j3 ∧ j3 ≤ maxLen ∧ Below w2.heap.size w2 p3) := ⟨B3, l3, g3, m3, b3⟩
  clear l3 g3 m3 b3 B3
  go_wp2_with fail
  refine (H3.out p3 q3 j3 HP3.out.1 HP3.out.2.1 HP3.out.2.2.1 HP3.out.2.2.2.1).mono ?_
  rintro e w3 ⟨ty3, v3, rfl, c3⟩
  have HW3 : Hid (Below w.heap.size w w3 ∧ FiveAt per ps m w3 (.slice none 0 0) true ∧ Below p3.heap.size p3 w3) := ⟨HP3.out.1.trans (c3.mono HP3.out.1.size), fiveAt_bad _ _ _ _, c3⟩
  clear c3
  go_wp2_with fail
  refine (HOwn.out _ HW3.out.1).mono ?_
  rintro e p4 ⟨q4, j4, rfl, l4, g4, m4, b4, B4⟩
  have HP4 : Hid (Below w.heap.size w p4 ∧ LiesP p4 q4 ps ∧ m ≤ j4 ∧ j4 ≤ maxLen ∧ Below w3.heap.size w3 p4) := ⟨B4, l4, g4, m4, b4⟩
  clear l4 g4 m4 b4 B4
  go_wp2_with fail
  refine (H4.out p4 q4 j4 HP4.out.1 HP4.out.2.1 HP4.out.2.2.1 HP4.out.2.2.2.1).mono ?_
  rintro e w4 ⟨ty4, v4, rfl, c4⟩
  have HW4 : Hid (Below w.heap.size w w4 ∧ FiveAt per ps m w4 (.slice none 0 0) true ∧ Below p4.heap.size p4 w4) := ⟨HP4.out.1.trans (c4.mono HP4.out.1.size), fiveAt_bad _ _ _ _, c4⟩
  clear c4
  have s34 : Below w3.heap.size w3 w4 := HP4.out.2.2.2.2.trans (HW4.out.2.2.mono HP4.out.2.2.2.2.size)
  have s23 : Below w2.heap.size w2 w3 := HP3.out.2.2.2.2.trans (HW3.out.2.2.mono HP3.out.2.2.2.2.size)
  have s12 : Below w1.heap.size w1 w2 := HP2.out.2.2.2.2.trans (HW2.out.2.2.mono HP2.out.2.2.2.2.size)
  have s01 : Below w0.heap.size w0 w1 := HP1.out.2.2.2.2.trans (HW1.out.2.2.mono HP1.out.2.2.2.2.size)
  have s24 := s23.trans (s34.mono s23.size)
  have s14 := s12.trans (s24.mono s12.size)
  have s04 := s01.trans (s14.mono s01.size)
  have HV0 : Hid (∀ k, k < 5 → FiveAt per ps m w4 (five (.slice a0 m k0) (.slice a1 m k1) (.slice a2 m k2) (.slice none 0 0) (.slice none 0 0) k) (five false false false true true k)) := fun k hk => by
    match k, hk with
    | 0, _ => exact HW0.out.2.1.later s04
    | 1, _ => exact HW1.out.2.1.later s14
    | 2, _ => exact HW2.out.2.1.later s24
    | 3, _ => exact HW3.out.2.1.later s34
    | 4, _ => exact HW4.out.2.1
    | k + 5, h => omega
  clear s34 s23 s12 s01 s24 s14 s04
  go_wp2_with fail
  obtain ⟨V1, hV1⟩ : ∃ V1, w4.alloc (.cells #[.slice a0 m k0, .slice a1 m k1, .slice a2 m k2, .slice none 0 0, .slice none 0 0] 23) = V1 := ⟨_, rfl⟩
  have HV1 : Hid (w4.alloc (.cells #[.slice a0 m k0, .slice a1 m k1, .slice a2 m k2, .slice none 0 0, .slice none 0 0] 23) = V1) := hV1
  have gA : Hid (V1.heap.size = w4.heap.size + 1 ∧ Below w4.heap.size w4 V1) := by
    show _ ∧ _
    rw [← hV1]
    exact ⟨by simp, (Below.refl _ _).alloc (Nat.le_refl _) _⟩
  have HcA : Hid (∀ k, k < 5 → V1.cell? ⟨w4.heap.size, k, none⟩ = some (five (.slice a0 m k0) (.slice a1 m k1) (.slice a2 m k2) (.slice none 0 0) (.slice none 0 0) k)) := fun k hk => by
    rw [← hV1, World.cell?_alloc_at _ _ _ _ rfl]
    match k, hk with
    | 0, _ => rfl
    | 1, _ => rfl
    | 2, _ => rfl
    | 3, _ => rfl
    | 4, _ => rfl
    | k + 5, h => omega
  rw [hV1]
  clear hV1
  go_region
  obtain ⟨V2, hV2⟩ : ∃ V2, (V1.alloc (.cells #[.bool false, .bool false, .bool false, .bool true, .bool true] 4)).drew = V2 := ⟨_, rfl⟩
  have hbV : Below V1.heap.size V1 V2 := by
    rw [← hV2]
    exact below_drewN ((Below.refl _ _).alloc (Nat.le_refl _) _) 1
  have HcB : Hid (∀ k, k < 5 → V2.cell? ⟨V1.heap.size, k, none⟩ = some (.bool (five false false false true true k))) := fun k hk => by
    have hc : (V1.alloc (.cells #[.bool false, .bool false, .bool false, .bool true, .bool true] 4)).cell? ⟨V1.heap.size, k, none⟩ = some (.bool (five false false false true true k)) := by
      rw [World.cell?_alloc_at _ _ _ _ rfl]
      match k, hk with
      | 0, _ => rfl
      | 1, _ => rfl
      | 2, _ => rfl
      | 3, _ => rfl
      | 4, _ => rfl
      | k + 5, h => omega
    rw [← hV2]
    exact hc
  have hb4 : Below w4.heap.size w4 V2 := gA.out.2.trans (hbV.mono gA.out.2.size)
  have HV2 : Hid ((∀ k, k < 5 → FiveAt per ps m V2 (five (.slice a0 m k0) (.slice a1 m k1) (.slice a2 m k2) (.slice none 0 0) (.slice none 0 0) k) (five false false false true true k)) ∧ (∀ k, k < 5 → V2.cell? ⟨w4.heap.size, k, none⟩ = some (five (.slice a0 m k0) (.slice a1 m k1) (.slice a2 m k2) (.slice none 0 0) (.slice none 0 0) k)) ∧ Below w.heap.size w V2) := ⟨fun k hk => (HV0.out k hk).later hb4, fun k hk => cell_later hbV (HcA.out k hk), HW4.out.1.trans (hb4.mono HW4.out.1.size)⟩
  rw [hV2]
  clear hV2 hbV hb4
  go_wp2_with fail
  go_loopg [20] 5 (fun gk iv wr => ∃ k : Nat, gk = 5 - k ∧ k ≤ 5 ∧ iv = .int .i64 (k : Int) ∧ Below V2.heap.size V2 wr)
  case atStart => exact ⟨0, rfl, by omega, rfl, Below.refl _ _⟩
  case round =>
    obtain ⟨k, rfl, hk', rfl, hbw⟩ := hrel
    have HBw : Hid (Below V2.heap.size V2 wr ∧ Below w.heap.size w wr) := ⟨hbw, HV2.out.2.2.trans (hbw.mono HV2.out.2.2.size)⟩
    clear hbw
    by_cases hk : k < 5
    · have hki : (k : Int) < 5 := by omega
      have cB := cell_later HBw.out.1 (HcB.out k hk)
      have cA := cell_later HBw.out.1 (HV2.out.2.1 k hk)
      have hF := (HV2.out.1 k hk).later HBw.out.1
      obtain ⟨bd, hbd⟩ : ∃ bd, five false false false true true k = bd := ⟨_, rfl⟩
      obtain ⟨vv, hvv⟩ : ∃ vv : Value, five (.slice a0 m k0) (.slice a1 m k1) (.slice a2 m k2) (.slice none 0 0) (.slice none 0 0) k = vv := ⟨_, rfl⟩
      rw [hbd] at cB hF
      rw [hvv] at cA hF
      clear hbd hvv
      cases bd with
      | true =>
        have hv := hF.bad_ rfl
        subst hv
        clear hF
        go_wp2_with fail
        go_roundg (5 - (k + 1))
        case measure => omega
        case rel => exact ⟨k + 1, rfl, by omega, by go_num, HBw.out.1⟩
      | false =>
        obtain ⟨sa, sk, l, hvv, hl, hlen, hnil, htm, hau⟩ := hF.fine rfl
        subst hvv
        have HL : Hid (LiesS wr sa l ∧ l.length = m ∧ (sa = none → l = [] ∧ sk = 0) ∧ tameAll l ∧ AuditAll per ps l 0 (-1)) := ⟨hl, hlen, hnil, htm, hau⟩
        have HOwnS : Hid (∀ W, Below wr.heap.size wr W → Calls Tryd.prog 11 #[.slice sa m sk] W fun e w'' => ∃ a' cap', e = .returned (.slice a' m cap') ∧ LiesS w'' a' l ∧ Below W.heap.size W w'' ∧ Below wr.heap.size wr w'') := fun W hb => by
          have := ownSent_from sa sk l wr W hb hl (by omega) hnil
          rwa [hlen] at this
        have HOwnP : Hid (∀ W, Below wr.heap.size wr W → Calls Tryd.prog 10 #[.slice pa m pcap] W fun e w'' => ∃ a' cap', e = .returned (.slice a' m cap') ∧ LiesP w'' a' ps ∧ m ≤ cap' ∧ cap' ≤ maxLen ∧ Below W.heap.size W w'' ∧ Below wr.heap.size wr w'') := fun W hb => (HOwn.out W (HBw.out.2.trans (hb.mono HBw.out.2.size))).mono fun e w'' ⟨a', c', g1, g2, g3, g4, g5, _⟩ => ⟨a', c', g1, g2, g3, g4, g5, hb.trans (g5.mono hb.size)⟩
        clear hF hl hlen hnil htm hau
        go_wp2_with fail
        go_region_with (first
          | (go_simp; go_at_call 10; go_must (refine (HOwnP.out _ (by first | exact HSb.out.2.1 | exact below_drewN (Below.refl _ _) 1)).mono ?_; rintro e wp ⟨pq, pc, rfl, lp, gp, mp, bp, Bp⟩; have HPb := (show Hid (LiesP wp pq ps ∧ Below wr.heap.size wr wp ∧ (m ≤ pc ∧ pc ≤ maxLen) ∧ Below _ _ wp) from ⟨lp, Bp, ⟨gp, mp⟩, bp⟩); have cAp := cell_later Bp cA; clear lp gp mp bp Bp))
          | (go_simp; go_at_call 11; go_must (refine (HOwnS.out _ (by first | exact HPb.out.2.1 | exact below_drewN (Below.refl _ _) 1)).mono ?_; rintro e ws ⟨sq, sc, rfl, ls, bs, Bs⟩; have HSb := (show Hid (LiesS ws sq l ∧ Below wr.heap.size wr ws ∧ Below _ _ ws) from ⟨ls, Bs, bs⟩); clear ls bs Bs))
          | (go_simp; go_at_call 9; go_must (refine (HChk.out _ pq pc sq sc l (by first | exact HBw.out.2.trans (HSb.out.2.1.mono HBw.out.2.size) | exact HBw.out.2.trans (HPb.out.2.1.mono HBw.out.2.size)) (by first | exact HPb.out.1 | exact HPb.out.1.below HSb.out.2.2) HPb.out.2.2.1.1 HPb.out.2.2.1.2 (by first | exact HSb.out.1 | exact HSb.out.1.below HPb.out.2.2.2) HL.out.2.1 HL.out.2.2.2.1 HL.out.2.2.2.2).mono ?_; rintro e wc ⟨rfl, bc⟩; have HCb : Hid (Below V2.heap.size V2 wc) := (by first | exact HBw.out.1.trans ((HSb.out.2.1.trans (bc.mono HSb.out.2.1.size)).mono HBw.out.1.size) | exact HBw.out.1.trans ((HPb.out.2.1.trans (bc.mono HPb.out.2.1.size)).mono HBw.out.1.size)); clear bc))
          | fail)
        all_goals (go_wp2_with fail)
        all_goals (go_roundg (5 - (k + 1)))
        all_goals first
          | (show _ < _; omega)
          | exact ⟨k + 1, rfl, by omega, by go_num, HCb.out⟩
    · go_wp2_with fail
      go_ret
      exact ⟨rfl, HBw.out.2⟩
set_option maxRecDepth 100000 in
set_option maxHeartbeats 4000000 in
theorem arLaw_10110 (pa : Option Addr) (m pcap : Nat) (ps : List Pk) (per : Int) (na : Option Addr) (r ncap : Nat) (w : World) (hm : m ≤ 80 ∨ m = 301) (hmm : m ≤ maxLen) (hr : r ≤ 30)
    (hAud : ∀ w', Below w.heap.size w w' → Calls Tryd.prog 5 #[] w' fun e w'' => e = .returned (.bool true) ∧ Below w'.heap.size w' w'')
    (hOwn : ∀ w', Below w.heap.size w w' → Calls Tryd.prog 10 #[.slice pa m pcap] w' fun e w'' => ∃ a' cap', e = .returned (.slice a' m cap') ∧ LiesP w'' a' ps ∧ m ≤ cap' ∧ cap' ≤ maxLen ∧ Below w'.heap.size w' w'' ∧ Below w.heap.size w w'')
    (hChk : ∀ W a3 k3 b3 j3 l, Below w.heap.size w W → LiesP W a3 ps → m ≤ k3 → k3 ≤ maxLen → LiesS W b3 l → l.length = m → tameAll l → AuditAll per ps l 0 (-1) → Calls Tryd.prog 9 #[.slice a3 m k3, .int .i64 per, .slice b3 m j3] W fun e w' => e = .returned .nilIface ∧ Below W.heap.size W w')
    (h0 : ∀ W a3 k3, Below w.heap.size w W → LiesP W a3 ps → m ≤ k3 → k3 ≤ maxLen → Calls Tryd.prog 17 #[.slice a3 m k3, .int .i64 per] W fun e w' => RunFine per ps m W e w') (h1 : ∀ W a3 k3, Below w.heap.size w W → LiesP W a3 ps → m ≤ k3 → k3 ≤ maxLen → Calls Tryd.prog 18 #[.slice a3 m k3, .int .i64 per, .slice na r ncap] W fun e w' => RunFault W e w') (h2 : ∀ W a3 k3, Below w.heap.size w W → LiesP W a3 ps → m ≤ k3 → k3 ≤ maxLen → Calls Tryd.prog 19 #[.slice a3 m k3, .int .i64 per, .slice na r ncap] W fun e w' => RunFine per ps m W e w') (h3 : ∀ W a3 k3, Below w.heap.size w W → LiesP W a3 ps → m ≤ k3 → k3 ≤ maxLen → Calls Tryd.prog 20 #[.slice a3 m k3, .int .i64 per, .slice na r ncap] W fun e w' => RunFine per ps m W e w') (h4 : ∀ W a3 k3, Below w.heap.size w W → LiesP W a3 ps → m ≤ k3 → k3 ≤ maxLen → Calls Tryd.prog 21 #[.slice a3 m k3, .int .i64 per, .slice na r ncap] W fun e w' => RunFault W e w') :
    Calls Tryd.prog 4 #[.slice pa m pcap, .int .i64 per, .slice na r ncap] w fun e w' => e = .returned (.bool true) ∧ Below w.heap.size w w' := by
  have HFit : Hid (∀ w', Calls Tryd.prog 6 #[.slice pa m pcap, .int .i64 80] w' fun e w'' => e = .returned (.bool true) ∧ w'' = w') := fun w' => fitPkts_yes pa m pcap 80 w' hmm (by omega)
  have HA : Hid (∀ w', Below w.heap.size w w' → Calls Tryd.prog 5 #[] w' fun e w'' => e = .returned (.bool true) ∧ Below w'.heap.size w' w'') := hAud
  have HOwn : Hid (∀ w', Below w.heap.size w w' → Calls Tryd.prog 10 #[.slice pa m pcap] w' fun e w'' => ∃ a' cap', e = .returned (.slice a' m cap') ∧ LiesP w'' a' ps ∧ m ≤ cap' ∧ cap' ≤ maxLen ∧ Below w'.heap.size w' w'' ∧ Below w.heap.size w w'') := hOwn
  have HChk : Hid (∀ W a3 k3 b3 j3 l, Below w.heap.size w W → LiesP W a3 ps → m ≤ k3 → k3 ≤ maxLen → LiesS W b3 l → l.length = m → tameAll l → AuditAll per ps l 0 (-1) → Calls Tryd.prog 9 #[.slice a3 m k3, .int .i64 per, .slice b3 m j3] W fun e w' => e = .returned .nilIface ∧ Below W.heap.size W w') := hChk
  have H0 : Hid (∀ W a3 k3, Below w.heap.size w W → LiesP W a3 ps → m ≤ k3 → k3 ≤ maxLen → Calls Tryd.prog 17 #[.slice a3 m k3, .int .i64 per] W fun e w' => RunFine per ps m W e w') := h0
  have H1 : Hid (∀ W a3 k3, Below w.heap.size w W → LiesP W a3 ps → m ≤ k3 → k3 ≤ maxLen → Calls Tryd.prog 18 #[.slice a3 m k3, .int .i64 per, .slice na r ncap] W fun e w' => RunFault W e w') := h1
  have H2 : Hid (∀ W a3 k3, Below w.heap.size w W → LiesP W a3 ps → m ≤ k3 → k3 ≤ maxLen → Calls Tryd.prog 19 #[.slice a3 m k3, .int .i64 per, .slice na r ncap] W fun e w' => RunFine per ps m W e w') := h2
  have H3 : Hid (∀ W a3 k3, Below w.heap.size w W → LiesP W a3 ps → m ≤ k3 → k3 ≤ maxLen → Calls Tryd.prog 20 #[.slice a3 m k3, .int .i64 per, .slice na r ncap] W fun e w' => RunFine per ps m W e w') := h3
  have H4 : Hid (∀ W a3 k3, Below w.heap.size w W → LiesP W a3 ps → m ≤ k3 → k3 ≤ maxLen → Calls Tryd.prog 21 #[.slice a3 m k3, .int .i64 per, .slice na r ncap] W fun e w' => RunFault W e w') := h4
  have hr2 : decide ((30 : Int) < (r : Int)) = false := decide_eq_false (by omega)
  unfold maxLen at hmm
  clear hAud hOwn hChk h0 h1 h2 h3 h4
  go_enter Tryd.func4, Tryd.ntmps4
  go_wp2_with fail
  refine (HA.out _ (Below.refl _ _)).mono ?_
  rintro e u0 ⟨rfl, hb⟩
  have HB0 : Hid (Below w.heap.size w u0) := hb
  clear hb
  go_wp2_with fail
  refine (HFit.out _).mono ?_
  rintro e u0x ⟨rfl, hu0⟩
  rw [hu0]
  clear hu0
  go_wp2_with fail
  refine (HOwn.out _ HB0.out).mono ?_
  rintro e p0 ⟨q0, j0, rfl, l0, g0, m0, b0, B0⟩
  have HP0 : Hid (Below w.heap.size w p0 ∧ LiesP p0 q0 ps ∧ m ≤ j0 ∧ j0 ≤ maxLen ∧ Below u0.heap.size u0 p0) := ⟨B0, l0, g0, m0, b0⟩
  clear l0 g0 m0 b0 B0
  go_wp2_with fail
  refine (H0.out p0 q0 j0 HP0.out.1 HP0.out.2.1 HP0.out.2.2.1 HP0.out.2.2.2.1).mono ?_
  rintro e w0 ⟨a0, k0, s0, rfl, hf0, c0⟩
  have HW0 : Hid (Below w.heap.size w w0 ∧ FiveAt per ps m w0 (.slice a0 m k0) false ∧ Below p0.heap.size p0 w0) := ⟨HP0.out.1.trans (c0.mono HP0.out.1.size), fiveAt_fine hf0, c0⟩
  clear hf0 c0
  go_wp2_with fail
  refine (HOwn.out _ HW0.out.1).mono ?_
  rintro e p1 ⟨q1, j1, rfl, l1, g1, m1, b1, B1⟩
  have HP1 : Hid (Below w.heap.size w p1 ∧ LiesP p1 q1 ps ∧ m ≤ j1 ∧ j1 ≤ maxLen ∧ Below w0.heap.size w0 p1) := ⟨B1, l1, g1, m1, b1⟩
  clear l1 g1 m1 b1 B1
  go_wp2_with fail
  refine (H1.out p1 q1 j1 HP1.out.1 HP1.out.2.1 HP1.out.2.2.1 HP1.out.2.2.2.1).mono ?_
  rintro e w1 ⟨ty1, v1, rfl, c1⟩
  have HW1 : Hid (Below w.heap.size w w1 ∧ FiveAt per ps m w1 (.slice none 0 0) true ∧ Below p1.heap.size p1 w1) := ⟨HP1.out.1.trans (c1.mono HP1.out.1.size), fiveAt_bad _ _ _ _, c1⟩
  clear c1
  go_wp2_with fail
  refine (HOwn.out _ HW1.out.1).mono ?_
  rintro e p2 ⟨q2, j2, rfl, l2, g2, m2, b2, B2⟩
  have HP2 : Hid (Below w.heap.size w p2 ∧ LiesP p2 q2 ps ∧ m ≤ j2 ∧ j2 ≤ maxLen ∧ Below w1.heap.size w1 p2) := ⟨B2, l2, g2, m2, b2⟩
  clear l2 g2 m2 b2 B2
  go_wp2_with fail
  refine (H2.out p2 q2 j2 HP2.out.1 HP2.out.2.1 HP2.out.2.2.1 HP2.out.2.2.2.1).mono ?_
  rintro e w2 ⟨a2, k2, s2, rfl, hf2, c2⟩
  have HW2 : Hid (Below w.heap.size w w2 ∧ FiveAt per ps m w2 (.slice a2 m k2) false ∧ Below p2.heap.size p2 w2) := ⟨HP2.out.1.trans (c2.mono HP2.out.1.size), fiveAt_fine hf2, c2⟩
  clear hf2 c2
  go_wp2_with fail
  refine (HOwn.out _ HW2.out.1).mono ?_
  rintro e p3 ⟨q3, j3, rfl, l3, g3, m3, b3, B3⟩
  have HP3 : Hid (Below w.heap.size w p3 ∧ LiesP p3 q3 ps ∧ m ≤ j3 ∧ j3 ≤ maxLen ∧ Below w2.heap.size w2 p3) := ⟨B3, l3, g3, m3, b3⟩
  clear l3 g3 m3 b3 B3
  go_wp2_with fail
  refine (H3.out p3 q3 j3 HP3.out.1 HP3.out.2.1 HP3.out.2.2.1 HP3.out.2.2.2.1).mono ?_
  rintro e w3 ⟨a3, k3, s3, rfl, hf3, c3⟩
  have HW3 : Hid (Below w.heap.size w w3 ∧ FiveAt per ps m w3 (.slice a3 m k3) false ∧ Below p3.heap.size p3 w3) := ⟨HP3.out.1.trans (c3.mono HP3.out.1.size), fiveAt_fine hf3, c3⟩
  clear hf3 c3
  go_wp2_with fail
  refine (HOwn.out _ HW3.out.1).mono ?_
  rintro e p4 ⟨q4, j4, rfl, l4, g4, m4, b4, B4⟩
  have HP4 : Hid (Below w.heap.size w p4 ∧ LiesP p4 q4 ps ∧ m ≤ j4 ∧ j4 ≤ maxLen ∧ Below w3.heap.size w3 p4) := ⟨B4, l4, g4, m4, b4⟩
  clear l4 g4 m4 b4 B4
  go_wp2_with fail
  refine (H4.out p4 q4 j4 HP4.out.1 HP4.out.2.1 HP4.out.2.2.1 HP4.out.2.2.2.1).mono ?_
  rintro e w4 ⟨ty4, v4, rfl, c4⟩
  have HW4 : Hid (Below w.heap.size w w4 ∧ FiveAt per ps m w4 (.slice none 0 0) true ∧ Below p4.heap.size p4 w4) := ⟨HP4.out.1.trans (c4.mono HP4.out.1.size), fiveAt_bad _ _ _ _, c4⟩
  clear c4
  have s34 : Below w3.heap.size w3 w4 := HP4.out.2.2.2.2.trans (HW4.out.2.2.mono HP4.out.2.2.2.2.size)
  have s23 : Below w2.heap.size w2 w3 := HP3.out.2.2.2.2.trans (HW3.out.2.2.mono HP3.out.2.2.2.2.size)
  have s12 : Below w1.heap.size w1 w2 := HP2.out.2.2.2.2.trans (HW2.out.2.2.mono HP2.out.2.2.2.2.size)
  have s01 : Below w0.heap.size w0 w1 := HP1.out.2.2.2.2.trans (HW1.out.2.2.mono HP1.out.2.2.2.2.size)
  have s24 := s23.trans (s34.mono s23.size)
  have s14 := s12.trans (s24.mono s12.size)
  have s04 := s01.trans (s14.mono s01.size)
  have HV0 : Hid (∀ k, k < 5 → FiveAt per ps m w4 (five (.slice a0 m k0) (.slice none 0 0) (.slice a2 m k2) (.slice a3 m k3) (.slice none 0 0) k) (five false true false false true k)) := fun k hk => by
    match k, hk with
    | 0, _ => exact HW0.out.2.1.later s04
    | 1, _ => exact HW1.out.2.1.later s14
    | 2, _ => exact HW2.out.2.1.later s24
    | 3, _ => exact HW3.out.2.1.later s34
    | 4, _ => exact HW4.out.2.1
    | k + 5, h => omega
  clear s34 s23 s12 s01 s24 s14 s04
  go_wp2_with fail
  obtain ⟨V1, hV1⟩ : ∃ V1, w4.alloc (.cells #[.slice a0 m k0, .slice none 0 0, .slice a2 m k2, .slice a3 m k3, .slice none 0 0] 23) = V1 := ⟨_, rfl⟩
  have HV1 : Hid (w4.alloc (.cells #[.slice a0 m k0, .slice none 0 0, .slice a2 m k2, .slice a3 m k3, .slice none 0 0] 23) = V1) := hV1
  have gA : Hid (V1.heap.size = w4.heap.size + 1 ∧ Below w4.heap.size w4 V1) := by
    show _ ∧ _
    rw [← hV1]
    exact ⟨by simp, (Below.refl _ _).alloc (Nat.le_refl _) _⟩
  have HcA : Hid (∀ k, k < 5 → V1.cell? ⟨w4.heap.size, k, none⟩ = some (five (.slice a0 m k0) (.slice none 0 0) (.slice a2 m k2) (.slice a3 m k3) (.slice none 0 0) k)) := fun k hk => by
    rw [← hV1, World.cell?_alloc_at _ _ _ _ rfl]
    match k, hk with
    | 0, _ => rfl
    | 1, _ => rfl
    | 2, _ => rfl
    | 3, _ => rfl
    | 4, _ => rfl
    | k + 5, h => omega
  rw [hV1]
  clear hV1
  go_region
  obtain ⟨V2, hV2⟩ : ∃ V2, (V1.alloc (.cells #[.bool false, .bool true, .bool false, .bool false, .bool true] 4)).drew = V2 := ⟨_, rfl⟩
  have hbV : Below V1.heap.size V1 V2 := by
    rw [← hV2]
    exact below_drewN ((Below.refl _ _).alloc (Nat.le_refl _) _) 1
  have HcB : Hid (∀ k, k < 5 → V2.cell? ⟨V1.heap.size, k, none⟩ = some (.bool (five false true false false true k))) := fun k hk => by
    have hc : (V1.alloc (.cells #[.bool false, .bool true, .bool false, .bool false, .bool true] 4)).cell? ⟨V1.heap.size, k, none⟩ = some (.bool (five false true false false true k)) := by
      rw [World.cell?_alloc_at _ _ _ _ rfl]
      match k, hk with
      | 0, _ => rfl
      | 1, _ => rfl
      | 2, _ => rfl
      | 3, _ => rfl
      | 4, _ => rfl
      | k + 5, h => omega
    rw [← hV2]
    exact hc
  have hb4 : Below w4.heap.size w4 V2 := gA.out.2.trans (hbV.mono gA.out.2.size)
  have HV2 : Hid ((∀ k, k < 5 → FiveAt per ps m V2 (five (.slice a0 m k0) (.slice none 0 0) (.slice a2 m k2) (.slice a3 m k3) (.slice none 0 0) k) (five false true false false true k)) ∧ (∀ k, k < 5 → V2.cell? ⟨w4.heap.size, k, none⟩ = some (five (.slice a0 m k0) (.slice none 0 0) (.slice a2 m k2) (.slice a3 m k3) (.slice none 0 0) k)) ∧ Below w.heap.size w V2) := ⟨fun k hk => (HV0.out k hk).later hb4, fun k hk => cell_later hbV (HcA.out k hk), HW4.out.1.trans (hb4.mono HW4.out.1.size)⟩
  rw [hV2]
  clear hV2 hbV hb4
  go_wp2_with fail
  go_loopg [20] 5 (fun gk iv wr => ∃ k : Nat, gk = 5 - k ∧ k ≤ 5 ∧ iv = .int .i64 (k : Int) ∧ Below V2.heap.size V2 wr)
  case atStart => exact ⟨0, rfl, by omega, rfl, Below.refl _ _⟩
  case round =>
    obtain ⟨k, rfl, hk', rfl, hbw⟩ := hrel
    have HBw : Hid (Below V2.heap.size V2 wr ∧ Below w.heap.size w wr) := ⟨hbw, HV2.out.2.2.trans (hbw.mono HV2.out.2.2.size)⟩
    clear hbw
    by_cases hk : k < 5
    · have hki : (k : Int) < 5 := by omega
      have cB := cell_later HBw.out.1 (HcB.out k hk)
      have cA := cell_later HBw.out.1 (HV2.out.2.1 k hk)
      have hF := (HV2.out.1 k hk).later HBw.out.1
      obtain ⟨bd, hbd⟩ : ∃ bd, five false true false false true k = bd := ⟨_, rfl⟩
      obtain ⟨vv, hvv⟩ : ∃ vv : Value, five (.slice a0 m k0) (.slice none 0 0) (.slice a2 m k2) (.slice a3 m k3) (.slice none 0 0) k = vv := ⟨_, rfl⟩
      rw [hbd] at cB hF
      rw [hvv] at cA hF
      clear hbd hvv
      cases bd with
      | true =>
        have hv := hF.bad_ rfl
        subst hv
        clear hF
        go_wp2_with fail
        go_roundg (5 - (k + 1))
        case measure => omega
        case rel => exact ⟨k + 1, rfl, by omega, by go_num, HBw.out.1⟩
      | false =>
        obtain ⟨sa, sk, l, hvv, hl, hlen, hnil, htm, hau⟩ := hF.fine rfl
        subst hvv
        have HL : Hid (LiesS wr sa l ∧ l.length = m ∧ (sa = none → l = [] ∧ sk = 0) ∧ tameAll l ∧ AuditAll per ps l 0 (-1)) := ⟨hl, hlen, hnil, htm, hau⟩
        have HOwnS : Hid (∀ W, Below wr.heap.size wr W → Calls Tryd.prog 11 #[.slice sa m sk] W fun e w'' => ∃ a' cap', e = .returned (.slice a' m cap') ∧ LiesS w'' a' l ∧ Below W.heap.size W w'' ∧ Below wr.heap.size wr w'') := fun W hb => by
          have := ownSent_from sa sk l wr W hb hl (by omega) hnil
          rwa [hlen] at this
        have HOwnP : Hid (∀ W, Below wr.heap.size wr W → Calls Tryd.prog 10 #[.slice pa m pcap] W fun e w'' => ∃ a' cap', e = .returned (.slice a' m cap') ∧ LiesP w'' a' ps ∧ m ≤ cap' ∧ cap' ≤ maxLen ∧ Below W.heap.size W w'' ∧ Below wr.heap.size wr w'') := fun W hb => (HOwn.out W (HBw.out.2.trans (hb.mono HBw.out.2.size))).mono fun e w'' ⟨a', c', g1, g2, g3, g4, g5, _⟩ => ⟨a', c', g1, g2, g3, g4, g5, hb.trans (g5.mono hb.size)⟩
        clear hF hl hlen hnil htm hau
        go_wp2_with fail
        go_region_with (first
          | (go_simp; go_at_call 10; go_must (refine (HOwnP.out _ (by first | exact HSb.out.2.1 | exact below_drewN (Below.refl _ _) 1)).mono ?_; rintro e wp ⟨pq, pc, rfl, lp, gp, mp, bp, Bp⟩; have HPb := (show Hid (LiesP wp pq ps ∧ Below wr.heap.size wr wp ∧ (m ≤ pc ∧ pc ≤ maxLen) ∧ Below _ _ wp) from ⟨lp, Bp, ⟨gp, mp⟩, bp⟩); have cAp := cell_later Bp cA; clear lp gp mp bp Bp))
          | (go_simp; go_at_call 11; go_must (refine (HOwnS.out _ (by first | exact HPb.out.2.1 | exact below_drewN (Below.refl _ _) 1)).mono ?_; rintro e ws ⟨sq, sc, rfl, ls, bs, Bs⟩; have HSb := (show Hid (LiesS ws sq l ∧ Below wr.heap.size wr ws ∧ Below _ _ ws) from ⟨ls, Bs, bs⟩); clear ls bs Bs))
          | (go_simp; go_at_call 9; go_must (refine (HChk.out _ pq pc sq sc l (by first | exact HBw.out.2.trans (HSb.out.2.1.mono HBw.out.2.size) | exact HBw.out.2.trans (HPb.out.2.1.mono HBw.out.2.size)) (by first | exact HPb.out.1 | exact HPb.out.1.below HSb.out.2.2) HPb.out.2.2.1.1 HPb.out.2.2.1.2 (by first | exact HSb.out.1 | exact HSb.out.1.below HPb.out.2.2.2) HL.out.2.1 HL.out.2.2.2.1 HL.out.2.2.2.2).mono ?_; rintro e wc ⟨rfl, bc⟩; have HCb : Hid (Below V2.heap.size V2 wc) := (by first | exact HBw.out.1.trans ((HSb.out.2.1.trans (bc.mono HSb.out.2.1.size)).mono HBw.out.1.size) | exact HBw.out.1.trans ((HPb.out.2.1.trans (bc.mono HPb.out.2.1.size)).mono HBw.out.1.size)); clear bc))
          | fail)
        all_goals (go_wp2_with fail)
        all_goals (go_roundg (5 - (k + 1)))
        all_goals first
          | (show _ < _; omega)
          | exact ⟨k + 1, rfl, by omega, by go_num, HCb.out⟩
    · go_wp2_with fail
      go_ret
      exact ⟨rfl, HBw.out.2⟩
end Go.Proofs.YtolbmkniafkeaaaDoor

/- AuditRuns: its other ways. -/
namespace Go.Proofs.YtolbmkniafkeaaaDoor
open Go.RowKit

set_option maxRecDepth 100000 in
set_option maxHeartbeats 4000000 in
theorem arLaw_11110 (pa : Option Addr) (m pcap : Nat) (ps : List Pk) (per : Int) (na : Option Addr) (r ncap : Nat) (w : World) (hm : m ≤ 80 ∨ m = 301) (hmm : m ≤ maxLen) (hr : r ≤ 30)
    (hAud : ∀ w', Below w.heap.size w w' → Calls Tryd.prog 5 #[] w' fun e w'' => e = .returned (.bool true) ∧ Below w'.heap.size w' w'')
    (hOwn : ∀ w', Below w.heap.size w w' → Calls Tryd.prog 10 #[.slice pa m pcap] w' fun e w'' => ∃ a' cap', e = .returned (.slice a' m cap') ∧ LiesP w'' a' ps ∧ m ≤ cap' ∧ cap' ≤ maxLen ∧ Below w'.heap.size w' w'' ∧ Below w.heap.size w w'')
    (hChk : ∀ W a3 k3 b3 j3 l, Below w.heap.size w W → LiesP W a3 ps → m ≤ k3 → k3 ≤ maxLen → LiesS W b3 l → l.length = m → tameAll l → AuditAll per ps l 0 (-1) → Calls Tryd.prog 9 #[.slice a3 m k3, .int .i64 per, .slice b3 m j3] W fun e w' => e = .returned .nilIface ∧ Below W.heap.size W w')
    (h0 : ∀ W a3 k3, Below w.heap.size w W → LiesP W a3 ps → m ≤ k3 → k3 ≤ maxLen → Calls Tryd.prog 17 #[.slice a3 m k3, .int .i64 per] W fun e w' => RunFine per ps m W e w') (h1 : ∀ W a3 k3, Below w.heap.size w W → LiesP W a3 ps → m ≤ k3 → k3 ≤ maxLen → Calls Tryd.prog 18 #[.slice a3 m k3, .int .i64 per, .slice na r ncap] W fun e w' => RunFine per ps m W e w') (h2 : ∀ W a3 k3, Below w.heap.size w W → LiesP W a3 ps → m ≤ k3 → k3 ≤ maxLen → Calls Tryd.prog 19 #[.slice a3 m k3, .int .i64 per, .slice na r ncap] W fun e w' => RunFine per ps m W e w') (h3 : ∀ W a3 k3, Below w.heap.size w W → LiesP W a3 ps → m ≤ k3 → k3 ≤ maxLen → Calls Tryd.prog 20 #[.slice a3 m k3, .int .i64 per, .slice na r ncap] W fun e w' => RunFine per ps m W e w') (h4 : ∀ W a3 k3, Below w.heap.size w W → LiesP W a3 ps → m ≤ k3 → k3 ≤ maxLen → Calls Tryd.prog 21 #[.slice a3 m k3, .int .i64 per, .slice na r ncap] W fun e w' => RunFault W e w') :
    Calls Tryd.prog 4 #[.slice pa m pcap, .int .i64 per, .slice na r ncap] w fun e w' => e = .returned (.bool true) ∧ Below w.heap.size w w' := by
  have HFit : Hid (∀ w', Calls Tryd.prog 6 #[.slice pa m pcap, .int .i64 80] w' fun e w'' => e = .returned (.bool true) ∧ w'' = w') := fun w' => fitPkts_yes pa m pcap 80 w' hmm (by omega)
  have HA : Hid (∀ w', Below w.heap.size w w' → Calls Tryd.prog 5 #[] w' fun e w'' => e = .returned (.bool true) ∧ Below w'.heap.size w' w'') := hAud
  have HOwn : Hid (∀ w', Below w.heap.size w w' → Calls Tryd.prog 10 #[.slice pa m pcap] w' fun e w'' => ∃ a' cap', e = .returned (.slice a' m cap') ∧ LiesP w'' a' ps ∧ m ≤ cap' ∧ cap' ≤ maxLen ∧ Below w'.heap.size w' w'' ∧ Below w.heap.size w w'') := hOwn
  have HChk : Hid (∀ W a3 k3 b3 j3 l, Below w.heap.size w W → LiesP W a3 ps → m ≤ k3 → k3 ≤ maxLen → LiesS W b3 l → l.length = m → tameAll l → AuditAll per ps l 0 (-1) → Calls Tryd.prog 9 #[.slice a3 m k3, .int .i64 per, .slice b3 m j3] W fun e w' => e = .returned .nilIface ∧ Below W.heap.size W w') := hChk
  have H0 : Hid (∀ W a3 k3, Below w.heap.size w W → LiesP W a3 ps → m ≤ k3 → k3 ≤ maxLen → Calls Tryd.prog 17 #[.slice a3 m k3, .int .i64 per] W fun e w' => RunFine per ps m W e w') := h0
  have H1 : Hid (∀ W a3 k3, Below w.heap.size w W → LiesP W a3 ps → m ≤ k3 → k3 ≤ maxLen → Calls Tryd.prog 18 #[.slice a3 m k3, .int .i64 per, .slice na r ncap] W fun e w' => RunFine per ps m W e w') := h1
  have H2 : Hid (∀ W a3 k3, Below w.heap.size w W → LiesP W a3 ps → m ≤ k3 → k3 ≤ maxLen → Calls Tryd.prog 19 #[.slice a3 m k3, .int .i64 per, .slice na r ncap] W fun e w' => RunFine per ps m W e w') := h2
  have H3 : Hid (∀ W a3 k3, Below w.heap.size w W → LiesP W a3 ps → m ≤ k3 → k3 ≤ maxLen → Calls Tryd.prog 20 #[.slice a3 m k3, .int .i64 per, .slice na r ncap] W fun e w' => RunFine per ps m W e w') := h3
  have H4 : Hid (∀ W a3 k3, Below w.heap.size w W → LiesP W a3 ps → m ≤ k3 → k3 ≤ maxLen → Calls Tryd.prog 21 #[.slice a3 m k3, .int .i64 per, .slice na r ncap] W fun e w' => RunFault W e w') := h4
  have hr2 : decide ((30 : Int) < (r : Int)) = false := decide_eq_false (by omega)
  unfold maxLen at hmm
  clear hAud hOwn hChk h0 h1 h2 h3 h4
  go_enter Tryd.func4, Tryd.ntmps4
  go_wp2_with fail
  refine (HA.out _ (Below.refl _ _)).mono ?_
  rintro e u0 ⟨rfl, hb⟩
  have HB0 : Hid (Below w.heap.size w u0) := hb
  clear hb
  go_wp2_with fail
  refine (HFit.out _).mono ?_
  rintro e u0x ⟨rfl, hu0⟩
  rw [hu0]
  clear hu0
  go_wp2_with fail
  refine (HOwn.out _ HB0.out).mono ?_
  rintro e p0 ⟨q0, j0, rfl, l0, g0, m0, b0, B0⟩
  have HP0 : Hid (Below w.heap.size w p0 ∧ LiesP p0 q0 ps ∧ m ≤ j0 ∧ j0 ≤ maxLen ∧ Below u0.heap.size u0 p0) := ⟨B0, l0, g0, m0, b0⟩
  clear l0 g0 m0 b0 B0
  go_wp2_with fail
  refine (H0.out p0 q0 j0 HP0.out.1 HP0.out.2.1 HP0.out.2.2.1 HP0.out.2.2.2.1).mono ?_
  rintro e w0 ⟨a0, k0, s0, rfl, hf0, c0⟩
  have HW0 : Hid (Below w.heap.size w w0 ∧ FiveAt per ps m w0 (.slice a0 m k0) false ∧ Below p0.heap.size p0 w0) := ⟨HP0.out.1.trans (c0.mono HP0.out.1.size), fiveAt_fine hf0, c0⟩
  clear hf0 c0
  go_wp2_with fail
  refine (HOwn.out _ HW0.out.1).mono ?_
  rintro e p1 ⟨q1, j1, rfl, l1, g1, m1, b1, B1⟩
  have HP1 : Hid (Below w.heap.size w p1 ∧ LiesP p1 q1 ps ∧ m ≤ j1 ∧ j1 ≤ maxLen ∧ Below w0.heap.size w0 p1) := ⟨B1, l1, g1, m1, b1⟩
  clear l1 g1 m1 b1 B1
  go_wp2_with fail
  refine (H1.out p1 q1 j1 HP1.out.1 HP1.out.2.1 HP1.out.2.2.1 HP1.out.2.2.2.1).mono ?_
  rintro e w1 ⟨a1, k1, s1, rfl, hf1, c1⟩
  have HW1 : Hid (Below w.heap.size w w1 ∧ FiveAt per ps m w1 (.slice a1 m k1) false ∧ Below p1.heap.size p1 w1) := ⟨HP1.out.1.trans (c1.mono HP1.out.1.size), fiveAt_fine hf1, c1⟩
  clear hf1 c1
  go_wp2_with fail
  refine (HOwn.out _ HW1.out.1).mono ?_
  rintro e p2 ⟨q2, j2, rfl, l2, g2, m2, b2, B2⟩
  have HP2 : Hid (Below w.heap.size w p2 ∧ LiesP p2 q2 ps ∧ m ≤ j2 ∧ j2 ≤ maxLen ∧ Below w1.heap.size w1 p2) := ⟨B2, l2, g2, m2, b2⟩
  clear l2 g2 m2 b2 B2
  go_wp2_with fail
  refine (H2.out p2 q2 j2 HP2.out.1 HP2.out.2.1 HP2.out.2.2.1 HP2.out.2.2.2.1).mono ?_
  rintro e w2 ⟨a2, k2, s2, rfl, hf2, c2⟩
  have HW2 : Hid (Below w.heap.size w w2 ∧ FiveAt per ps m w2 (.slice a2 m k2) false ∧ Below p2.heap.size p2 w2) := ⟨HP2.out.1.trans (c2.mono HP2.out.1.size), fiveAt_fine hf2, c2⟩
  clear hf2 c2
  go_wp2_with fail
  refine (HOwn.out _ HW2.out.1).mono ?_
  rintro e p3 ⟨q3, j3, rfl, l3, g3, m3, b3, B3⟩
  have HP3 : Hid (Below w.heap.size w p3 ∧ LiesP p3 q3 ps ∧ m ≤ j3 ∧ j3 ≤ maxLen ∧ Below w2.heap.size w2 p3) := ⟨B3, l3, g3, m3, b3⟩
  clear l3 g3 m3 b3 B3
  go_wp2_with fail
  refine (H3.out p3 q3 j3 HP3.out.1 HP3.out.2.1 HP3.out.2.2.1 HP3.out.2.2.2.1).mono ?_
  rintro e w3 ⟨a3, k3, s3, rfl, hf3, c3⟩
  have HW3 : Hid (Below w.heap.size w w3 ∧ FiveAt per ps m w3 (.slice a3 m k3) false ∧ Below p3.heap.size p3 w3) := ⟨HP3.out.1.trans (c3.mono HP3.out.1.size), fiveAt_fine hf3, c3⟩
  clear hf3 c3
  go_wp2_with fail
  refine (HOwn.out _ HW3.out.1).mono ?_
  rintro e p4 ⟨q4, j4, rfl, l4, g4, m4, b4, B4⟩
  have HP4 : Hid (Below w.heap.size w p4 ∧ LiesP p4 q4 ps ∧ m ≤ j4 ∧ j4 ≤ maxLen ∧ Below w3.heap.size w3 p4) := ⟨B4, l4, g4, m4, b4⟩
  clear l4 g4 m4 b4 B4
  go_wp2_with fail
  refine (H4.out p4 q4 j4 HP4.out.1 HP4.out.2.1 HP4.out.2.2.1 HP4.out.2.2.2.1).mono ?_
  rintro e w4 ⟨ty4, v4, rfl, c4⟩
  have HW4 : Hid (Below w.heap.size w w4 ∧ FiveAt per ps m w4 (.slice none 0 0) true ∧ Below p4.heap.size p4 w4) := ⟨HP4.out.1.trans (c4.mono HP4.out.1.size), fiveAt_bad _ _ _ _, c4⟩
  clear c4
  have s34 : Below w3.heap.size w3 w4 := HP4.out.2.2.2.2.trans (HW4.out.2.2.mono HP4.out.2.2.2.2.size)
  have s23 : Below w2.heap.size w2 w3 := HP3.out.2.2.2.2.trans (HW3.out.2.2.mono HP3.out.2.2.2.2.size)
  have s12 : Below w1.heap.size w1 w2 := HP2.out.2.2.2.2.trans (HW2.out.2.2.mono HP2.out.2.2.2.2.size)
  have s01 : Below w0.heap.size w0 w1 := HP1.out.2.2.2.2.trans (HW1.out.2.2.mono HP1.out.2.2.2.2.size)
  have s24 := s23.trans (s34.mono s23.size)
  have s14 := s12.trans (s24.mono s12.size)
  have s04 := s01.trans (s14.mono s01.size)
  have HV0 : Hid (∀ k, k < 5 → FiveAt per ps m w4 (five (.slice a0 m k0) (.slice a1 m k1) (.slice a2 m k2) (.slice a3 m k3) (.slice none 0 0) k) (five false false false false true k)) := fun k hk => by
    match k, hk with
    | 0, _ => exact HW0.out.2.1.later s04
    | 1, _ => exact HW1.out.2.1.later s14
    | 2, _ => exact HW2.out.2.1.later s24
    | 3, _ => exact HW3.out.2.1.later s34
    | 4, _ => exact HW4.out.2.1
    | k + 5, h => omega
  clear s34 s23 s12 s01 s24 s14 s04
  go_wp2_with fail
  obtain ⟨V1, hV1⟩ : ∃ V1, w4.alloc (.cells #[.slice a0 m k0, .slice a1 m k1, .slice a2 m k2, .slice a3 m k3, .slice none 0 0] 23) = V1 := ⟨_, rfl⟩
  have HV1 : Hid (w4.alloc (.cells #[.slice a0 m k0, .slice a1 m k1, .slice a2 m k2, .slice a3 m k3, .slice none 0 0] 23) = V1) := hV1
  have gA : Hid (V1.heap.size = w4.heap.size + 1 ∧ Below w4.heap.size w4 V1) := by
    show _ ∧ _
    rw [← hV1]
    exact ⟨by simp, (Below.refl _ _).alloc (Nat.le_refl _) _⟩
  have HcA : Hid (∀ k, k < 5 → V1.cell? ⟨w4.heap.size, k, none⟩ = some (five (.slice a0 m k0) (.slice a1 m k1) (.slice a2 m k2) (.slice a3 m k3) (.slice none 0 0) k)) := fun k hk => by
    rw [← hV1, World.cell?_alloc_at _ _ _ _ rfl]
    match k, hk with
    | 0, _ => rfl
    | 1, _ => rfl
    | 2, _ => rfl
    | 3, _ => rfl
    | 4, _ => rfl
    | k + 5, h => omega
  rw [hV1]
  clear hV1
  go_region
  obtain ⟨V2, hV2⟩ : ∃ V2, (V1.alloc (.cells #[.bool false, .bool false, .bool false, .bool false, .bool true] 4)).drew = V2 := ⟨_, rfl⟩
  have hbV : Below V1.heap.size V1 V2 := by
    rw [← hV2]
    exact below_drewN ((Below.refl _ _).alloc (Nat.le_refl _) _) 1
  have HcB : Hid (∀ k, k < 5 → V2.cell? ⟨V1.heap.size, k, none⟩ = some (.bool (five false false false false true k))) := fun k hk => by
    have hc : (V1.alloc (.cells #[.bool false, .bool false, .bool false, .bool false, .bool true] 4)).cell? ⟨V1.heap.size, k, none⟩ = some (.bool (five false false false false true k)) := by
      rw [World.cell?_alloc_at _ _ _ _ rfl]
      match k, hk with
      | 0, _ => rfl
      | 1, _ => rfl
      | 2, _ => rfl
      | 3, _ => rfl
      | 4, _ => rfl
      | k + 5, h => omega
    rw [← hV2]
    exact hc
  have hb4 : Below w4.heap.size w4 V2 := gA.out.2.trans (hbV.mono gA.out.2.size)
  have HV2 : Hid ((∀ k, k < 5 → FiveAt per ps m V2 (five (.slice a0 m k0) (.slice a1 m k1) (.slice a2 m k2) (.slice a3 m k3) (.slice none 0 0) k) (five false false false false true k)) ∧ (∀ k, k < 5 → V2.cell? ⟨w4.heap.size, k, none⟩ = some (five (.slice a0 m k0) (.slice a1 m k1) (.slice a2 m k2) (.slice a3 m k3) (.slice none 0 0) k)) ∧ Below w.heap.size w V2) := ⟨fun k hk => (HV0.out k hk).later hb4, fun k hk => cell_later hbV (HcA.out k hk), HW4.out.1.trans (hb4.mono HW4.out.1.size)⟩
  rw [hV2]
  clear hV2 hbV hb4
  go_wp2_with fail
  go_loopg [20] 5 (fun gk iv wr => ∃ k : Nat, gk = 5 - k ∧ k ≤ 5 ∧ iv = .int .i64 (k : Int) ∧ Below V2.heap.size V2 wr)
  case atStart => exact ⟨0, rfl, by omega, rfl, Below.refl _ _⟩
  case round =>
    obtain ⟨k, rfl, hk', rfl, hbw⟩ := hrel
    have HBw : Hid (Below V2.heap.size V2 wr ∧ Below w.heap.size w wr) := ⟨hbw, HV2.out.2.2.trans (hbw.mono HV2.out.2.2.size)⟩
    clear hbw
    by_cases hk : k < 5
    · have hki : (k : Int) < 5 := by omega
      have cB := cell_later HBw.out.1 (HcB.out k hk)
      have cA := cell_later HBw.out.1 (HV2.out.2.1 k hk)
      have hF := (HV2.out.1 k hk).later HBw.out.1
      obtain ⟨bd, hbd⟩ : ∃ bd, five false false false false true k = bd := ⟨_, rfl⟩
      obtain ⟨vv, hvv⟩ : ∃ vv : Value, five (.slice a0 m k0) (.slice a1 m k1) (.slice a2 m k2) (.slice a3 m k3) (.slice none 0 0) k = vv := ⟨_, rfl⟩
      rw [hbd] at cB hF
      rw [hvv] at cA hF
      clear hbd hvv
      cases bd with
      | true =>
        have hv := hF.bad_ rfl
        subst hv
        clear hF
        go_wp2_with fail
        go_roundg (5 - (k + 1))
        case measure => omega
        case rel => exact ⟨k + 1, rfl, by omega, by go_num, HBw.out.1⟩
      | false =>
        obtain ⟨sa, sk, l, hvv, hl, hlen, hnil, htm, hau⟩ := hF.fine rfl
        subst hvv
        have HL : Hid (LiesS wr sa l ∧ l.length = m ∧ (sa = none → l = [] ∧ sk = 0) ∧ tameAll l ∧ AuditAll per ps l 0 (-1)) := ⟨hl, hlen, hnil, htm, hau⟩
        have HOwnS : Hid (∀ W, Below wr.heap.size wr W → Calls Tryd.prog 11 #[.slice sa m sk] W fun e w'' => ∃ a' cap', e = .returned (.slice a' m cap') ∧ LiesS w'' a' l ∧ Below W.heap.size W w'' ∧ Below wr.heap.size wr w'') := fun W hb => by
          have := ownSent_from sa sk l wr W hb hl (by omega) hnil
          rwa [hlen] at this
        have HOwnP : Hid (∀ W, Below wr.heap.size wr W → Calls Tryd.prog 10 #[.slice pa m pcap] W fun e w'' => ∃ a' cap', e = .returned (.slice a' m cap') ∧ LiesP w'' a' ps ∧ m ≤ cap' ∧ cap' ≤ maxLen ∧ Below W.heap.size W w'' ∧ Below wr.heap.size wr w'') := fun W hb => (HOwn.out W (HBw.out.2.trans (hb.mono HBw.out.2.size))).mono fun e w'' ⟨a', c', g1, g2, g3, g4, g5, _⟩ => ⟨a', c', g1, g2, g3, g4, g5, hb.trans (g5.mono hb.size)⟩
        clear hF hl hlen hnil htm hau
        go_wp2_with fail
        go_region_with (first
          | (go_simp; go_at_call 10; go_must (refine (HOwnP.out _ (by first | exact HSb.out.2.1 | exact below_drewN (Below.refl _ _) 1)).mono ?_; rintro e wp ⟨pq, pc, rfl, lp, gp, mp, bp, Bp⟩; have HPb := (show Hid (LiesP wp pq ps ∧ Below wr.heap.size wr wp ∧ (m ≤ pc ∧ pc ≤ maxLen) ∧ Below _ _ wp) from ⟨lp, Bp, ⟨gp, mp⟩, bp⟩); have cAp := cell_later Bp cA; clear lp gp mp bp Bp))
          | (go_simp; go_at_call 11; go_must (refine (HOwnS.out _ (by first | exact HPb.out.2.1 | exact below_drewN (Below.refl _ _) 1)).mono ?_; rintro e ws ⟨sq, sc, rfl, ls, bs, Bs⟩; have HSb := (show Hid (LiesS ws sq l ∧ Below wr.heap.size wr ws ∧ Below _ _ ws) from ⟨ls, Bs, bs⟩); clear ls bs Bs))
          | (go_simp; go_at_call 9; go_must (refine (HChk.out _ pq pc sq sc l (by first | exact HBw.out.2.trans (HSb.out.2.1.mono HBw.out.2.size) | exact HBw.out.2.trans (HPb.out.2.1.mono HBw.out.2.size)) (by first | exact HPb.out.1 | exact HPb.out.1.below HSb.out.2.2) HPb.out.2.2.1.1 HPb.out.2.2.1.2 (by first | exact HSb.out.1 | exact HSb.out.1.below HPb.out.2.2.2) HL.out.2.1 HL.out.2.2.2.1 HL.out.2.2.2.2).mono ?_; rintro e wc ⟨rfl, bc⟩; have HCb : Hid (Below V2.heap.size V2 wc) := (by first | exact HBw.out.1.trans ((HSb.out.2.1.trans (bc.mono HSb.out.2.1.size)).mono HBw.out.1.size) | exact HBw.out.1.trans ((HPb.out.2.1.trans (bc.mono HPb.out.2.1.size)).mono HBw.out.1.size)); clear bc))
          | fail)
        all_goals (go_wp2_with fail)
        all_goals (go_roundg (5 - (k + 1)))
        all_goals first
          | (show _ < _; omega)
          | exact ⟨k + 1, rfl, by omega, by go_num, HCb.out⟩
    · go_wp2_with fail
      go_ret
      exact ⟨rfl, HBw.out.2⟩
set_option maxRecDepth 100000 in
set_option maxHeartbeats 4000000 in
theorem arLaw_11111 (pa : Option Addr) (m pcap : Nat) (ps : List Pk) (per : Int) (na : Option Addr) (r ncap : Nat) (w : World) (hm : m ≤ 80 ∨ m = 301) (hmm : m ≤ maxLen) (hr : r ≤ 30)
    (hAud : ∀ w', Below w.heap.size w w' → Calls Tryd.prog 5 #[] w' fun e w'' => e = .returned (.bool true) ∧ Below w'.heap.size w' w'')
    (hOwn : ∀ w', Below w.heap.size w w' → Calls Tryd.prog 10 #[.slice pa m pcap] w' fun e w'' => ∃ a' cap', e = .returned (.slice a' m cap') ∧ LiesP w'' a' ps ∧ m ≤ cap' ∧ cap' ≤ maxLen ∧ Below w'.heap.size w' w'' ∧ Below w.heap.size w w'')
    (hChk : ∀ W a3 k3 b3 j3 l, Below w.heap.size w W → LiesP W a3 ps → m ≤ k3 → k3 ≤ maxLen → LiesS W b3 l → l.length = m → tameAll l → AuditAll per ps l 0 (-1) → Calls Tryd.prog 9 #[.slice a3 m k3, .int .i64 per, .slice b3 m j3] W fun e w' => e = .returned .nilIface ∧ Below W.heap.size W w')
    (h0 : ∀ W a3 k3, Below w.heap.size w W → LiesP W a3 ps → m ≤ k3 → k3 ≤ maxLen → Calls Tryd.prog 17 #[.slice a3 m k3, .int .i64 per] W fun e w' => RunFine per ps m W e w') (h1 : ∀ W a3 k3, Below w.heap.size w W → LiesP W a3 ps → m ≤ k3 → k3 ≤ maxLen → Calls Tryd.prog 18 #[.slice a3 m k3, .int .i64 per, .slice na r ncap] W fun e w' => RunFine per ps m W e w') (h2 : ∀ W a3 k3, Below w.heap.size w W → LiesP W a3 ps → m ≤ k3 → k3 ≤ maxLen → Calls Tryd.prog 19 #[.slice a3 m k3, .int .i64 per, .slice na r ncap] W fun e w' => RunFine per ps m W e w') (h3 : ∀ W a3 k3, Below w.heap.size w W → LiesP W a3 ps → m ≤ k3 → k3 ≤ maxLen → Calls Tryd.prog 20 #[.slice a3 m k3, .int .i64 per, .slice na r ncap] W fun e w' => RunFine per ps m W e w') (h4 : ∀ W a3 k3, Below w.heap.size w W → LiesP W a3 ps → m ≤ k3 → k3 ≤ maxLen → Calls Tryd.prog 21 #[.slice a3 m k3, .int .i64 per, .slice na r ncap] W fun e w' => RunFine per ps m W e w') :
    Calls Tryd.prog 4 #[.slice pa m pcap, .int .i64 per, .slice na r ncap] w fun e w' => e = .returned (.bool true) ∧ Below w.heap.size w w' := by
  have HFit : Hid (∀ w', Calls Tryd.prog 6 #[.slice pa m pcap, .int .i64 80] w' fun e w'' => e = .returned (.bool true) ∧ w'' = w') := fun w' => fitPkts_yes pa m pcap 80 w' hmm (by omega)
  have HA : Hid (∀ w', Below w.heap.size w w' → Calls Tryd.prog 5 #[] w' fun e w'' => e = .returned (.bool true) ∧ Below w'.heap.size w' w'') := hAud
  have HOwn : Hid (∀ w', Below w.heap.size w w' → Calls Tryd.prog 10 #[.slice pa m pcap] w' fun e w'' => ∃ a' cap', e = .returned (.slice a' m cap') ∧ LiesP w'' a' ps ∧ m ≤ cap' ∧ cap' ≤ maxLen ∧ Below w'.heap.size w' w'' ∧ Below w.heap.size w w'') := hOwn
  have HChk : Hid (∀ W a3 k3 b3 j3 l, Below w.heap.size w W → LiesP W a3 ps → m ≤ k3 → k3 ≤ maxLen → LiesS W b3 l → l.length = m → tameAll l → AuditAll per ps l 0 (-1) → Calls Tryd.prog 9 #[.slice a3 m k3, .int .i64 per, .slice b3 m j3] W fun e w' => e = .returned .nilIface ∧ Below W.heap.size W w') := hChk
  have H0 : Hid (∀ W a3 k3, Below w.heap.size w W → LiesP W a3 ps → m ≤ k3 → k3 ≤ maxLen → Calls Tryd.prog 17 #[.slice a3 m k3, .int .i64 per] W fun e w' => RunFine per ps m W e w') := h0
  have H1 : Hid (∀ W a3 k3, Below w.heap.size w W → LiesP W a3 ps → m ≤ k3 → k3 ≤ maxLen → Calls Tryd.prog 18 #[.slice a3 m k3, .int .i64 per, .slice na r ncap] W fun e w' => RunFine per ps m W e w') := h1
  have H2 : Hid (∀ W a3 k3, Below w.heap.size w W → LiesP W a3 ps → m ≤ k3 → k3 ≤ maxLen → Calls Tryd.prog 19 #[.slice a3 m k3, .int .i64 per, .slice na r ncap] W fun e w' => RunFine per ps m W e w') := h2
  have H3 : Hid (∀ W a3 k3, Below w.heap.size w W → LiesP W a3 ps → m ≤ k3 → k3 ≤ maxLen → Calls Tryd.prog 20 #[.slice a3 m k3, .int .i64 per, .slice na r ncap] W fun e w' => RunFine per ps m W e w') := h3
  have H4 : Hid (∀ W a3 k3, Below w.heap.size w W → LiesP W a3 ps → m ≤ k3 → k3 ≤ maxLen → Calls Tryd.prog 21 #[.slice a3 m k3, .int .i64 per, .slice na r ncap] W fun e w' => RunFine per ps m W e w') := h4
  have hr2 : decide ((30 : Int) < (r : Int)) = false := decide_eq_false (by omega)
  unfold maxLen at hmm
  clear hAud hOwn hChk h0 h1 h2 h3 h4
  go_enter Tryd.func4, Tryd.ntmps4
  go_wp2_with fail
  refine (HA.out _ (Below.refl _ _)).mono ?_
  rintro e u0 ⟨rfl, hb⟩
  have HB0 : Hid (Below w.heap.size w u0) := hb
  clear hb
  go_wp2_with fail
  refine (HFit.out _).mono ?_
  rintro e u0x ⟨rfl, hu0⟩
  rw [hu0]
  clear hu0
  go_wp2_with fail
  refine (HOwn.out _ HB0.out).mono ?_
  rintro e p0 ⟨q0, j0, rfl, l0, g0, m0, b0, B0⟩
  have HP0 : Hid (Below w.heap.size w p0 ∧ LiesP p0 q0 ps ∧ m ≤ j0 ∧ j0 ≤ maxLen ∧ Below u0.heap.size u0 p0) := ⟨B0, l0, g0, m0, b0⟩
  clear l0 g0 m0 b0 B0
  go_wp2_with fail
  refine (H0.out p0 q0 j0 HP0.out.1 HP0.out.2.1 HP0.out.2.2.1 HP0.out.2.2.2.1).mono ?_
  rintro e w0 ⟨a0, k0, s0, rfl, hf0, c0⟩
  have HW0 : Hid (Below w.heap.size w w0 ∧ FiveAt per ps m w0 (.slice a0 m k0) false ∧ Below p0.heap.size p0 w0) := ⟨HP0.out.1.trans (c0.mono HP0.out.1.size), fiveAt_fine hf0, c0⟩
  clear hf0 c0
  go_wp2_with fail
  refine (HOwn.out _ HW0.out.1).mono ?_
  rintro e p1 ⟨q1, j1, rfl, l1, g1, m1, b1, B1⟩
  have HP1 : Hid (Below w.heap.size w p1 ∧ LiesP p1 q1 ps ∧ m ≤ j1 ∧ j1 ≤ maxLen ∧ Below w0.heap.size w0 p1) := ⟨B1, l1, g1, m1, b1⟩
  clear l1 g1 m1 b1 B1
  go_wp2_with fail
  refine (H1.out p1 q1 j1 HP1.out.1 HP1.out.2.1 HP1.out.2.2.1 HP1.out.2.2.2.1).mono ?_
  rintro e w1 ⟨a1, k1, s1, rfl, hf1, c1⟩
  have HW1 : Hid (Below w.heap.size w w1 ∧ FiveAt per ps m w1 (.slice a1 m k1) false ∧ Below p1.heap.size p1 w1) := ⟨HP1.out.1.trans (c1.mono HP1.out.1.size), fiveAt_fine hf1, c1⟩
  clear hf1 c1
  go_wp2_with fail
  refine (HOwn.out _ HW1.out.1).mono ?_
  rintro e p2 ⟨q2, j2, rfl, l2, g2, m2, b2, B2⟩
  have HP2 : Hid (Below w.heap.size w p2 ∧ LiesP p2 q2 ps ∧ m ≤ j2 ∧ j2 ≤ maxLen ∧ Below w1.heap.size w1 p2) := ⟨B2, l2, g2, m2, b2⟩
  clear l2 g2 m2 b2 B2
  go_wp2_with fail
  refine (H2.out p2 q2 j2 HP2.out.1 HP2.out.2.1 HP2.out.2.2.1 HP2.out.2.2.2.1).mono ?_
  rintro e w2 ⟨a2, k2, s2, rfl, hf2, c2⟩
  have HW2 : Hid (Below w.heap.size w w2 ∧ FiveAt per ps m w2 (.slice a2 m k2) false ∧ Below p2.heap.size p2 w2) := ⟨HP2.out.1.trans (c2.mono HP2.out.1.size), fiveAt_fine hf2, c2⟩
  clear hf2 c2
  go_wp2_with fail
  refine (HOwn.out _ HW2.out.1).mono ?_
  rintro e p3 ⟨q3, j3, rfl, l3, g3, m3, b3, B3⟩
  have HP3 : Hid (Below w.heap.size w p3 ∧ LiesP p3 q3 ps ∧ m ≤ j3 ∧ j3 ≤ maxLen ∧ Below w2.heap.size w2 p3) := ⟨B3, l3, g3, m3, b3⟩
  clear l3 g3 m3 b3 B3
  go_wp2_with fail
  refine (H3.out p3 q3 j3 HP3.out.1 HP3.out.2.1 HP3.out.2.2.1 HP3.out.2.2.2.1).mono ?_
  rintro e w3 ⟨a3, k3, s3, rfl, hf3, c3⟩
  have HW3 : Hid (Below w.heap.size w w3 ∧ FiveAt per ps m w3 (.slice a3 m k3) false ∧ Below p3.heap.size p3 w3) := ⟨HP3.out.1.trans (c3.mono HP3.out.1.size), fiveAt_fine hf3, c3⟩
  clear hf3 c3
  go_wp2_with fail
  refine (HOwn.out _ HW3.out.1).mono ?_
  rintro e p4 ⟨q4, j4, rfl, l4, g4, m4, b4, B4⟩
  have HP4 : Hid (Below w.heap.size w p4 ∧ LiesP p4 q4 ps ∧ m ≤ j4 ∧ j4 ≤ maxLen ∧ Below w3.heap.size w3 p4) := ⟨B4, l4, g4, m4, b4⟩
  clear l4 g4 m4 b4 B4
  go_wp2_with fail
  refine (H4.out p4 q4 j4 HP4.out.1 HP4.out.2.1 HP4.out.2.2.1 HP4.out.2.2.2.1).mono ?_
  rintro e w4 ⟨a4, k4, s4, rfl, hf4, c4⟩
  have HW4 : Hid (Below w.heap.size w w4 ∧ FiveAt per ps m w4 (.slice a4 m k4) false ∧ Below p4.heap.size p4 w4) := ⟨HP4.out.1.trans (c4.mono HP4.out.1.size), fiveAt_fine hf4, c4⟩
  clear hf4 c4
  have s34 : Below w3.heap.size w3 w4 := HP4.out.2.2.2.2.trans (HW4.out.2.2.mono HP4.out.2.2.2.2.size)
  have s23 : Below w2.heap.size w2 w3 := HP3.out.2.2.2.2.trans (HW3.out.2.2.mono HP3.out.2.2.2.2.size)
  have s12 : Below w1.heap.size w1 w2 := HP2.out.2.2.2.2.trans (HW2.out.2.2.mono HP2.out.2.2.2.2.size)
  have s01 : Below w0.heap.size w0 w1 := HP1.out.2.2.2.2.trans (HW1.out.2.2.mono HP1.out.2.2.2.2.size)
  have s24 := s23.trans (s34.mono s23.size)
  have s14 := s12.trans (s24.mono s12.size)
  have s04 := s01.trans (s14.mono s01.size)
  have HV0 : Hid (∀ k, k < 5 → FiveAt per ps m w4 (five (.slice a0 m k0) (.slice a1 m k1) (.slice a2 m k2) (.slice a3 m k3) (.slice a4 m k4) k) (five false false false false false k)) := fun k hk => by
    match k, hk with
    | 0, _ => exact HW0.out.2.1.later s04
    | 1, _ => exact HW1.out.2.1.later s14
    | 2, _ => exact HW2.out.2.1.later s24
    | 3, _ => exact HW3.out.2.1.later s34
    | 4, _ => exact HW4.out.2.1
    | k + 5, h => omega
  clear s34 s23 s12 s01 s24 s14 s04
  go_wp2_with fail
  obtain ⟨V1, hV1⟩ : ∃ V1, w4.alloc (.cells #[.slice a0 m k0, .slice a1 m k1, .slice a2 m k2, .slice a3 m k3, .slice a4 m k4] 23) = V1 := ⟨_, rfl⟩
  have HV1 : Hid (w4.alloc (.cells #[.slice a0 m k0, .slice a1 m k1, .slice a2 m k2, .slice a3 m k3, .slice a4 m k4] 23) = V1) := hV1
  have gA : Hid (V1.heap.size = w4.heap.size + 1 ∧ Below w4.heap.size w4 V1) := by
    show _ ∧ _
    rw [← hV1]
    exact ⟨by simp, (Below.refl _ _).alloc (Nat.le_refl _) _⟩
  have HcA : Hid (∀ k, k < 5 → V1.cell? ⟨w4.heap.size, k, none⟩ = some (five (.slice a0 m k0) (.slice a1 m k1) (.slice a2 m k2) (.slice a3 m k3) (.slice a4 m k4) k)) := fun k hk => by
    rw [← hV1, World.cell?_alloc_at _ _ _ _ rfl]
    match k, hk with
    | 0, _ => rfl
    | 1, _ => rfl
    | 2, _ => rfl
    | 3, _ => rfl
    | 4, _ => rfl
    | k + 5, h => omega
  rw [hV1]
  clear hV1
  go_region
  obtain ⟨V2, hV2⟩ : ∃ V2, (V1.alloc (.cells #[.bool false, .bool false, .bool false, .bool false, .bool false] 4)).drew = V2 := ⟨_, rfl⟩
  have hbV : Below V1.heap.size V1 V2 := by
    rw [← hV2]
    exact below_drewN ((Below.refl _ _).alloc (Nat.le_refl _) _) 1
  have HcB : Hid (∀ k, k < 5 → V2.cell? ⟨V1.heap.size, k, none⟩ = some (.bool (five false false false false false k))) := fun k hk => by
    have hc : (V1.alloc (.cells #[.bool false, .bool false, .bool false, .bool false, .bool false] 4)).cell? ⟨V1.heap.size, k, none⟩ = some (.bool (five false false false false false k)) := by
      rw [World.cell?_alloc_at _ _ _ _ rfl]
      match k, hk with
      | 0, _ => rfl
      | 1, _ => rfl
      | 2, _ => rfl
      | 3, _ => rfl
      | 4, _ => rfl
      | k + 5, h => omega
    rw [← hV2]
    exact hc
  have hb4 : Below w4.heap.size w4 V2 := gA.out.2.trans (hbV.mono gA.out.2.size)
  have HV2 : Hid ((∀ k, k < 5 → FiveAt per ps m V2 (five (.slice a0 m k0) (.slice a1 m k1) (.slice a2 m k2) (.slice a3 m k3) (.slice a4 m k4) k) (five false false false false false k)) ∧ (∀ k, k < 5 → V2.cell? ⟨w4.heap.size, k, none⟩ = some (five (.slice a0 m k0) (.slice a1 m k1) (.slice a2 m k2) (.slice a3 m k3) (.slice a4 m k4) k)) ∧ Below w.heap.size w V2) := ⟨fun k hk => (HV0.out k hk).later hb4, fun k hk => cell_later hbV (HcA.out k hk), HW4.out.1.trans (hb4.mono HW4.out.1.size)⟩
  rw [hV2]
  clear hV2 hbV hb4
  go_wp2_with fail
  go_loopg [20] 5 (fun gk iv wr => ∃ k : Nat, gk = 5 - k ∧ k ≤ 5 ∧ iv = .int .i64 (k : Int) ∧ Below V2.heap.size V2 wr)
  case atStart => exact ⟨0, rfl, by omega, rfl, Below.refl _ _⟩
  case round =>
    obtain ⟨k, rfl, hk', rfl, hbw⟩ := hrel
    have HBw : Hid (Below V2.heap.size V2 wr ∧ Below w.heap.size w wr) := ⟨hbw, HV2.out.2.2.trans (hbw.mono HV2.out.2.2.size)⟩
    clear hbw
    by_cases hk : k < 5
    · have hki : (k : Int) < 5 := by omega
      have cB := cell_later HBw.out.1 (HcB.out k hk)
      have cA := cell_later HBw.out.1 (HV2.out.2.1 k hk)
      have hF := (HV2.out.1 k hk).later HBw.out.1
      obtain ⟨bd, hbd⟩ : ∃ bd, five false false false false false k = bd := ⟨_, rfl⟩
      obtain ⟨vv, hvv⟩ : ∃ vv : Value, five (.slice a0 m k0) (.slice a1 m k1) (.slice a2 m k2) (.slice a3 m k3) (.slice a4 m k4) k = vv := ⟨_, rfl⟩
      rw [hbd] at cB hF
      rw [hvv] at cA hF
      clear hbd hvv
      cases bd with
      | true =>
        have hv := hF.bad_ rfl
        subst hv
        clear hF
        go_wp2_with fail
        go_roundg (5 - (k + 1))
        case measure => omega
        case rel => exact ⟨k + 1, rfl, by omega, by go_num, HBw.out.1⟩
      | false =>
        obtain ⟨sa, sk, l, hvv, hl, hlen, hnil, htm, hau⟩ := hF.fine rfl
        subst hvv
        have HL : Hid (LiesS wr sa l ∧ l.length = m ∧ (sa = none → l = [] ∧ sk = 0) ∧ tameAll l ∧ AuditAll per ps l 0 (-1)) := ⟨hl, hlen, hnil, htm, hau⟩
        have HOwnS : Hid (∀ W, Below wr.heap.size wr W → Calls Tryd.prog 11 #[.slice sa m sk] W fun e w'' => ∃ a' cap', e = .returned (.slice a' m cap') ∧ LiesS w'' a' l ∧ Below W.heap.size W w'' ∧ Below wr.heap.size wr w'') := fun W hb => by
          have := ownSent_from sa sk l wr W hb hl (by omega) hnil
          rwa [hlen] at this
        have HOwnP : Hid (∀ W, Below wr.heap.size wr W → Calls Tryd.prog 10 #[.slice pa m pcap] W fun e w'' => ∃ a' cap', e = .returned (.slice a' m cap') ∧ LiesP w'' a' ps ∧ m ≤ cap' ∧ cap' ≤ maxLen ∧ Below W.heap.size W w'' ∧ Below wr.heap.size wr w'') := fun W hb => (HOwn.out W (HBw.out.2.trans (hb.mono HBw.out.2.size))).mono fun e w'' ⟨a', c', g1, g2, g3, g4, g5, _⟩ => ⟨a', c', g1, g2, g3, g4, g5, hb.trans (g5.mono hb.size)⟩
        clear hF hl hlen hnil htm hau
        go_wp2_with fail
        go_region_with (first
          | (go_simp; go_at_call 10; go_must (refine (HOwnP.out _ (by first | exact HSb.out.2.1 | exact below_drewN (Below.refl _ _) 1)).mono ?_; rintro e wp ⟨pq, pc, rfl, lp, gp, mp, bp, Bp⟩; have HPb := (show Hid (LiesP wp pq ps ∧ Below wr.heap.size wr wp ∧ (m ≤ pc ∧ pc ≤ maxLen) ∧ Below _ _ wp) from ⟨lp, Bp, ⟨gp, mp⟩, bp⟩); have cAp := cell_later Bp cA; clear lp gp mp bp Bp))
          | (go_simp; go_at_call 11; go_must (refine (HOwnS.out _ (by first | exact HPb.out.2.1 | exact below_drewN (Below.refl _ _) 1)).mono ?_; rintro e ws ⟨sq, sc, rfl, ls, bs, Bs⟩; have HSb := (show Hid (LiesS ws sq l ∧ Below wr.heap.size wr ws ∧ Below _ _ ws) from ⟨ls, Bs, bs⟩); clear ls bs Bs))
          | (go_simp; go_at_call 9; go_must (refine (HChk.out _ pq pc sq sc l (by first | exact HBw.out.2.trans (HSb.out.2.1.mono HBw.out.2.size) | exact HBw.out.2.trans (HPb.out.2.1.mono HBw.out.2.size)) (by first | exact HPb.out.1 | exact HPb.out.1.below HSb.out.2.2) HPb.out.2.2.1.1 HPb.out.2.2.1.2 (by first | exact HSb.out.1 | exact HSb.out.1.below HPb.out.2.2.2) HL.out.2.1 HL.out.2.2.2.1 HL.out.2.2.2.2).mono ?_; rintro e wc ⟨rfl, bc⟩; have HCb : Hid (Below V2.heap.size V2 wc) := (by first | exact HBw.out.1.trans ((HSb.out.2.1.trans (bc.mono HSb.out.2.1.size)).mono HBw.out.1.size) | exact HBw.out.1.trans ((HPb.out.2.1.trans (bc.mono HPb.out.2.1.size)).mono HBw.out.1.size)); clear bc))
          | fail)
        all_goals (go_wp2_with fail)
        all_goals (go_roundg (5 - (k + 1)))
        all_goals first
          | (show _ < _; omega)
          | exact ⟨k + 1, rfl, by omega, by go_num, HCb.out⟩
    · go_wp2_with fail
      go_ret
      exact ⟨rfl, HBw.out.2⟩
end Go.Proofs.YtolbmkniafkeaaaDoor

/- AuditRuns: what each link leaves. -/
namespace Go.Proofs.YtolbmkniafkeaaaDoor
open Go.RowKit

theorem runFine_of {per : Int} {ps : List Pk} {l : List Sn} {W w' : World} {v : Value} (ho : OkPks ps) (h1 : 1 ≤ per) (h2 : per ≤ 1000) (hown : OwnS w' W.heap.size v l) (hc : Conv per ps l) (ht : Turns ps l) (hl : l.length = ps.length) (hb : Below W.heap.size W w') : RunFine per ps ps.length W (.returned (.tuple #[v, .nilIface])) w' := by
  obtain ⟨a', k', rfl, -, -, hl', -, hn'⟩ := hown.open
  have hfew := ho.few
  refine ⟨a', k', l, by rw [hl], ⟨hl', hl, hn', fun i x hx => ?_, .inr ⟨ho, h1, h2, hc.audit ho h1 ht hl⟩⟩, hb⟩
  have := hc.range ho ⟨h1, h2⟩ i x hx
  have := lt_of_get hx
  exact decide_eq_true (by omega)
section
variable (a : Option Addr) (cap : Nat) (ps : List Pk) (per : Int) (na : Option Addr) (ncap : Nat) (ns : List Int) (w : World) (ad : Nat → Addr)
theorem fifoRun_out (hl : LiesP w a ps) (ho : OkPks ps) (h1 : 1 ≤ per) (h2 : per ≤ 1000) : Calls Tryd.prog 17 #[.slice a ps.length cap, .int .i64 per] w fun e w' => RunFine per ps ps.length w e w' := by
  refine (fifoRun_ok a cap ps per w hl ho h1 h2).mono ?_
  rintro e w' ⟨v, rfl, hown, hb⟩
  obtain ⟨hc, ht⟩ := lind_may (per := per) ho
  exact runFine_of ho h1 h2 hown hc ht (lindAll_length per ps ps.length) hb
theorem rankRun_out (hl : LiesP w a ps) (hn : LiesN w na ns) (ho : OkPks ps) (h1 : 1 ≤ per) (h2 : per ≤ 1000) (hk : NumsOk 0 100 ns) : Calls Tryd.prog 18 #[.slice a ps.length cap, .int .i64 per, .slice na ns.length ncap] w fun e w' => RunFine per ps ps.length w e w' := by
  refine (rankRun_ok a cap ps per na ncap ns w hl hn ho h1 h2 hk).mono ?_
  rintro e w' ⟨v, rfl, l, hown, hs, hlen, hb⟩
  exact runFine_of ho h1 h2 hown hs.conv (rank_turns ho hs) hlen hb
theorem rankDue_out (hl : LiesP w a ps) (hn : LiesN w na ns) (ho : OkPks ps) (h1 : 1 ≤ per) (h2 : per ≤ 1000) (hk : NumsOk 0 1099511627776 ns) : Calls Tryd.prog 19 #[.slice a ps.length cap, .int .i64 per, .slice na ns.length ncap] w fun e w' => RunFine per ps ps.length w e w' := by
  refine (rankDue_ok a cap ps per na ncap ns w hl hn ho h1 h2 hk).mono ?_
  rintro e w' ⟨v, rfl, l, hown, hs, hlen, hb⟩
  exact runFine_of ho h1 h2 hown hs.conv (due_turns ho hs) hlen hb
theorem roundRun_out (hl : LiesP w a ps) (hn : LiesN w na ns) (ho : OkPks ps) (h1 : 1 ≤ per) (h2 : per ≤ 1000) (hk : NumsOk 1 3000 ns) : Calls Tryd.prog 20 #[.slice a ps.length cap, .int .i64 per, .slice na ns.length ncap] w fun e w' => RunFine per ps ps.length w e w' := by
  refine (roundRun_ok a cap ps per na ncap ns w hl hn ho h1 h2 hk).mono ?_
  rintro e w' ⟨v, rfl, l, hown, hs, hb⟩
  obtain ⟨hc, ht, hlen⟩ := hs.may ho (fun f => (quOf_in hk.each (by omega) f).1) h1
  exact runFine_of ho h1 h2 hown hc ht hlen hb
theorem fairRun_out (hl : LiesP w a ps) (hn : LiesN w na ns) (ho : OkPks ps) (h1 : 1 ≤ per) (h2 : per ≤ 1000) (hk : WtsAll ns) : Calls Tryd.prog 21 #[.slice a ps.length cap, .int .i64 per, .slice na ns.length ncap] w fun e w' => RunFine per ps ps.length w e w' := by
  refine (fairRun_ok a cap ps per na ncap ns w hl hn ho h1 h2 hk).mono ?_
  rintro e w' ⟨v, rfl, g, gt, l, f, hown, hs, hb, -, -⟩
  obtain ⟨hc, ht, hlen⟩ := hs.may hk.ok ho h1
  exact runFine_of ho h1 h2 hown hc ht hlen hb
end
end Go.Proofs.YtolbmkniafkeaaaDoor

/- AuditRuns, of any packets and numbers, by what Check tells. -/
namespace Go.Proofs.YtolbmkniafkeaaaDoor
open Go.RowKit

set_option maxRecDepth 100000 in
set_option maxHeartbeats 1000000 in
theorem arLaw_many (AW : AuditWalks) (pa : Option Addr) (m pcap : Nat) (per : Int) (na : Option Addr) (r ncap : Nat) (w : World) (ad : Nat → Addr) (he : Errs9 w ad) (h1 : ¬ (m : Int) ≤ 80) (h2 : m ≠ 301) :
    Calls Tryd.prog 4 #[.slice pa m pcap, .int .i64 per, .slice na r ncap] w fun e w' => e = .returned (.bool true) ∧ Below w.heap.size w w' := by
  have HA := (show Hid (∀ w', Below w.heap.size w w' → Calls Tryd.prog 5 #[] w' fun e w'' => e = .returned (.bool true) ∧ Below w'.heap.size w' w'') from fun w' hb => AW.audited w' ad (he.below hb))
  have HF : Hid (∀ w', Calls Tryd.prog 6 #[.slice pa m pcap, .int .i64 80] w' fun e w'' => e = .returned (.bool false) ∧ w'' = w') := fun w' => fitPkts_no pa m pcap 80 w' h1 h2
  clear h1 h2 he AW
  go_enter Tryd.func4, Tryd.ntmps4
  go_wp2_with fail
  refine (HA.out _ (Below.refl _ _)).mono ?_
  rintro e w1 ⟨rfl, hb⟩
  have HB : Hid (Below w.heap.size w w1) := hb
  clear hb
  go_wp2_with fail
  refine (HF.out _).mono ?_
  rintro e w2 ⟨rfl, rfl⟩
  go_wp2_with fail
  go_ret
  exact ⟨rfl, HB.out⟩
set_option maxRecDepth 100000 in
set_option maxHeartbeats 1000000 in
theorem arLaw_more (AW : AuditWalks) (pa : Option Addr) (m pcap : Nat) (per : Int) (na : Option Addr) (r ncap : Nat) (w : World) (ad : Nat → Addr) (he : Errs9 w ad) (hm : m ≤ maxLen) (h1 : (m : Int) ≤ 80 ∨ m = 301) (h : 30 < r) :
    Calls Tryd.prog 4 #[.slice pa m pcap, .int .i64 per, .slice na r ncap] w fun e w' => e = .returned (.bool true) ∧ Below w.heap.size w w' := by
  have HA := (show Hid (∀ w', Below w.heap.size w w' → Calls Tryd.prog 5 #[] w' fun e w'' => e = .returned (.bool true) ∧ Below w'.heap.size w' w'') from fun w' hb => AW.audited w' ad (he.below hb))
  have HF : Hid (∀ w', Calls Tryd.prog 6 #[.slice pa m pcap, .int .i64 80] w' fun e w'' => e = .returned (.bool true) ∧ w'' = w') := fun w' => fitPkts_yes pa m pcap 80 w' hm h1
  clear h1 he AW
  go_enter Tryd.func4, Tryd.ntmps4
  go_wp2_with fail
  refine (HA.out _ (Below.refl _ _)).mono ?_
  rintro e w1 ⟨rfl, hb⟩
  have HB : Hid (Below w.heap.size w w1) := hb
  clear hb
  go_wp2_with fail
  refine (HF.out _).mono ?_
  rintro e w2 ⟨rfl, rfl⟩
  go_wp2_with fail
  go_ret
  exact ⟨rfl, HB.out⟩

theorem numErrs_of {w : World} {ad : Nat → Addr} (he : Errs9 w ad) : NumErrs w ad := ⟨he.c1, he.c2⟩
theorem arLaw_any (AW : AuditWalks) (pa : Option Addr) (pcap : Nat) (ps : List Pk) (per : Int) (na : Option Addr) (ncap : Nat) (ns : List Int) (w : World) (ad : Nat → Addr) (he : Errs9 w ad) (hp : LiesP w pa ps) (hpc : ps.length ≤ pcap) (hpm : pcap ≤ maxLen) (hpa : pa = none → ps = [] ∧ pcap = 0) (hn : LiesN w na ns) :
    Calls Tryd.prog 4 #[.slice pa ps.length pcap, .int .i64 per, .slice na ns.length ncap] w fun e w' => e = .returned (.bool true) ∧ Below w.heap.size w w' := by
  by_cases hm : ps.length ≤ 80 ∨ ps.length = 301
  · by_cases hr : ns.length ≤ 30
    · have hmm := Nat.le_trans hpc hpm
      have hAud : ∀ w', Below w.heap.size w w' → Calls Tryd.prog 5 #[] w' fun e w'' => e = .returned (.bool true) ∧ Below w'.heap.size w' w'' := fun w' hb => AW.audited w' ad (he.below hb)
      have hOwn : ∀ w', Below w.heap.size w w' → Calls Tryd.prog 10 #[.slice pa ps.length pcap] w' fun e w'' => ∃ a' cap', e = .returned (.slice a' ps.length cap') ∧ LiesP w'' a' ps ∧ ps.length ≤ cap' ∧ cap' ≤ maxLen ∧ Below w'.heap.size w' w'' ∧ Below w.heap.size w w'' := fun w' hb => ownPackets_from pa pcap ps w w' hb hp (by omega) hpa
      have hChk : ∀ W a3 k3 b3 j3 l, Below w.heap.size w W → LiesP W a3 ps → ps.length ≤ k3 → k3 ≤ maxLen → LiesS W b3 l → l.length = ps.length → tameAll l → AuditAll per ps l 0 (-1) → Calls Tryd.prog 9 #[.slice a3 ps.length k3, .int .i64 per, .slice b3 ps.length j3] W fun e w' => e = .returned .nilIface ∧ Below W.heap.size W w' := fun W a3 k3 b3 j3 l hb g1 g2 g3 g4 g5 g6 g7 => by
        have hfew : l.length ≤ 300 := by
          rcases g7 with ⟨-, h⟩ | ⟨ho, -⟩
          · omega
          · have := ho.few; omega
        have h := AW.check a3 k3 ps per b3 j3 l W ad 0 (-1) (he.below hb) g1 g2 g3 g4 hfew g6 g7
        rw [g5] at h
        refine h.mono ?_
        rintro e w' ⟨E, rfl, hE, hb'⟩
        exact ⟨by rw [hE.none_ rfl], hb'⟩
      by_cases hok : OkPks ps ∧ 1 ≤ per ∧ per ≤ 1000
      · obtain ⟨ho, h1, h2⟩ := hok
        have r0 : ∀ W a3 k3, Below w.heap.size w W → LiesP W a3 ps → ps.length ≤ k3 → k3 ≤ maxLen → Calls Tryd.prog 17 #[.slice a3 ps.length k3, .int .i64 per] W fun e w' => RunFine per ps ps.length W e w' := fun W a3 k3 hb g1 _ _ => fifoRun_out a3 k3 ps per W g1 ho h1 h2
        have r1 : ∀ (_ : ¬ NumsOk 0 100 ns) W a3 k3, Below w.heap.size w W → LiesP W a3 ps → ps.length ≤ k3 → k3 ≤ maxLen → Calls Tryd.prog 18 #[.slice a3 ps.length k3, .int .i64 per, .slice na ns.length ncap] W fun e w' => RunFault W e w' := fun hno W a3 k3 hb g1 g2 g3 => rankRun_bad a3 k3 ps per na ncap ns W ad (he.below hb).bo (numErrs_of (he.below hb)) g1 g2 g3 (hn.below hb) (fun h => hno h.2.2.2)
        have r3 : ∀ (_ : ¬ NumsOk 1 3000 ns) W a3 k3, Below w.heap.size w W → LiesP W a3 ps → ps.length ≤ k3 → k3 ≤ maxLen → Calls Tryd.prog 20 #[.slice a3 ps.length k3, .int .i64 per, .slice na ns.length ncap] W fun e w' => RunFault W e w' := fun hno W a3 k3 hb g1 g2 g3 => roundRun_bad a3 k3 ps per na ncap ns W ad (he.below hb).bo (numErrs_of (he.below hb)) g1 g2 g3 (hn.below hb) (fun h => hno h.2.2.2)
        have r4 : ∀ (_ : ¬ WtsAll ns) W a3 k3, Below w.heap.size w W → LiesP W a3 ps → ps.length ≤ k3 → k3 ≤ maxLen → Calls Tryd.prog 21 #[.slice a3 ps.length k3, .int .i64 per, .slice na ns.length ncap] W fun e w' => RunFault W e w' := fun hno W a3 k3 hb g1 g2 g3 => fairRun_err (R := fun _ _ w' => Below W.heap.size W w') a3 _ k3 per na _ ncap W (fairCheck_bad a3 k3 ps per na ncap ns W ad (he.below hb).bo (numErrs_of (he.below hb)) g1 g2 g3 (hn.below hb) (fun h => hno h.2.2.2))
        by_cases hd : NumsOk 0 1099511627776 ns
        · have r2 : ∀ W a3 k3, Below w.heap.size w W → LiesP W a3 ps → ps.length ≤ k3 → k3 ≤ maxLen → Calls Tryd.prog 19 #[.slice a3 ps.length k3, .int .i64 per, .slice na ns.length ncap] W fun e w' => RunFine per ps ps.length W e w' := fun W a3 k3 hb g1 _ _ => rankDue_out a3 k3 ps per na ncap ns W g1 (hn.below hb) ho h1 h2 hd
          by_cases hk : NumsOk 0 100 ns
          · have r1' : ∀ W a3 k3, Below w.heap.size w W → LiesP W a3 ps → ps.length ≤ k3 → k3 ≤ maxLen → Calls Tryd.prog 18 #[.slice a3 ps.length k3, .int .i64 per, .slice na ns.length ncap] W fun e w' => RunFine per ps ps.length W e w' := fun W a3 k3 hb g1 _ _ => rankRun_out a3 k3 ps per na ncap ns W g1 (hn.below hb) ho h1 h2 hk
            by_cases hq : NumsOk 1 3000 ns
            · have r3' : ∀ W a3 k3, Below w.heap.size w W → LiesP W a3 ps → ps.length ≤ k3 → k3 ≤ maxLen → Calls Tryd.prog 20 #[.slice a3 ps.length k3, .int .i64 per, .slice na ns.length ncap] W fun e w' => RunFine per ps ps.length W e w' := fun W a3 k3 hb g1 _ _ => roundRun_out a3 k3 ps per na ncap ns W g1 (hn.below hb) ho h1 h2 hq
              by_cases hw : WtsAll ns
              · exact arLaw_11111 pa _ pcap ps per na _ ncap w hm hmm hr hAud hOwn hChk r0 r1' r2 r3' (fun W a3 k3 hb g1 _ _ => fairRun_out a3 k3 ps per na ncap ns W g1 (hn.below hb) ho h1 h2 hw)
              · exact arLaw_11110 pa _ pcap ps per na _ ncap w hm hmm hr hAud hOwn hChk r0 r1' r2 r3' (r4 hw)
            · exact arLaw_11100 pa _ pcap ps per na _ ncap w hm hmm hr hAud hOwn hChk r0 r1' r2 (r3 hq) (r4 fun h => hq h.wide)
          · have hw : ¬ WtsAll ns := fun h => hk ⟨h.len, fun i x hx => by have := h.nums.each i x hx; omega⟩
            by_cases hq : NumsOk 1 3000 ns
            · exact arLaw_10110 pa _ pcap ps per na _ ncap w hm hmm hr hAud hOwn hChk r0 (r1 hk) r2 (fun W a3 k3 hb g1 _ _ => roundRun_out a3 k3 ps per na ncap ns W g1 (hn.below hb) ho h1 h2 hq) (r4 hw)
            · exact arLaw_10100 pa _ pcap ps per na _ ncap w hm hmm hr hAud hOwn hChk r0 (r1 hk) r2 (r3 hq) (r4 hw)
        · have hk : ¬ NumsOk 0 100 ns := fun h => hd ⟨h.len, fun i x hx => by have := h.each i x hx; omega⟩
          have hq : ¬ NumsOk 1 3000 ns := fun h => hd ⟨h.len, fun i x hx => by have := h.each i x hx; omega⟩
          exact arLaw_10000 pa _ pcap ps per na _ ncap w hm hmm hr hAud hOwn hChk r0 (r1 hk) (fun W a3 k3 hb g1 g2 g3 => rankDue_bad a3 k3 ps per na ncap ns W ad (he.below hb).bo (numErrs_of (he.below hb)) g1 g2 g3 (hn.below hb) (fun h => hd h.2.2.2)) (r3 hq) (r4 fun h => hq h.wide)
      · exact arLaw_00000 pa _ pcap ps per na _ ncap w hm hmm hr hAud hOwn hChk
          (fun W a3 k3 hb g1 g2 g3 => fifoRun_err (R := fun _ _ w' => Below W.heap.size W w') a3 _ k3 per W (linkCheck_bad a3 k3 ps per W ad (he.below hb).bo g1 g2 g3 hok))
          (fun W a3 k3 hb g1 g2 g3 => rankRun_bad a3 k3 ps per na ncap ns W ad (he.below hb).bo (numErrs_of (he.below hb)) g1 g2 g3 (hn.below hb) (fun h => hok ⟨h.1, h.2.1, h.2.2.1⟩))
          (fun W a3 k3 hb g1 g2 g3 => rankDue_bad a3 k3 ps per na ncap ns W ad (he.below hb).bo (numErrs_of (he.below hb)) g1 g2 g3 (hn.below hb) (fun h => hok ⟨h.1, h.2.1, h.2.2.1⟩))
          (fun W a3 k3 hb g1 g2 g3 => roundRun_bad a3 k3 ps per na ncap ns W ad (he.below hb).bo (numErrs_of (he.below hb)) g1 g2 g3 (hn.below hb) (fun h => hok ⟨h.1, h.2.1, h.2.2.1⟩))
          (fun W a3 k3 hb g1 g2 g3 => fairRun_err (R := fun _ _ w' => Below W.heap.size W w') a3 _ k3 per na _ ncap W (fairCheck_bad a3 k3 ps per na ncap ns W ad (he.below hb).bo (numErrs_of (he.below hb)) g1 g2 g3 (hn.below hb) (fun h => hok ⟨h.1, h.2.1, h.2.2.1⟩)))
    · exact arLaw_more AW pa _ pcap per na _ ncap w ad he (Nat.le_trans hpc hpm) (by omega) (by omega)
  · exact arLaw_many AW pa _ pcap per na _ ncap w ad he (by omega) (by omega)
end Go.Proofs.YtolbmkniafkeaaaDoor
