/- Own facts, put together: no statement of its own. -/
import Derived.Laws.EntriesVeiled
import Derived.Test.YtibhkijaafdkoaaGreatDoorK47
import Derived.Test.YtibhkijaafdkoaaGreatDoorK48
namespace Go.Proofs.YtibhkijaafdkoaaGreatDoor
open Go.RowKit
structure RulesAt (w : World) (R S K P : Nat) (ad : Nat → Addr) : Prop where
 e0 : w.cell? ⟨R, 0, none⟩ = some (.iface 271 (.pointer (some (ad 3))))
 f0 : w.cell? ⟨R, 1, none⟩ = some (.func (.func 90) #[] #[.pointer (some ⟨S, 0, none⟩)])
 e1 : w.cell? ⟨R, 2, none⟩ = some (.iface 271 (.pointer (some (ad 4))))
 f1 : w.cell? ⟨R, 3, none⟩ = some (.func (.func 91) #[] #[.pointer (some ⟨K, 0, none⟩), .pointer (some ⟨S, 0, none⟩)])
 e2 : w.cell? ⟨R, 4, none⟩ = some (.iface 271 (.pointer (some (ad 2))))
 f2 : w.cell? ⟨R, 5, none⟩ = some (.func (.func 92) #[] #[.pointer (some ⟨P, 0, none⟩), .pointer (some ⟨K, 0, none⟩)])
 e3 : w.cell? ⟨R, 6, none⟩ = some (.iface 271 (.pointer (some (ad 6))))
 f3 : w.cell? ⟨R, 7, none⟩ = some (.func (.func 93) #[] #[.pointer (some ⟨S, 0, none⟩)])
 e4 : w.cell? ⟨R, 8, none⟩ = some (.iface 271 (.pointer (some (ad 7))))
 f4 : w.cell? ⟨R, 9, none⟩ = some (.func (.func 96) #[] #[.pointer (some ⟨S, 0, none⟩), .pointer (some ⟨K, 0, none⟩)])
theorem RulesAt.later {w w' : World} {R S K P : Nat} {ad : Nat → Addr} (h : RulesAt w R S K P ad) (hb : Below w.heap.size w w') : RulesAt w' R S K P ad :=
 ⟨cell_later hb h.e0, cell_later hb h.f0, cell_later hb h.e1, cell_later hb h.f1, cell_later hb h.e2, cell_later hb h.f2, cell_later hb h.e3, cell_later hb h.f3, cell_later hb h.e4, cell_later hb h.f4⟩
def ruleErr (ad : Nat → Addr) : Nat → Value
 | 0 => .iface 271 (.pointer (some (ad 3)))
 | 1 => .iface 271 (.pointer (some (ad 4)))
 | 2 => .iface 271 (.pointer (some (ad 2)))
 | 3 => .iface 271 (.pointer (some (ad 6)))
 | 4 => .iface 271 (.pointer (some (ad 7)))
 | _ => .nilIface
theorem Tryz.callRules2A (args : Array Value) (W : World) : Sem.run Tryz.prog (callFunc 90 args) W = .ok (.enter 90 args) W := by kernel_rfl
theorem Tryz.callRules3A (args : Array Value) (W : World) : Sem.run Tryz.prog (callFunc 91 args) W = .ok (.enter 91 args) W := by kernel_rfl
theorem Tryz.callRules4A (args : Array Value) (W : World) : Sem.run Tryz.prog (callFunc 92 args) W = .ok (.enter 92 args) W := by kernel_rfl
theorem Tryz.callRules5A (args : Array Value) (W : World) : Sem.run Tryz.prog (callFunc 93 args) W = .ok (.enter 93 args) W := by kernel_rfl
theorem Tryz.callRules6A (args : Array Value) (W : World) : Sem.run Tryz.prog (callFunc 96 args) W = .ok (.enter 96 args) W := by kernel_rfl
set_option maxRecDepth 100000 in
set_option maxHeartbeats 4000000 in
theorem auFirst_by (R S K P : Nat) (ad : Nat → Addr) (w : World) (num beg fin : Int) (hr : RulesAt w R S K P ad) (t : Nat) (ht : t ≤ 5)
  (g0 : 0 ≤ t → ∀ W, Below w.heap.size w W → Calls Tryz.prog 90 #[.agg #[.int .i64 num, .int .i64 beg, .int .i64 fin], .pointer (some ⟨S, 0, none⟩)] W fun e w' => e = .returned (.bool (decide (t = 0))) ∧ Below W.heap.size W w')
  (g1 : 1 ≤ t → ∀ W, Below w.heap.size w W → Calls Tryz.prog 91 #[.agg #[.int .i64 num, .int .i64 beg, .int .i64 fin], .pointer (some ⟨K, 0, none⟩), .pointer (some ⟨S, 0, none⟩)] W fun e w' => e = .returned (.bool (decide (t = 1))) ∧ Below W.heap.size W w')
  (g2 : 2 ≤ t → ∀ W, Below w.heap.size w W → Calls Tryz.prog 92 #[.agg #[.int .i64 num, .int .i64 beg, .int .i64 fin], .pointer (some ⟨P, 0, none⟩), .pointer (some ⟨K, 0, none⟩)] W fun e w' => e = .returned (.bool (decide (t = 2))) ∧ Below W.heap.size W w')
  (g3 : 3 ≤ t → ∀ W, Below w.heap.size w W → Calls Tryz.prog 93 #[.agg #[.int .i64 num, .int .i64 beg, .int .i64 fin], .pointer (some ⟨S, 0, none⟩)] W fun e w' => e = .returned (.bool (decide (t = 3))) ∧ Below W.heap.size W w')
  (g4 : 4 ≤ t → ∀ W, Below w.heap.size w W → Calls Tryz.prog 96 #[.agg #[.int .i64 num, .int .i64 beg, .int .i64 fin], .pointer (some ⟨S, 0, none⟩), .pointer (some ⟨K, 0, none⟩)] W fun e w' => e = .returned (.bool (decide (t = 4))) ∧ Below W.heap.size W w') :
  Calls Tryz.prog 54 #[.slice (some ⟨R, 0, none⟩) 5 5, .agg #[.int .i64 num, .int .i64 beg, .int .i64 fin]] w fun e w' => e = .returned (ruleErr ad t) ∧ Below w.heap.size w w' := by
 have hb1 : Below w.heap.size w (w.alloc (.cells #[.int .i64 num, .int .i64 beg, .int .i64 fin] 78)) := (Below.refl _ _).alloc (Nat.le_refl _) _
 have e0 : (w.alloc (.cells #[.int .i64 num, .int .i64 beg, .int .i64 fin] 78)).cell? ⟨w.heap.size, 0, none⟩ = some (.int .i64 num) := by simp
 have e1 : (w.alloc (.cells #[.int .i64 num, .int .i64 beg, .int .i64 fin] 78)).cell? ⟨w.heap.size, 1, none⟩ = some (.int .i64 beg) := by simp
 have e2 : (w.alloc (.cells #[.int .i64 num, .int .i64 beg, .int .i64 fin] 78)).cell? ⟨w.heap.size, 2, none⟩ = some (.int .i64 fin) := by simp
 have hrV := hr.later hb1
 obtain ⟨V, hVe⟩ : ∃ V, w.alloc (.cells #[.int .i64 num, .int .i64 beg, .int .i64 fin] 78) = V := ⟨_, rfl⟩
 rw [hVe] at hb1 e0 e1 e2 hrV
 have HV : Hid (Below w.heap.size w V ∧ RulesAt V R S K P ad) := ⟨hb1, hrV⟩
 have HX : Hid (V.cell? ⟨w.heap.size, 0, none⟩ = some (.int .i64 num) ∧ V.cell? ⟨w.heap.size, 1, none⟩ = some (.int .i64 beg) ∧ V.cell? ⟨w.heap.size, 2, none⟩ = some (.int .i64 fin)) := ⟨e0, e1, e2⟩
 have G0 : Hid (0 ≤ t → ∀ W, Below w.heap.size w W → Calls Tryz.prog 90 #[.agg #[.int .i64 num, .int .i64 beg, .int .i64 fin], .pointer (some ⟨S, 0, none⟩)] W fun e w' => e = .returned (.bool (decide (t = 0))) ∧ Below W.heap.size W w') := g0
 have G1 : Hid (1 ≤ t → ∀ W, Below w.heap.size w W → Calls Tryz.prog 91 #[.agg #[.int .i64 num, .int .i64 beg, .int .i64 fin], .pointer (some ⟨K, 0, none⟩), .pointer (some ⟨S, 0, none⟩)] W fun e w' => e = .returned (.bool (decide (t = 1))) ∧ Below W.heap.size W w') := g1
 have G2 : Hid (2 ≤ t → ∀ W, Below w.heap.size w W → Calls Tryz.prog 92 #[.agg #[.int .i64 num, .int .i64 beg, .int .i64 fin], .pointer (some ⟨P, 0, none⟩), .pointer (some ⟨K, 0, none⟩)] W fun e w' => e = .returned (.bool (decide (t = 2))) ∧ Below W.heap.size W w') := g2
 have G3 : Hid (3 ≤ t → ∀ W, Below w.heap.size w W → Calls Tryz.prog 93 #[.agg #[.int .i64 num, .int .i64 beg, .int .i64 fin], .pointer (some ⟨S, 0, none⟩)] W fun e w' => e = .returned (.bool (decide (t = 3))) ∧ Below W.heap.size W w') := g3
 have G4 : Hid (4 ≤ t → ∀ W, Below w.heap.size w W → Calls Tryz.prog 96 #[.agg #[.int .i64 num, .int .i64 beg, .int .i64 fin], .pointer (some ⟨S, 0, none⟩), .pointer (some ⟨K, 0, none⟩)] W fun e w' => e = .returned (.bool (decide (t = 4))) ∧ Below W.heap.size W w') := g4
 clear hr hrV hb1 e0 e1 e2 g0 g1 g2 g3 g4
 have q0 := Tryz.callRules2A
 have q1 := Tryz.callRules3A
 have q2 := Tryz.callRules4A
 have q3 := Tryz.callRules5A
 have q4 := Tryz.callRules6A
 go_enter Tryz.func54, Tryz.ntmps54
 go_wp2_with fail
 go_loopw [9] (fun i wr => ∃ k : Nat, k ≤ 5 ∧ k ≤ t ∧ i = .int .i64 k ∧ Below V.heap.size V wr) (fun i _ => 5 - (intOf i).toNat)
 case atStart => exact ⟨0, by omega, Nat.zero_le _, rfl, Below.refl _ _⟩
 case round =>
  obtain ⟨k, hk, hkt, rfl, hb⟩ := hrel
  have HB : Hid (Below V.heap.size V wr) := hb
  clear hb
  rcases (show k = 0 ∨ k = 1 ∨ k = 2 ∨ k = 3 ∨ k = 4 ∨ k = 5 by omega) with rfl | rfl | rfl | rfl | rfl | rfl
  ·
   have c0 := cell_later HB.out HV.out.2.e0
   have c1 := cell_later HB.out HV.out.2.f0
   have HN : Hid (Below V.heap.size V (wr.alloc (.cells #[.iface 271 (.pointer (some (ad 3))), .func (.func 90) #[] #[.pointer (some ⟨S, 0, none⟩)]] 152))) := HB.out.alloc HB.out.size _
   have x0 := cell_later HN.out HX.out.1
   have x1 := cell_later HN.out HX.out.2.1
   have x2 := cell_later HN.out HX.out.2.2
   have HC := (show Hid (∀ W, Below w.heap.size w W → Calls Tryz.prog 90 #[.agg #[.int .i64 num, .int .i64 beg, .int .i64 fin], .pointer (some ⟨S, 0, none⟩)] W fun e w' => e = .returned (.bool (decide (t = 0))) ∧ Below W.heap.size W w') from G0.out hkt)
   by_cases htj : t = 0
   ·
    have HC' : Hid (∀ W, Below w.heap.size w W → Calls Tryz.prog 90 #[.agg #[.int .i64 num, .int .i64 beg, .int .i64 fin], .pointer (some ⟨S, 0, none⟩)] W fun e w' => e = .returned (.bool true) ∧ Below W.heap.size W w') := fun W hW => by
     have := HC.out W hW
     rwa [decide_eq_true htj] at this
    have HT : Hid (t = 0) := htj
    clear htj HC
    go_wp2_with fail
    refine (HC'.out _ (HV.out.1.trans (HN.out.mono HV.out.1.size))).mono ?_
    rintro e w1 ⟨rfl, hb1⟩
    have HB1 : Hid (Below V.heap.size V w1) := HN.out.trans (hb1.mono HN.out.size)
    have r0 : w1.cell? ⟨wr.heap.size, 0, none⟩ = some (.iface 271 (.pointer (some (ad 3)))) := cell_later hb1 (by simp)
    clear hb1
    go_wp2_with fail
    go_ret
    exact ⟨by rw [HT.out]; rfl, HV.out.1.trans (HB1.out.mono HV.out.1.size)⟩
   ·
    have HC' : Hid (∀ W, Below w.heap.size w W → Calls Tryz.prog 90 #[.agg #[.int .i64 num, .int .i64 beg, .int .i64 fin], .pointer (some ⟨S, 0, none⟩)] W fun e w' => e = .returned (.bool false) ∧ Below W.heap.size W w') := fun W hW => by
     have := HC.out W hW
     rwa [decide_eq_false htj] at this
    have HT : Hid (¬ t = 0) := htj
    clear htj HC
    go_wp2_with fail
    refine (HC'.out _ (HV.out.1.trans (HN.out.mono HV.out.1.size))).mono ?_
    rintro e w1 ⟨rfl, hb1⟩
    have HB1 : Hid (Below V.heap.size V w1) := HN.out.trans (hb1.mono HN.out.size)
    clear hb1
    go_wp2_with fail
    go_roundw
    case rel => exact ⟨1, by omega, by have := HT.out; omega, by go_num, HB1.out⟩
    case measure => simp [intOf]
  ·
   have c0 := cell_later HB.out HV.out.2.e1
   have c1 := cell_later HB.out HV.out.2.f1
   have HN : Hid (Below V.heap.size V (wr.alloc (.cells #[.iface 271 (.pointer (some (ad 4))), .func (.func 91) #[] #[.pointer (some ⟨K, 0, none⟩), .pointer (some ⟨S, 0, none⟩)]] 152))) := HB.out.alloc HB.out.size _
   have x0 := cell_later HN.out HX.out.1
   have x1 := cell_later HN.out HX.out.2.1
   have x2 := cell_later HN.out HX.out.2.2
   have HC := (show Hid (∀ W, Below w.heap.size w W → Calls Tryz.prog 91 #[.agg #[.int .i64 num, .int .i64 beg, .int .i64 fin], .pointer (some ⟨K, 0, none⟩), .pointer (some ⟨S, 0, none⟩)] W fun e w' => e = .returned (.bool (decide (t = 1))) ∧ Below W.heap.size W w') from G1.out hkt)
   by_cases htj : t = 1
   ·
    have HC' : Hid (∀ W, Below w.heap.size w W → Calls Tryz.prog 91 #[.agg #[.int .i64 num, .int .i64 beg, .int .i64 fin], .pointer (some ⟨K, 0, none⟩), .pointer (some ⟨S, 0, none⟩)] W fun e w' => e = .returned (.bool true) ∧ Below W.heap.size W w') := fun W hW => by
     have := HC.out W hW
     rwa [decide_eq_true htj] at this
    have HT : Hid (t = 1) := htj
    clear htj HC
    go_wp2_with fail
    refine (HC'.out _ (HV.out.1.trans (HN.out.mono HV.out.1.size))).mono ?_
    rintro e w1 ⟨rfl, hb1⟩
    have HB1 : Hid (Below V.heap.size V w1) := HN.out.trans (hb1.mono HN.out.size)
    have r0 : w1.cell? ⟨wr.heap.size, 0, none⟩ = some (.iface 271 (.pointer (some (ad 4)))) := cell_later hb1 (by simp)
    clear hb1
    go_wp2_with fail
    go_ret
    exact ⟨by rw [HT.out]; rfl, HV.out.1.trans (HB1.out.mono HV.out.1.size)⟩
   ·
    have HC' : Hid (∀ W, Below w.heap.size w W → Calls Tryz.prog 91 #[.agg #[.int .i64 num, .int .i64 beg, .int .i64 fin], .pointer (some ⟨K, 0, none⟩), .pointer (some ⟨S, 0, none⟩)] W fun e w' => e = .returned (.bool false) ∧ Below W.heap.size W w') := fun W hW => by
     have := HC.out W hW
     rwa [decide_eq_false htj] at this
    have HT : Hid (¬ t = 1) := htj
    clear htj HC
    go_wp2_with fail
    refine (HC'.out _ (HV.out.1.trans (HN.out.mono HV.out.1.size))).mono ?_
    rintro e w1 ⟨rfl, hb1⟩
    have HB1 : Hid (Below V.heap.size V w1) := HN.out.trans (hb1.mono HN.out.size)
    clear hb1
    go_wp2_with fail
    go_roundw
    case rel => exact ⟨2, by omega, by have := HT.out; omega, by go_num, HB1.out⟩
    case measure => simp [intOf]
  ·
   have c0 := cell_later HB.out HV.out.2.e2
   have c1 := cell_later HB.out HV.out.2.f2
   have HN : Hid (Below V.heap.size V (wr.alloc (.cells #[.iface 271 (.pointer (some (ad 2))), .func (.func 92) #[] #[.pointer (some ⟨P, 0, none⟩), .pointer (some ⟨K, 0, none⟩)]] 152))) := HB.out.alloc HB.out.size _
   have x0 := cell_later HN.out HX.out.1
   have x1 := cell_later HN.out HX.out.2.1
   have x2 := cell_later HN.out HX.out.2.2
   have HC := (show Hid (∀ W, Below w.heap.size w W → Calls Tryz.prog 92 #[.agg #[.int .i64 num, .int .i64 beg, .int .i64 fin], .pointer (some ⟨P, 0, none⟩), .pointer (some ⟨K, 0, none⟩)] W fun e w' => e = .returned (.bool (decide (t = 2))) ∧ Below W.heap.size W w') from G2.out hkt)
   by_cases htj : t = 2
   ·
    have HC' : Hid (∀ W, Below w.heap.size w W → Calls Tryz.prog 92 #[.agg #[.int .i64 num, .int .i64 beg, .int .i64 fin], .pointer (some ⟨P, 0, none⟩), .pointer (some ⟨K, 0, none⟩)] W fun e w' => e = .returned (.bool true) ∧ Below W.heap.size W w') := fun W hW => by
     have := HC.out W hW
     rwa [decide_eq_true htj] at this
    have HT : Hid (t = 2) := htj
    clear htj HC
    go_wp2_with fail
    refine (HC'.out _ (HV.out.1.trans (HN.out.mono HV.out.1.size))).mono ?_
    rintro e w1 ⟨rfl, hb1⟩
    have HB1 : Hid (Below V.heap.size V w1) := HN.out.trans (hb1.mono HN.out.size)
    have r0 : w1.cell? ⟨wr.heap.size, 0, none⟩ = some (.iface 271 (.pointer (some (ad 2)))) := cell_later hb1 (by simp)
    clear hb1
    go_wp2_with fail
    go_ret
    exact ⟨by rw [HT.out]; rfl, HV.out.1.trans (HB1.out.mono HV.out.1.size)⟩
   ·
    have HC' : Hid (∀ W, Below w.heap.size w W → Calls Tryz.prog 92 #[.agg #[.int .i64 num, .int .i64 beg, .int .i64 fin], .pointer (some ⟨P, 0, none⟩), .pointer (some ⟨K, 0, none⟩)] W fun e w' => e = .returned (.bool false) ∧ Below W.heap.size W w') := fun W hW => by
     have := HC.out W hW
     rwa [decide_eq_false htj] at this
    have HT : Hid (¬ t = 2) := htj
    clear htj HC
    go_wp2_with fail
    refine (HC'.out _ (HV.out.1.trans (HN.out.mono HV.out.1.size))).mono ?_
    rintro e w1 ⟨rfl, hb1⟩
    have HB1 : Hid (Below V.heap.size V w1) := HN.out.trans (hb1.mono HN.out.size)
    clear hb1
    go_wp2_with fail
    go_roundw
    case rel => exact ⟨3, by omega, by have := HT.out; omega, by go_num, HB1.out⟩
    case measure => simp [intOf]
  ·
   have c0 := cell_later HB.out HV.out.2.e3
   have c1 := cell_later HB.out HV.out.2.f3
   have HN : Hid (Below V.heap.size V (wr.alloc (.cells #[.iface 271 (.pointer (some (ad 6))), .func (.func 93) #[] #[.pointer (some ⟨S, 0, none⟩)]] 152))) := HB.out.alloc HB.out.size _
   have x0 := cell_later HN.out HX.out.1
   have x1 := cell_later HN.out HX.out.2.1
   have x2 := cell_later HN.out HX.out.2.2
   have HC := (show Hid (∀ W, Below w.heap.size w W → Calls Tryz.prog 93 #[.agg #[.int .i64 num, .int .i64 beg, .int .i64 fin], .pointer (some ⟨S, 0, none⟩)] W fun e w' => e = .returned (.bool (decide (t = 3))) ∧ Below W.heap.size W w') from G3.out hkt)
   by_cases htj : t = 3
   ·
    have HC' : Hid (∀ W, Below w.heap.size w W → Calls Tryz.prog 93 #[.agg #[.int .i64 num, .int .i64 beg, .int .i64 fin], .pointer (some ⟨S, 0, none⟩)] W fun e w' => e = .returned (.bool true) ∧ Below W.heap.size W w') := fun W hW => by
     have := HC.out W hW
     rwa [decide_eq_true htj] at this
    have HT : Hid (t = 3) := htj
    clear htj HC
    go_wp2_with fail
    refine (HC'.out _ (HV.out.1.trans (HN.out.mono HV.out.1.size))).mono ?_
    rintro e w1 ⟨rfl, hb1⟩
    have HB1 : Hid (Below V.heap.size V w1) := HN.out.trans (hb1.mono HN.out.size)
    have r0 : w1.cell? ⟨wr.heap.size, 0, none⟩ = some (.iface 271 (.pointer (some (ad 6)))) := cell_later hb1 (by simp)
    clear hb1
    go_wp2_with fail
    go_ret
    exact ⟨by rw [HT.out]; rfl, HV.out.1.trans (HB1.out.mono HV.out.1.size)⟩
   ·
    have HC' : Hid (∀ W, Below w.heap.size w W → Calls Tryz.prog 93 #[.agg #[.int .i64 num, .int .i64 beg, .int .i64 fin], .pointer (some ⟨S, 0, none⟩)] W fun e w' => e = .returned (.bool false) ∧ Below W.heap.size W w') := fun W hW => by
     have := HC.out W hW
     rwa [decide_eq_false htj] at this
    have HT : Hid (¬ t = 3) := htj
    clear htj HC
    go_wp2_with fail
    refine (HC'.out _ (HV.out.1.trans (HN.out.mono HV.out.1.size))).mono ?_
    rintro e w1 ⟨rfl, hb1⟩
    have HB1 : Hid (Below V.heap.size V w1) := HN.out.trans (hb1.mono HN.out.size)
    clear hb1
    go_wp2_with fail
    go_roundw
    case rel => exact ⟨4, by omega, by have := HT.out; omega, by go_num, HB1.out⟩
    case measure => simp [intOf]
  ·
   have c0 := cell_later HB.out HV.out.2.e4
   have c1 := cell_later HB.out HV.out.2.f4
   have HN : Hid (Below V.heap.size V (wr.alloc (.cells #[.iface 271 (.pointer (some (ad 7))), .func (.func 96) #[] #[.pointer (some ⟨S, 0, none⟩), .pointer (some ⟨K, 0, none⟩)]] 152))) := HB.out.alloc HB.out.size _
   have x0 := cell_later HN.out HX.out.1
   have x1 := cell_later HN.out HX.out.2.1
   have x2 := cell_later HN.out HX.out.2.2
   have HC := (show Hid (∀ W, Below w.heap.size w W → Calls Tryz.prog 96 #[.agg #[.int .i64 num, .int .i64 beg, .int .i64 fin], .pointer (some ⟨S, 0, none⟩), .pointer (some ⟨K, 0, none⟩)] W fun e w' => e = .returned (.bool (decide (t = 4))) ∧ Below W.heap.size W w') from G4.out hkt)
   by_cases htj : t = 4
   ·
    have HC' : Hid (∀ W, Below w.heap.size w W → Calls Tryz.prog 96 #[.agg #[.int .i64 num, .int .i64 beg, .int .i64 fin], .pointer (some ⟨S, 0, none⟩), .pointer (some ⟨K, 0, none⟩)] W fun e w' => e = .returned (.bool true) ∧ Below W.heap.size W w') := fun W hW => by
     have := HC.out W hW
     rwa [decide_eq_true htj] at this
    have HT : Hid (t = 4) := htj
    clear htj HC
    go_wp2_with fail
    refine (HC'.out _ (HV.out.1.trans (HN.out.mono HV.out.1.size))).mono ?_
    rintro e w1 ⟨rfl, hb1⟩
    have HB1 : Hid (Below V.heap.size V w1) := HN.out.trans (hb1.mono HN.out.size)
    have r0 : w1.cell? ⟨wr.heap.size, 0, none⟩ = some (.iface 271 (.pointer (some (ad 7)))) := cell_later hb1 (by simp)
    clear hb1
    go_wp2_with fail
    go_ret
    exact ⟨by rw [HT.out]; rfl, HV.out.1.trans (HB1.out.mono HV.out.1.size)⟩
   ·
    have HC' : Hid (∀ W, Below w.heap.size w W → Calls Tryz.prog 96 #[.agg #[.int .i64 num, .int .i64 beg, .int .i64 fin], .pointer (some ⟨S, 0, none⟩), .pointer (some ⟨K, 0, none⟩)] W fun e w' => e = .returned (.bool false) ∧ Below W.heap.size W w') := fun W hW => by
     have := HC.out W hW
     rwa [decide_eq_false htj] at this
    have HT : Hid (¬ t = 4) := htj
    clear htj HC
    go_wp2_with fail
    refine (HC'.out _ (HV.out.1.trans (HN.out.mono HV.out.1.size))).mono ?_
    rintro e w1 ⟨rfl, hb1⟩
    have HB1 : Hid (Below V.heap.size V w1) := HN.out.trans (hb1.mono HN.out.size)
    clear hb1
    go_wp2_with fail
    go_roundw
    case rel => exact ⟨5, by omega, by have := HT.out; omega, by go_num, HB1.out⟩
    case measure => simp [intOf]
  ·
   obtain rfl : t = 5 := by omega
   go_wp2_with fail
   go_ret
   exact ⟨rfl, HV.out.1.trans (HB.out.mono HV.out.1.size)⟩
theorem auFirst (R S K P G D : Nat) (pa : Option Addr) (cap : Nat) (ps : List Pk) (per : Int) (out : List Sn) (ad : Nat → Addr) (w : World) (num beg fin : Int) (c : Int) (h : AuSend w S K P G D pa cap ps per out) (hr : RulesAt w R S K P ad) (ho : OkPks ps) (h1 : 1 ≤ per) (h2 : per ≤ 1000) (ht : -2000000000000000 ≤ beg ∧ beg ≤ 2000000000000000) (hs : SentIs per ps out ⟨num, beg, fin⟩ c) :
  Calls Tryz.prog 54 #[.slice (some ⟨R, 0, none⟩) 5 5, .agg #[.int .i64 num, .int .i64 beg, .int .i64 fin]] w fun e w' => e = .returned (sentOf ad c.toNat) ∧ Below w.heap.size w w' := by
 have key : ∀ t, t ≤ 5 → ruleErr ad t = sentOf ad c.toNat → (∀ W, Below w.heap.size w W → Calls Tryz.prog 90 #[.agg #[.int .i64 num, .int .i64 beg, .int .i64 fin], .pointer (some ⟨S, 0, none⟩)] W fun e w' => e = .returned (.bool (decide (t = 0))) ∧ Below W.heap.size W w') →
   (1 ≤ t → ∃ k : Nat, num = k ∧ k < ps.length ∧ (decide (t = 1) = true ↔ (beg < tickOf ps k ∨ beg < lastFin out)) ∧ (2 ≤ t → (decide (t = 2) = true ↔ fin - beg ≠ per * bytesOf ps k)) ∧ (3 ≤ t → (decide (t = 3) = true ↔ IdlesAt ps out ⟨num, beg, fin⟩)) ∧ (4 ≤ t → (decide (t = 4) = true ↔ OutOfTurn ps out k))) →
   Calls Tryz.prog 54 #[.slice (some ⟨R, 0, none⟩) 5 5, .agg #[.int .i64 num, .int .i64 beg, .int .i64 fin]] w fun e w' => e = .returned (sentOf ad c.toNat) ∧ Below w.heap.size w w' := by
  intro t ht5 he g0 hrest
  have := auFirst_by R S K P ad w num beg fin hr t ht5 (fun _ => g0)
   (fun h' W hW => by
    obtain ⟨k, hk, hkl, b1, b2, b3, b4⟩ := hrest h'
    obtain ⟨q, hq, -⟩ := get_some ps k hkl
    rw [tickOf_get hq] at b1
    exact auOld S K P G D pa cap ps per out W num beg fin (h.later hW) ho.few k hk q hq _ b1)
   (fun h' W hW => by
    obtain ⟨k, hk, hkl, b1, b2, b3, b4⟩ := hrest (by omega)
    obtain ⟨q, hq, -⟩ := get_some ps k hkl
    have b2 := b2 h'
    rw [bytesOf_get hq] at b2
    exact auShape S K P G D pa cap ps per out W num beg fin (h.later hW) ho.few k hk q hq (ho.each _ q hq).1 h1 h2 ht _ b2)
   (fun h' W hW => by
    obtain ⟨k, hk, hkl, b1, b2, b3, b4⟩ := hrest (by omega)
    exact auIdle S K P G D pa cap ps per out W num beg fin (h.later hW) ho.few _ (b3 h'))
   (fun h' W hW => by
    obtain ⟨k, hk, hkl, b1, b2, b3, b4⟩ := hrest (by omega)
    exact auTurn S K P G D pa cap ps per out W num beg fin (h.later hW) ho k hk hkl _ (b4 h'))
  rwa [he] at this
 rcases hs with ⟨rfl, hnum⟩ | ⟨k, hk, hkl, hrest⟩
 · exact key 0 (by omega) rfl (fun W hW => auNone S K P G D pa cap ps per out W num beg fin (h.later hW) _ (.inl ⟨rfl, hnum⟩)) (fun h' => by omega)
 ·
  have hk' : num = (k : Int) := hk
  rcases hrest with ⟨rfl, hd⟩ | ⟨hd, hrest⟩
  · exact key 0 (by omega) rfl (fun W hW => auNone S K P G D pa cap ps per out W num beg fin (h.later hW) _ (.inr ⟨k, hk', hkl, by rw [hd]; rfl⟩)) (fun h' => by omega)
  ·
   have g0 : ∀ t, 0 < t → ∀ W, Below w.heap.size w W → Calls Tryz.prog 90 #[.agg #[.int .i64 num, .int .i64 beg, .int .i64 fin], .pointer (some ⟨S, 0, none⟩)] W fun e w' => e = .returned (.bool (decide (t = 0))) ∧ Below W.heap.size W w' := fun t h0 W hW => auNone S K P G D pa cap ps per out W num beg fin (h.later hW) _ (.inr ⟨k, hk', hkl, by rw [hd, decide_eq_false (by omega)]⟩)
   rcases hrest with ⟨rfl, hold⟩ | ⟨o1, o2, hrest⟩
   · exact key 1 (by omega) rfl (g0 1 (by omega)) (fun _ => ⟨k, hk', hkl, ⟨fun _ => hold, fun _ => rfl⟩, fun h' => by omega, fun h' => by omega, fun h' => by omega⟩)
   ·
    have n1 : ¬ (beg < tickOf ps k ∨ beg < lastFin out) := by
     have o1' : tickOf ps k ≤ beg := o1
     have o2' : lastFin out ≤ beg := o2
     omega
    have no : ∀ t i : Nat, t ≠ i → ∀ {p : Prop}, ¬ p → (decide (t = i) = true ↔ p) := fun t i hti p hp => ⟨fun hh => absurd (of_decide_eq_true hh) hti, fun hh => absurd hh hp⟩
    rcases hrest with ⟨rfl, hsh⟩ | ⟨hsh, hrest⟩
    · exact key 2 (by omega) rfl (g0 2 (by omega)) (fun _ => ⟨k, hk', hkl, no 2 1 (by omega) n1, fun _ => ⟨fun _ => hsh, fun _ => rfl⟩, fun h' => by omega, fun h' => by omega⟩)
    ·
     have n2 : ¬ (fin - beg ≠ per * bytesOf ps k) := fun hh => hh hsh
     rcases hrest with ⟨rfl, hid⟩ | ⟨hid, hrest⟩
     · exact key 3 (by omega) rfl (g0 3 (by omega)) (fun _ => ⟨k, hk', hkl, no 3 1 (by omega) n1, fun _ => no 3 2 (by omega) n2, fun _ => ⟨fun _ => hid, fun _ => rfl⟩, fun h' => by omega⟩)
     ·
      rcases hrest with ⟨rfl, hto⟩ | ⟨rfl, hto⟩
      · exact key 4 (by omega) rfl (g0 4 (by omega)) (fun _ => ⟨k, hk', hkl, no 4 1 (by omega) n1, fun _ => no 4 2 (by omega) n2, fun _ => no 4 3 (by omega) hid, fun _ => ⟨fun _ => hto, fun _ => rfl⟩⟩)
      · exact key 5 (by omega) rfl (g0 5 (by omega)) (fun _ => ⟨k, hk', hkl, no 5 1 (by omega) n1, fun _ => no 5 2 (by omega) n2, fun _ => no 5 3 (by omega) hid, fun _ => no 5 4 (by omega) hto⟩)
end Go.Proofs.YtibhkijaafdkoaaGreatDoor
