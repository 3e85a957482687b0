/- Own facts, put together: no statement of its own. -/
import Derived.Test.YtibhkijaafdkoaaGreatDoorK47
namespace Go.Proofs.YtibhkijaafdkoaaGreatDoor
open Go.RowKit
set_option maxRecDepth 100000 in
set_option maxHeartbeats 2000000 in
theorem auLeft2 (S K P G D : Nat) (pa : Option Addr) (cap : Nat) (ps : List Pk) (per : Int) (out : List Sn) (w : World) (f : Nat) (x1 x2 : Value) (is : Nat → Bool) (b : Bool) (h : AuSend w S K P G D pa cap ps per out) (hn : ps.length ≤ 300)
  (hf : ∀ args W, Sem.run Tryz.prog (callFunc f args) W = .ok (.enter f args) W)
  (hM : ∀ W k, Below w.heap.size w W → k < ps.length → Calls Tryz.prog f #[.int .i64 ((k : Nat) : Int), x1, x2] W fun e w' => e = .returned (.bool (is k)) ∧ Below W.heap.size W w')
  (hb : b = true ↔ ∃ i, i < ps.length ∧ isDone out i = false ∧ is i = true) :
  Calls Tryz.prog 95 #[.pointer (some ⟨G, 0, none⟩), .func (.func f) #[] #[x1, x2]] w fun e w' => e = .returned (.bool b) ∧ Below w.heap.size w w' := by
 have c1 := h.g1
 have HM : Hid (∀ W k, Below w.heap.size w W → k < ps.length → Calls Tryz.prog f #[.int .i64 ((k : Nat) : Int), x1, x2] W fun e w' => e = .returned (.bool (is k)) ∧ Below W.heap.size W w') := hM
 have HD : Hid (∀ W k, Below w.heap.size w W → k < ps.length → W.cell? ⟨D, k, none⟩ = some (.bool (isDone out k))) := fun W k hb hk => cell_later hb (h.done.cell k hk)
 have HB : Hid (b = true ↔ ∃ i, i < ps.length ∧ isDone out i = false ∧ is i = true) := hb
 obtain ⟨n, hnn⟩ : ∃ n, ps.length = n := ⟨_, rfl⟩
 rw [hnn] at hn c1 HM HD HB
 clear h hM hb hnn
 go_enter Tryz.func95, Tryz.ntmps95
 go_wp2_with fail
 go_loopw [12] (fun i wr => ∃ k : Nat, k ≤ n ∧ i = .int .i64 k ∧ (∀ i, i < k → ¬ (isDone out i = false ∧ is i = true)) ∧ Below w.heap.size w wr) (fun i _ => n - (intOf i).toNat)
 case atStart => exact ⟨0, Nat.zero_le _, rfl, fun i h => by omega, Below.refl _ _⟩
 case round =>
  obtain ⟨k, hk, rfl, hno, hbel⟩ := hrel
  have HR : Hid ((∀ i, i < k → ¬ (isDone out i = false ∧ is i = true)) ∧ Below w.heap.size w wr) := ⟨hno, hbel⟩
  clear hno
  by_cases hkn : k < n
  ·
   have dk := HD.out wr k hbel hkn
   clear hbel
   cases hd : isDone out k with
   | true =>
    rw [hd] at dk
    have HN : Hid (¬ (isDone out k = false ∧ is k = true)) := fun h => by rw [hd] at h; cases h.1
    clear hd
    go_wp2_with fail
    go_roundw
    case rel =>
     refine ⟨k + 1, by omega, by go_num, fun i hi => ?_, HR.out.2⟩
     rcases Nat.lt_or_ge i k with h | h
     · exact HR.out.1 i h
     ·
      obtain rfl : i = k := by omega
      exact HN.out
    case measure => simp [intOf]; omega
   | false =>
    rw [hd] at dk
    have HDk : Hid (isDone out k = false) := hd
    clear hd
    have HC := (show Hid (Calls Tryz.prog f #[.int .i64 ((k : Nat) : Int), x1, x2] wr fun e w' => e = .returned (.bool (is k)) ∧ Below wr.heap.size wr w') from HM.out wr k HR.out.2 hkn)
    cases hi : is k with
    | true =>
     rw [hi] at HC
     have HI : Hid (is k = true) := hi
     clear hi
     go_wp2_with fail
     refine HC.out.mono ?_
     rintro e w1 ⟨rfl, hb1⟩
     have HB1 : Hid (Below w.heap.size w w1) := HR.out.2.trans (hb1.mono HR.out.2.size)
     clear hb1
     go_wp2_with fail
     go_ret
     exact ⟨by rw [HB.out.2 ⟨k, hkn, HDk.out, HI.out⟩]; rfl, HB1.out⟩
    | false =>
     rw [hi] at HC
     have HI : Hid (is k = false) := hi
     clear hi
     go_wp2_with fail
     refine HC.out.mono ?_
     rintro e w1 ⟨rfl, hb1⟩
     have HB1 : Hid (Below w.heap.size w w1) := HR.out.2.trans (hb1.mono HR.out.2.size)
     clear hb1
     go_wp2_with fail
     go_roundw
     case rel =>
      refine ⟨k + 1, by omega, by go_num, fun i hi => ?_, HB1.out⟩
      rcases Nat.lt_or_ge i k with h | h
      · exact HR.out.1 i h
      ·
       obtain rfl : i = k := by omega
       exact fun h => by have := HI.out; rw [h.2] at this; cases this
     case measure => simp [intOf]; omega
  ·
   clear hbel
   have HF : Hid (b = false) := by
    cases hbb : b with
    | false => rfl
    | true =>
     obtain ⟨i, h1, h2, h3⟩ := HB.out.1 hbb
     exact absurd ⟨h2, h3⟩ (HR.out.1 i (by omega))
   go_wp2_with fail
   go_ret
   exact ⟨by rw [HF.out]; rfl, HR.out.2⟩
set_option maxRecDepth 100000 in
set_option maxHeartbeats 2000000 in
theorem auLeft3 (S K P G D : Nat) (pa : Option Addr) (cap : Nat) (ps : List Pk) (per : Int) (out : List Sn) (w : World) (f : Nat) (x1 x2 x3 : Value) (is : Nat → Bool) (b : Bool) (h : AuSend w S K P G D pa cap ps per out) (hn : ps.length ≤ 300)
  (hf : ∀ args W, Sem.run Tryz.prog (callFunc f args) W = .ok (.enter f args) W)
  (hM : ∀ W k, Below w.heap.size w W → k < ps.length → Calls Tryz.prog f #[.int .i64 ((k : Nat) : Int), x1, x2, x3] W fun e w' => e = .returned (.bool (is k)) ∧ Below W.heap.size W w')
  (hb : b = true ↔ ∃ i, i < ps.length ∧ isDone out i = false ∧ is i = true) :
  Calls Tryz.prog 95 #[.pointer (some ⟨G, 0, none⟩), .func (.func f) #[] #[x1, x2, x3]] w fun e w' => e = .returned (.bool b) ∧ Below w.heap.size w w' := by
 have c1 := h.g1
 have HM : Hid (∀ W k, Below w.heap.size w W → k < ps.length → Calls Tryz.prog f #[.int .i64 ((k : Nat) : Int), x1, x2, x3] W fun e w' => e = .returned (.bool (is k)) ∧ Below W.heap.size W w') := hM
 have HD : Hid (∀ W k, Below w.heap.size w W → k < ps.length → W.cell? ⟨D, k, none⟩ = some (.bool (isDone out k))) := fun W k hb hk => cell_later hb (h.done.cell k hk)
 have HB : Hid (b = true ↔ ∃ i, i < ps.length ∧ isDone out i = false ∧ is i = true) := hb
 obtain ⟨n, hnn⟩ : ∃ n, ps.length = n := ⟨_, rfl⟩
 rw [hnn] at hn c1 HM HD HB
 clear h hM hb hnn
 go_enter Tryz.func95, Tryz.ntmps95
 go_wp2_with fail
 go_loopw [12] (fun i wr => ∃ k : Nat, k ≤ n ∧ i = .int .i64 k ∧ (∀ i, i < k → ¬ (isDone out i = false ∧ is i = true)) ∧ Below w.heap.size w wr) (fun i _ => n - (intOf i).toNat)
 case atStart => exact ⟨0, Nat.zero_le _, rfl, fun i h => by omega, Below.refl _ _⟩
 case round =>
  obtain ⟨k, hk, rfl, hno, hbel⟩ := hrel
  have HR : Hid ((∀ i, i < k → ¬ (isDone out i = false ∧ is i = true)) ∧ Below w.heap.size w wr) := ⟨hno, hbel⟩
  clear hno
  by_cases hkn : k < n
  ·
   have dk := HD.out wr k hbel hkn
   clear hbel
   cases hd : isDone out k with
   | true =>
    rw [hd] at dk
    have HN : Hid (¬ (isDone out k = false ∧ is k = true)) := fun h => by rw [hd] at h; cases h.1
    clear hd
    go_wp2_with fail
    go_roundw
    case rel =>
     refine ⟨k + 1, by omega, by go_num, fun i hi => ?_, HR.out.2⟩
     rcases Nat.lt_or_ge i k with h | h
     · exact HR.out.1 i h
     ·
      obtain rfl : i = k := by omega
      exact HN.out
    case measure => simp [intOf]; omega
   | false =>
    rw [hd] at dk
    have HDk : Hid (isDone out k = false) := hd
    clear hd
    have HC := (show Hid (Calls Tryz.prog f #[.int .i64 ((k : Nat) : Int), x1, x2, x3] wr fun e w' => e = .returned (.bool (is k)) ∧ Below wr.heap.size wr w') from HM.out wr k HR.out.2 hkn)
    cases hi : is k with
    | true =>
     rw [hi] at HC
     have HI : Hid (is k = true) := hi
     clear hi
     go_wp2_with fail
     refine HC.out.mono ?_
     rintro e w1 ⟨rfl, hb1⟩
     have HB1 : Hid (Below w.heap.size w w1) := HR.out.2.trans (hb1.mono HR.out.2.size)
     clear hb1
     go_wp2_with fail
     go_ret
     exact ⟨by rw [HB.out.2 ⟨k, hkn, HDk.out, HI.out⟩]; rfl, HB1.out⟩
    | false =>
     rw [hi] at HC
     have HI : Hid (is k = false) := hi
     clear hi
     go_wp2_with fail
     refine HC.out.mono ?_
     rintro e w1 ⟨rfl, hb1⟩
     have HB1 : Hid (Below w.heap.size w w1) := HR.out.2.trans (hb1.mono HR.out.2.size)
     clear hb1
     go_wp2_with fail
     go_roundw
     case rel =>
      refine ⟨k + 1, by omega, by go_num, fun i hi => ?_, HB1.out⟩
      rcases Nat.lt_or_ge i k with h | h
      · exact HR.out.1 i h
      ·
       obtain rfl : i = k := by omega
       exact fun h => by have := HI.out; rw [h.2] at this; cases this
     case measure => simp [intOf]; omega
  ·
   clear hbel
   have HF : Hid (b = false) := by
    cases hbb : b with
    | false => rfl
    | true =>
     obtain ⟨i, h1, h2, h3⟩ := HB.out.1 hbb
     exact absurd ⟨h2, h3⟩ (HR.out.1 i (by omega))
   go_wp2_with fail
   go_ret
   exact ⟨by rw [HF.out]; rfl, HR.out.2⟩
end Go.Proofs.YtibhkijaafdkoaaGreatDoor

namespace Go.Proofs.YtibhkijaafdkoaaGreatDoor
open Go.RowKit
theorem Tryz.callRules51 (args : Array Value) (W : World) : Sem.run Tryz.prog (callFunc 94 args) W = .ok (.enter 94 args) W := by kernel_rfl
section
variable (S K P G D : Nat) (pa : Option Addr) (cap : Nat) (ps : List Pk) (per : Int) (out : List Sn) (w : World) (num beg fin : Int)
set_option maxRecDepth 100000 in
set_option maxHeartbeats 2000000 in
theorem auCome (h : AuSend w S K P G D pa cap ps per out) (X : Nat) (hx : w.cell? ⟨X, 1, none⟩ = some (.int .i64 beg)) (k : Nat) (hk : k < ps.length) :
  Calls Tryz.prog 94 #[.int .i64 (k : Int), .pointer (some ⟨S, 0, none⟩), .pointer (some ⟨X, 0, none⟩)] w fun e w' => e = .returned (.bool (decide (tickOf ps k < beg))) ∧ Below w.heap.size w w' := by
 obtain ⟨q, hq, -⟩ := get_some ps k hk
 obtain ⟨b2, o2, rfl, -, hc2⟩ := h.pks.place (by omega)
 have c1 := h.s
 have c2 := h.g0
 have d2 := (hc2 k q hq).2.2
 rw [tickOf_get hq]
 obtain ⟨x2, hx2⟩ : ∃ x, q.tick = x := ⟨_, rfl⟩
 rw [hx2] at d2 ⊢
 obtain ⟨n, hnn⟩ : ∃ n, ps.length = n := ⟨_, rfl⟩
 rw [hnn] at hk c2
 clear h hc2 hq hnn hx2
 go_enter Tryz.func94, Tryz.ntmps94
 go_wp2_with fail
 go_quiet (fail)
 go_wp2_with fail
 go_ret
 exact ⟨rfl, below_drewN (Below.refl _ _) _⟩
set_option maxRecDepth 100000 in
set_option maxHeartbeats 2000000 in
theorem auIdle (h : AuSend w S K P G D pa cap ps per out) (hn : ps.length ≤ 300) (b : Bool) (hb : b = true ↔ IdlesAt ps out ⟨num, beg, fin⟩) :
  Calls Tryz.prog 93 #[.agg #[.int .i64 num, .int .i64 beg, .int .i64 fin], .pointer (some ⟨S, 0, none⟩)] w fun e w' => e = .returned (.bool b) ∧ Below w.heap.size w w' := by
 have hb1 : Below w.heap.size w (w.alloc (.cells #[.int .i64 num, .int .i64 beg, .int .i64 fin] 78)) := (Below.refl _ _).alloc (Nat.le_refl _) _
 have e1 : (w.alloc (.cells #[.int .i64 num, .int .i64 beg, .int .i64 fin] 78)).cell? ⟨w.heap.size, 1, none⟩ = some (.int .i64 beg) := by simp
 have c1 := cell_later hb1 h.s
 have c3 := cell_later hb1 h.g2
 have hV := h.later hb1
 obtain ⟨V, hVe⟩ : ∃ V, w.alloc (.cells #[.int .i64 num, .int .i64 beg, .int .i64 fin] 78) = V := ⟨_, rfl⟩
 rw [hVe] at hb1 e1 c1 c3 hV
 have HV : Hid (Below w.heap.size w V) := hb1
 have HS : Hid (AuSend V S K P G D pa cap ps per out) := hV
 have y1 := fun g : Later V => g.cell e1
 have y3 := fun g : Later V => g.cell c1
 have y5 := fun g : Later V => g.cell c3
 have hne : Nonempty (Later V) := ⟨⟨V, Below.refl _ _⟩⟩
 have HL : Hid (lastFin out < beg → ∀ g : Later V, Calls Tryz.prog 95 #[.pointer (some ⟨G, 0, none⟩), .func (.func 94) #[] #[.pointer (some ⟨S, 0, none⟩), .pointer (some ⟨w.heap.size, 0, none⟩)]] g.w fun e w' => e = .returned (.bool b) ∧ ∃ g' : Later V, w' = g'.w) := fun hlt => Later.calls fun W hW => by
  refine auLeft2 S K P G D pa cap ps per out W 94 _ _ (fun i => decide (tickOf ps i < beg)) b (HS.out.later hW) hn Tryz.callRules51 (fun W' k hW' hk => ?_) ?_
  · exact auCome S K P G D pa cap ps per out W' beg ((HS.out.later hW).later hW') w.heap.size (cell_later hW' (cell_later hW e1)) k hk
  ·
   rw [hb]
   unfold IdlesAt
   constructor
   ·
    rintro ⟨-, i, h1, h2, h3⟩
    exact ⟨i, h1, h2, by simpa using h3⟩
   ·
    rintro ⟨i, h1, h2, h3⟩
    exact ⟨hlt, i, h1, h2, by simpa using h3⟩
 have HN : Hid (¬ lastFin out < beg → b = false) := fun hlt => Bool.eq_false_iff.2 fun hh => hlt (hb.1 hh).1
 obtain ⟨lf, hlf⟩ : ∃ lf, lastFin out = lf := ⟨_, rfl⟩
 rw [hlf] at c3 HL HN y5
 clear h hn hb hV hb1 hlf
 by_cases h1 : lf < beg
 ·
  have d1 : decide (lf < beg) = true := by simpa using h1
  have HL' : Hid (∀ g : Later V, Calls Tryz.prog 95 #[.pointer (some ⟨G, 0, none⟩), .func (.func 94) #[] #[.pointer (some ⟨S, 0, none⟩), .pointer (some ⟨w.heap.size, 0, none⟩)]] g.w fun e w' => e = .returned (.bool b) ∧ ∃ g' : Later V, w' = g'.w) := HL.out h1
  clear h1
  go_enter Tryz.func93, Tryz.ntmps93
  go_wp2_with fail
  refine wp_region_later (by kernel_rfl) (by kernel_rfl) ?_
  repeat (go_big_quiet_step (exact HL'.out _))
  refine wpQuiet_nil ?_
  rintro _ ⟨gq, rfl⟩
  go_wp2_with fail
  go_ret
  exact ⟨rfl, HV.out.trans (gq.bel.mono HV.out.size)⟩
 ·
  obtain rfl := HN.out h1
  have d1 : decide (lf < beg) = false := by simpa using h1
  clear h1
  go_enter Tryz.func93, Tryz.ntmps93
  go_wp2_with fail
  refine wp_region_later (by kernel_rfl) (by kernel_rfl) ?_
  repeat (go_big_quiet_step (fail))
  refine wpQuiet_nil ?_
  rintro _ ⟨gq, rfl⟩
  go_wp2_with fail
  go_ret
  exact ⟨rfl, HV.out.trans (gq.bel.mono HV.out.size)⟩
end
end Go.Proofs.YtibhkijaafdkoaaGreatDoor

namespace Go.Proofs.YtibhkijaafdkoaaGreatDoor
open Go.RowKit
theorem Tryz.callRules61 (args : Array Value) (W : World) : Sem.run Tryz.prog (callFunc 97 args) W = .ok (.enter 97 args) W := by kernel_rfl
section
variable (S K P G D : Nat) (pa : Option Addr) (cap : Nat) (ps : List Pk) (per : Int) (out : List Sn) (w : World) (num beg fin : Int)
set_option maxRecDepth 100000 in
set_option maxHeartbeats 2000000 in
theorem auAhead (h : AuSend w S K P G D pa cap ps per out) (ho : OkPks ps) (X : Nat) (hx0 : w.cell? ⟨X, 0, none⟩ = some (.int .i64 num)) (hx1 : w.cell? ⟨X, 1, none⟩ = some (.int .i64 beg)) (hx2 : w.cell? ⟨X, 2, none⟩ = some (.int .i64 fin)) (k : Nat) (hk : num = k) (hkl : k < ps.length) (i : Nat) (hi : i < ps.length) :
  Calls Tryz.prog 97 #[.int .i64 (i : Int), .pointer (some ⟨X, 0, none⟩), .pointer (some ⟨S, 0, none⟩), .pointer (some ⟨K, 0, none⟩)] w fun e w' => e = .returned (.bool (decide (i < k ∧ flowOf ps i = flowOf ps k))) ∧ Below w.heap.size w w' := by
 obtain ⟨q, hq, -⟩ := get_some ps k hkl
 obtain ⟨p, hp, -⟩ := get_some ps i hi
 have hn := ho.few
 have oq := okPk_true (ho.each _ q hq).1
 have op := okPk_true (ho.each _ p hp).1
 have HP : Hid (∀ W, Below w.heap.size w W → Calls Tryz.prog 89 #[.agg #[.int .i64 num, .int .i64 beg, .int .i64 fin], .pointer (some ⟨S, 0, none⟩)] W fun e w' => e = .returned (.agg #[.int .i64 q.flow, .int .i64 q.size, .int .i64 q.tick]) ∧ Below W.heap.size W w') := fun W hb => auPacket S K P G D pa cap ps per out W num beg fin (h.later hb) hn k hk q hq
 subst hk
 obtain ⟨b2, o2, rfl, -, hc2⟩ := h.pks.place (by omega)
 have c1 := h.s
 have c2 := h.g0
 have c3 := h.k
 have d0 := (hc2 i p hp).1
 rw [flowOf_get hp, flowOf_get hq]
 obtain ⟨x0, hq0⟩ : ∃ x, q.flow = x := ⟨_, rfl⟩
 obtain ⟨x1, hq1⟩ : ∃ x, q.size = x := ⟨_, rfl⟩
 obtain ⟨x2, hq2⟩ : ∃ x, q.tick = x := ⟨_, rfl⟩
 obtain ⟨z, hz⟩ : ∃ x, p.flow = x := ⟨_, rfl⟩
 rw [hq0, hq1, hq2] at HP
 rw [hz] at d0 op
 rw [hq0] at oq
 have oq0 : 0 ≤ x0 := by omega
 have op0 : 0 ≤ z := by omega
 rw [hz, hq0]
 obtain ⟨n, hnn⟩ : ∃ n, ps.length = n := ⟨_, rfl⟩
 rw [hnn] at hi c2
 have y0 := fun g : Later w => g.cell hx0
 have y1 := fun g : Later w => g.cell hx1
 have y2 := fun g : Later w => g.cell hx2
 have y3 := fun g : Later w => g.cell c1
 have y4 := fun g : Later w => g.cell c2
 have y5 := fun g : Later w => g.cell c3
 have y6 := fun g : Later w => g.cell d0
 have HP' : Hid (∀ g : Later w, Calls Tryz.prog 89 #[.agg #[.int .i64 (k : Int), .int .i64 beg, .int .i64 fin], .pointer (some ⟨S, 0, none⟩)] g.w fun e w' => e = .returned (.agg #[.int .i64 x0, .int .i64 x1, .int .i64 x2]) ∧ ∃ g' : Later w, w' = g'.w) := Later.calls fun W hb => HP.out W hb
 have hne : Nonempty (Later w) := ⟨⟨w, Below.refl _ _⟩⟩
 have hfl := fun W => Tryz.pktField0 x0 x1 x2 W
 clear h hc2 hq hp hnn hq0 hq1 hq2 hz HP hn hkl oq op ho
 by_cases h1 : i < k
 ·
  have d1 : decide ((i : Int) < (k : Int)) = true := by simpa using h1
  have d2 : decide (i < k) = true := by simpa using h1
  have HE : Hid (decide (i < k ∧ z.toNat = x0.toNat) = (z == x0)) := by
   show _ = _
   by_cases hzx : z = x0
   · simp [h1, hzx]
   ·
    have : ¬ z.toNat = x0.toNat := by omega
    simp [hzx, this]
  clear h1
  go_enter Tryz.func97, Tryz.ntmps97
  go_wp2_with fail
  refine wp_region_later (by kernel_rfl) (by kernel_rfl) ?_
  repeat (go_big_quiet_step (exact HP'.out _))
  refine wpQuiet_nil ?_
  rintro _ ⟨gq, rfl⟩
  go_wp2_with fail
  go_ret
  refine ⟨?_, gq.bel⟩
  rw [HE.out]
  rfl
 ·
  have d1 : decide ((i : Int) < (k : Int)) = false := by simpa using h1
  have d2 : decide (i < k) = false := by simpa using h1
  have HE : Hid (decide (i < k ∧ z.toNat = x0.toNat) = false) := by
   show _ = _
   simp [h1]
  clear h1
  go_enter Tryz.func97, Tryz.ntmps97
  go_wp2_with fail
  refine wp_region_later (by kernel_rfl) (by kernel_rfl) ?_
  repeat (go_big_quiet_step (fail))
  refine wpQuiet_nil ?_
  rintro _ ⟨gq, rfl⟩
  go_wp2_with fail
  go_ret
  refine ⟨?_, gq.bel⟩
  rw [HE.out]
  rfl
set_option maxRecDepth 100000 in
set_option maxHeartbeats 2000000 in
theorem auTurn (h : AuSend w S K P G D pa cap ps per out) (ho : OkPks ps) (k : Nat) (hk : num = k) (hkl : k < ps.length) (b : Bool) (hb : b = true ↔ OutOfTurn ps out k) :
  Calls Tryz.prog 96 #[.agg #[.int .i64 num, .int .i64 beg, .int .i64 fin], .pointer (some ⟨S, 0, none⟩), .pointer (some ⟨K, 0, none⟩)] w fun e w' => e = .returned (.bool b) ∧ Below w.heap.size w w' := by
 have hb1 : Below w.heap.size w (w.alloc (.cells #[.int .i64 num, .int .i64 beg, .int .i64 fin] 78)) := (Below.refl _ _).alloc (Nat.le_refl _) _
 have e0 : (w.alloc (.cells #[.int .i64 num, .int .i64 beg, .int .i64 fin] 78)).cell? ⟨w.heap.size, 0, none⟩ = some (.int .i64 num) := by simp
 have e1 : (w.alloc (.cells #[.int .i64 num, .int .i64 beg, .int .i64 fin] 78)).cell? ⟨w.heap.size, 1, none⟩ = some (.int .i64 beg) := by simp
 have e2 : (w.alloc (.cells #[.int .i64 num, .int .i64 beg, .int .i64 fin] 78)).cell? ⟨w.heap.size, 2, none⟩ = some (.int .i64 fin) := by simp
 have c1 := cell_later hb1 h.s
 have hV := h.later hb1
 have HV : Hid (Below w.heap.size w (w.alloc (.cells #[.int .i64 num, .int .i64 beg, .int .i64 fin] 78))) := hb1
 have HL : Hid (Calls Tryz.prog 95 #[.pointer (some ⟨G, 0, none⟩), .func (.func 97) #[] #[.pointer (some ⟨w.heap.size, 0, none⟩), .pointer (some ⟨S, 0, none⟩), .pointer (some ⟨K, 0, none⟩)]] (w.alloc (.cells #[.int .i64 num, .int .i64 beg, .int .i64 fin] 78)) fun e w' => e = .returned (.bool b) ∧ Below (w.alloc (.cells #[.int .i64 num, .int .i64 beg, .int .i64 fin] 78)).heap.size (w.alloc (.cells #[.int .i64 num, .int .i64 beg, .int .i64 fin] 78)) w') := by
  refine auLeft3 S K P G D pa cap ps per out _ 97 _ _ _ (fun i => decide (i < k ∧ flowOf ps i = flowOf ps k)) b hV ho.few Tryz.callRules61 (fun W' i hW' hi => ?_) ?_
  · exact auAhead S K P G D pa cap ps per out W' num beg fin (hV.later hW') ho w.heap.size (cell_later hW' e0) (cell_later hW' e1) (cell_later hW' e2) k hk hkl i hi
  ·
   rw [hb]
   unfold OutOfTurn
   constructor
   ·
    rintro ⟨i, h1, h2, h3⟩
    exact ⟨i, by omega, h2, by simpa using ⟨h1, h3⟩⟩
   ·
    rintro ⟨i, -, h2, h3⟩
    have h3' : i < k ∧ flowOf ps i = flowOf ps k := by simpa using h3
    exact ⟨i, h3'.1, h2, h3'.2⟩
 clear h ho hb hV hb1 hk hkl e0 e1 e2
 go_enter Tryz.func96, Tryz.ntmps96
 go_wp2_with fail
 refine HL.out.mono ?_
 rintro e w2 ⟨rfl, hb2⟩
 have HB : Hid (Below w.heap.size w w2) := HV.out.trans (hb2.mono HV.out.size)
 clear hb2
 go_wp2_with fail
 go_ret
 exact ⟨rfl, HB.out⟩
end
end Go.Proofs.YtibhkijaafdkoaaGreatDoor
