/- Own facts, put together: no statement of its own. -/
import Derived.BigRegion
import Derived.Deep.LoopGhost
import Derived.BigQuiet
import Derived.Laws.EntriesVeiled
import Derived.Test.YtolbmkniafkeaaaDoorCAllAudits
import Derived.Test.YtolbmkniafkeaaaDoorCAllLeasts
import Derived.Test.YtolbmkniafkeaaaDoorCAllPkts
import Derived.Test.YtolbmkniafkeaaaDoorCUtil
import Derived.Test.YtolbmkniafkeaaaDoorCAllErrs

/- What an audit holds in memory: what was sent so far, and the variables that its rules hold. -/
namespace Go.Proofs.YtolbmkniafkeaaaDoor
open Go.RowKit

/-- What was sent so far (G: its struct, D: its row of bools), and the rules' own variables. -/
structure AuSend (w : World) (S K P G D : Nat) (pa : Option Addr) (cap : Nat) (ps : List Pk) (per : Int) (out : List Sn) : Prop where
  s : w.cell? ⟨S, 0, none⟩ = some (.pointer (some ⟨G, 0, none⟩))
  k : w.cell? ⟨K, 0, none⟩ = some (.func (.func 47) #[] #[.pointer (some ⟨S, 0, none⟩)])
  p : w.cell? ⟨P, 0, none⟩ = some (.int .i64 per)
  g0 : w.cell? ⟨G, 0, none⟩ = some (.slice pa ps.length cap)
  g1 : w.cell? ⟨G, 1, none⟩ = some (.slice (some ⟨D, 0, none⟩) ps.length ps.length)
  g2 : w.cell? ⟨G, 2, none⟩ = some (.int .i64 (lastFin out))
  pks : LiesP w pa ps
  done : DoneAt w D ps.length out
theorem AuSend.later {w w' : World} {S K P G D : Nat} {pa : Option Addr} {cap : Nat} {ps : List Pk} {per : Int} {out : List Sn} (h : AuSend w S K P G D pa cap ps per out) (hb : Below w.heap.size w w') : AuSend w' S K P G D pa cap ps per out :=
  ⟨cell_later hb h.s, cell_later hb h.k, cell_later hb h.p, cell_later hb h.g0, cell_later hb h.g1, cell_later hb h.g2, h.pks.below hb, h.done.of_block (hb.block D h.done.lt) hb.size⟩

section
variable (S K P G D : Nat) (pa : Option Addr) (cap : Nat) (ps : List Pk) (per : Int) (out : List Sn) (w : World) (num beg fin : Int)
set_option maxRecDepth 100000 in
set_option maxHeartbeats 2000000 in
/-- The packet that one names. -/
theorem auPacket (h : AuSend w S K P G D pa cap ps per out) (hn : ps.length ≤ 300) (k : Nat) (hk : num = k) (q : Pk) (hq : ps[k]? = some q) :
    Calls Tryd.prog 47 #[.agg #[.int .i64 num, .int .i64 beg, .int .i64 fin], .pointer (some ⟨S, 0, none⟩)] w fun e w' => e = .returned (.agg #[.int .i64 q.flow, .int .i64 q.size, .int .i64 q.tick]) ∧ Below w.heap.size w w' := by
  subst hk
  have hkl := lt_of_get hq
  obtain ⟨b2, o2, rfl, -, hc2⟩ := h.pks.place (by omega)
  have hb1 : Below w.heap.size w ((w.alloc (.cells #[.int .i64 (k : Int), .int .i64 beg, .int .i64 fin] 44)).alloc (.cells #[.int .i64 0, .int .i64 0, .int .i64 0] 42)) := ((Below.refl _ _).alloc (Nat.le_refl _) _).alloc (by simp) _
  have e0 : ((w.alloc (.cells #[.int .i64 (k : Int), .int .i64 beg, .int .i64 fin] 44)).alloc (.cells #[.int .i64 0, .int .i64 0, .int .i64 0] 42)).cell? ⟨w.heap.size, 0, none⟩ = some (.int .i64 (k : Int)) := cell_later ((Below.refl _ _).alloc (Nat.le_refl _) _) (by simp)
  have hs : (w.alloc (.cells #[.int .i64 (k : Int), .int .i64 beg, .int .i64 fin] 44)).heap.size = w.heap.size + 1 := by simp
  have z0 : ((w.alloc (.cells #[.int .i64 (k : Int), .int .i64 beg, .int .i64 fin] 44)).alloc (.cells #[.int .i64 0, .int .i64 0, .int .i64 0] 42)).cell? ⟨w.heap.size + 1, 0, none⟩ = some (.int .i64 0) := by rw [World.cell?_alloc_at _ _ _ _ hs.symm]; rfl
  have z1 : ((w.alloc (.cells #[.int .i64 (k : Int), .int .i64 beg, .int .i64 fin] 44)).alloc (.cells #[.int .i64 0, .int .i64 0, .int .i64 0] 42)).cell? ⟨w.heap.size + 1, 1, none⟩ = some (.int .i64 0) := by rw [World.cell?_alloc_at _ _ _ _ hs.symm]; rfl
  have z2 : ((w.alloc (.cells #[.int .i64 (k : Int), .int .i64 beg, .int .i64 fin] 44)).alloc (.cells #[.int .i64 0, .int .i64 0, .int .i64 0] 42)).cell? ⟨w.heap.size + 1, 2, none⟩ = some (.int .i64 0) := by rw [World.cell?_alloc_at _ _ _ _ hs.symm]; rfl
  have zf : ∀ i, ((w.alloc (.cells #[.int .i64 (k : Int), .int .i64 beg, .int .i64 fin] 44)).alloc (.cells #[.int .i64 0, .int .i64 0, .int .i64 0] 42)).frozen? ⟨w.heap.size + 1, i, none⟩ = false := fun i => by
    have := World.frozen?_alloc_new (w.alloc (.cells #[.int .i64 (k : Int), .int .i64 beg, .int .i64 fin] 44)) #[.int .i64 0, .int .i64 0, .int .i64 0] 42 i
    rwa [hs] at this
  have c1 := cell_later hb1 h.s
  have c2 := cell_later hb1 h.g0
  have d0 := cell_later hb1 (hc2 k q hq).1
  have d1 := cell_later hb1 (hc2 k q hq).2.1
  have d2 := cell_later hb1 (hc2 k q hq).2.2
  obtain ⟨n, hnn⟩ : ∃ n, ps.length = n := ⟨_, rfl⟩
  rw [hnn] at hkl c2 hn
  obtain ⟨x0, hx0⟩ : ∃ x, q.flow = x := ⟨_, rfl⟩
  obtain ⟨x1, hx1⟩ : ∃ x, q.size = x := ⟨_, rfl⟩
  obtain ⟨x2, hx2⟩ : ∃ x, q.tick = x := ⟨_, rfl⟩
  rw [hx0] at d0 ⊢
  rw [hx1] at d1 ⊢
  rw [hx2] at d2 ⊢
  obtain ⟨V, hV⟩ : ∃ V, (w.alloc (.cells #[.int .i64 (k : Int), .int .i64 beg, .int .i64 fin] 44)).alloc (.cells #[.int .i64 0, .int .i64 0, .int .i64 0] 42) = V := ⟨_, rfl⟩
  rw [hV] at hb1 e0 z0 z1 z2 zf c1 c2 d0 d1 d2
  have f0 := zf 0
  have f1 := zf 1
  have f2 := zf 2
  have HV : Hid (Below w.heap.size w V) := hb1
  have hk0 : (k : Int) < n := by omega
  clear h hc2 hq hnn hx0 hx1 hx2 hs zf hb1
  go_enter Tryd.func47, Tryd.ntmps47
  go_wp2_with fail
  go_region
  go_wp2_with fail
  exact bodyPost_ret (v := .agg #[.int .i64 x0, .int .i64 x1, .int .i64 x2]) (by simp [results, Tryd.results47, go_sem, z0, z1, z2]) rfl ⟨rfl, below_drewN (((HV.out.setCell (p := ⟨w.heap.size + 1, 0, none⟩) (Nat.le_succ _) _).setCell (p := ⟨w.heap.size + 1, 1, none⟩) (Nat.le_succ _) _).setCell (p := ⟨w.heap.size + 1, 2, none⟩) (Nat.le_succ _) _) 1⟩

set_option maxRecDepth 100000 in
set_option maxHeartbeats 2000000 in
/-- No such packet, or it was sent. -/
theorem auNone (h : AuSend w S K P G D pa cap ps per out) (b : Bool) (hb : (b = true ∧ (num < 0 ∨ (ps.length : Int) ≤ num)) ∨ ∃ k : Nat, num = k ∧ k < ps.length ∧ b = isDone out k) :
    Calls Tryd.prog 48 #[.agg #[.int .i64 num, .int .i64 beg, .int .i64 fin], .pointer (some ⟨S, 0, none⟩)] w fun e w' => e = .returned (.bool b) ∧ Below w.heap.size w w' := by
  have hb1 : Below w.heap.size w (w.alloc (.cells #[.int .i64 num, .int .i64 beg, .int .i64 fin] 44)) := (Below.refl _ _).alloc (Nat.le_refl _) _
  have e0 : (w.alloc (.cells #[.int .i64 num, .int .i64 beg, .int .i64 fin] 44)).cell? ⟨w.heap.size, 0, none⟩ = some (.int .i64 num) := by simp
  have c1 := cell_later hb1 h.s
  have c2 := cell_later hb1 h.g0
  have c3 := cell_later hb1 h.g1
  have HD : Hid (∀ k, k < ps.length → (w.alloc (.cells #[.int .i64 num, .int .i64 beg, .int .i64 fin] 44)).cell? ⟨D, k, none⟩ = some (.bool (isDone out k))) := fun k hk => cell_later hb1 (h.done.cell k hk)
  obtain ⟨n, hnn⟩ : ∃ n, ps.length = n := ⟨_, rfl⟩
  rw [hnn] at hb c2 c3 HD
  obtain ⟨V, hV⟩ : ∃ V, w.alloc (.cells #[.int .i64 num, .int .i64 beg, .int .i64 fin] 44) = V := ⟨_, rfl⟩
  rw [hV] at hb1 e0 c1 c2 c3 HD
  have HV : Hid (Below w.heap.size w V) := hb1
  clear h hnn hb1
  rcases hb with ⟨rfl, hb⟩ | ⟨k, rfl, hk, rfl⟩
  · by_cases h0 : num < 0
    · have d0 : decide (num < 0) = true := by simpa using h0
      clear hb
      go_enter Tryd.func48, Tryd.ntmps48
      go_wp2_with fail
      go_quiet (fail)
      go_wp2_with fail
      go_ret
      exact ⟨rfl, below_drewN HV.out _⟩
    · have d0 : decide (num < 0) = false := by simpa using h0
      have h1 : (n : Int) ≤ num := by omega
      have d1 : decide ((n : Int) ≤ num) = true := by simpa using h1
      clear hb h0
      go_enter Tryd.func48, Tryd.ntmps48
      go_wp2_with fail
      go_quiet (fail)
      go_wp2_with fail
      go_ret
      exact ⟨rfl, below_drewN HV.out _⟩
  · have d0 : decide ((k : Int) < 0) = false := by simp
    have d1 : decide ((n : Int) ≤ (k : Int)) = false := by simp; omega
    have H2 : Hid (decide (n ≤ k) = false) := by simp [Hid]; omega
    have dk := HD.out k hk
    go_enter Tryd.func48, Tryd.ntmps48
    go_wp2_with fail
    go_quiet (fail)
    go_wp2_with fail
    go_ret
    refine ⟨?_, below_drewN HV.out _⟩
    show Ending.returned (.bool (decide (n ≤ k) || isDone out k)) = _
    rw [H2.out, Bool.false_or]
end
end Go.Proofs.YtolbmkniafkeaaaDoor

/- A region that draws its order, whose operations only read, and whose callees only read and make new memory: one walk, in the text's order, serves all orders: the class of the worlds that have grown. -/
namespace Go.Proofs.YtolbmkniafkeaaaDoor
open Go.RowKit

/-- A world that has grown out of this one. -/
structure Later (V : World) where
  w : World
  bel : Below V.heap.size V w
theorem Later.cell {V : World} {a : Addr} {v : Value} (h : V.cell? a = some v) (g : Later V) : g.w.cell? a = some v := cell_later g.bel h
theorem wp_region_later {P : Program} {id : Nat} {Q : Exit → Act → World → Prop} {a : Act} {w : World} {l : List Oper} (hm : P.follows .mixedOrders = true) (hB : Region.lexB .any l.toArray = true)
    (h : wpQuiet P l.toArray (fun w' => ∃ g : Later w, w' = g.w) (fun a' => ∀ w', (∃ g : Later w, w' = g.w) → Q .normal a' w') l a) : (Code.region id l.toArray true).wp P Q a w :=
  wp_region_quiet (C := fun w' => ∃ g : Later w, w' = g.w) hm hB ⟨⟨w.drew, below_drewN (Below.refl _ _) 1⟩, rfl⟩ (by simpa using h)
/-- A callee's contract, as such a walk asks for it. -/
theorem Later.calls {P : Program} {f : FuncId} {args : Array Value} {V : World} {v : Value} (h : ∀ W, Below V.heap.size V W → Calls P f args W fun e w' => e = .returned v ∧ Below W.heap.size W w') (g : Later V) : Calls P f args g.w fun e w' => e = .returned v ∧ ∃ g' : Later V, w' = g'.w :=
  (h g.w g.bel).mono fun _ w' ⟨he, hb⟩ => ⟨he, ⟨w', g.bel.trans (hb.mono g.bel.size)⟩, rfl⟩
end Go.Proofs.YtolbmkniafkeaaaDoor

/- Walks: package audit's rules on ticks: too soon; not as long as its bytes need. -/
namespace Go.Proofs.YtolbmkniafkeaaaDoor
open Go.RowKit

theorem Tryd.callRules1 (args : Array Value) (W : World) : Sem.run Tryd.prog (callFunc 47 args) W = .ok (.enter 47 args) W := by kernel_rfl
theorem Tryd.pktField0 (a b c : Int) (W : World) : (Instr.field 42 (.agg #[.int .i64 a, .int .i64 b, .int .i64 c]) 0).run Tryd.prog W = .ok (.int .i64 a) W := by kernel_rfl
theorem Tryd.pktField1 (a b c : Int) (W : World) : (Instr.field 42 (.agg #[.int .i64 a, .int .i64 b, .int .i64 c]) 1).run Tryd.prog W = .ok (.int .i64 b) W := by kernel_rfl
theorem Tryd.pktField2 (a b c : Int) (W : World) : (Instr.field 42 (.agg #[.int .i64 a, .int .i64 b, .int .i64 c]) 2).run Tryd.prog W = .ok (.int .i64 c) W := by kernel_rfl
section
variable (S K P G D : Nat) (pa : Option Addr) (cap : Nat) (ps : List Pk) (per : Int) (out : List Sn) (w : World) (num beg fin : Int)
set_option maxRecDepth 100000 in
set_option maxHeartbeats 4000000 in
theorem auOld (h : AuSend w S K P G D pa cap ps per out) (hn : ps.length ≤ 300) (k : Nat) (hk : num = k) (q : Pk) (hq : ps[k]? = some q) (b : Bool) (hb : b = true ↔ (beg < q.tick ∨ beg < lastFin out)) :
    Calls Tryd.prog 49 #[.agg #[.int .i64 num, .int .i64 beg, .int .i64 fin], .pointer (some ⟨K, 0, none⟩), .pointer (some ⟨S, 0, none⟩)] w fun e w' => e = .returned (.bool b) ∧ Below w.heap.size w w' := by
  have hb1 : Below w.heap.size w (w.alloc (.cells #[.int .i64 num, .int .i64 beg, .int .i64 fin] 44)) := (Below.refl _ _).alloc (Nat.le_refl _) _
  have e0 : (w.alloc (.cells #[.int .i64 num, .int .i64 beg, .int .i64 fin] 44)).cell? ⟨w.heap.size, 0, none⟩ = some (.int .i64 num) := by simp
  have e1 : (w.alloc (.cells #[.int .i64 num, .int .i64 beg, .int .i64 fin] 44)).cell? ⟨w.heap.size, 1, none⟩ = some (.int .i64 beg) := by simp
  have e2 : (w.alloc (.cells #[.int .i64 num, .int .i64 beg, .int .i64 fin] 44)).cell? ⟨w.heap.size, 2, none⟩ = some (.int .i64 fin) := by simp
  have c1 := cell_later hb1 h.s
  have c2 := cell_later hb1 h.k
  have c3 := cell_later hb1 h.g2
  have HP : Hid (∀ W, Below w.heap.size w W → Calls Tryd.prog 47 #[.agg #[.int .i64 num, .int .i64 beg, .int .i64 fin], .pointer (some ⟨S, 0, none⟩)] W fun e w' => e = .returned (.agg #[.int .i64 q.flow, .int .i64 q.size, .int .i64 q.tick]) ∧ Below W.heap.size W w') := fun W hb => auPacket S K P G D pa cap ps per out W num beg fin (h.later hb) hn k hk q hq
  obtain ⟨lf, hlf⟩ : ∃ lf, lastFin out = lf := ⟨_, rfl⟩
  rw [hlf] at hb c3
  obtain ⟨x0, hx0⟩ : ∃ x, q.flow = x := ⟨_, rfl⟩
  obtain ⟨x1, hx1⟩ : ∃ x, q.size = x := ⟨_, rfl⟩
  obtain ⟨x2, hx2⟩ : ∃ x, q.tick = x := ⟨_, rfl⟩
  rw [hx2] at hb
  rw [hx0, hx1, hx2] at HP
  obtain ⟨V, hV⟩ : ∃ V, w.alloc (.cells #[.int .i64 num, .int .i64 beg, .int .i64 fin] 44) = V := ⟨_, rfl⟩
  rw [hV] at hb1 e0 e1 e2 c1 c2 c3
  have HV : Hid (Below w.heap.size w V) := hb1
  have y0 := fun g : Later V => g.cell e0
  have y1 := fun g : Later V => g.cell e1
  have y2 := fun g : Later V => g.cell e2
  have y3 := fun g : Later V => g.cell c1
  have y4 := fun g : Later V => g.cell c2
  have y5 := fun g : Later V => g.cell c3
  have HP' : Hid (∀ g : Later V, Calls Tryd.prog 47 #[.agg #[.int .i64 num, .int .i64 beg, .int .i64 fin], .pointer (some ⟨S, 0, none⟩)] g.w fun e w' => e = .returned (.agg #[.int .i64 x0, .int .i64 x1, .int .i64 x2]) ∧ ∃ g' : Later V, w' = g'.w) := Later.calls fun W hb => HP.out W (HV.out.trans (hb.mono HV.out.size))
  clear h hn hk hq hlf hx0 hx1 hx2 hb1 HP
  have hne : Nonempty (Later V) := ⟨⟨V, Below.refl _ _⟩⟩
  have hfl := fun W => Tryd.pktField2 x0 x1 x2 W
  by_cases h1 : beg < x2
  · obtain rfl : b = true := hb.2 (.inl h1)
    have d1 : decide (beg < x2) = true := by simpa using h1
    clear hb h1
    go_enter Tryd.func49, Tryd.ntmps49
    go_wp2_with fail
    refine wp_region_later (by kernel_rfl) (by kernel_rfl) ?_
    repeat (go_big_quiet_step (exact HP'.out _))
    refine wpQuiet_nil ?_
    rintro _ ⟨gq, rfl⟩
    go_wp2_with fail
    go_ret
    exact ⟨rfl, HV.out.trans (gq.bel.mono HV.out.size)⟩
  · have d1 : decide (beg < x2) = false := by simpa using h1
    obtain rfl : b = decide (beg < lf) := by
      rcases Int.lt_or_le beg lf with h | h
      · rw [hb.2 (.inr h)]; simpa using h
      · have : ¬ b = true := fun hh => by rcases hb.1 hh with h' | h' <;> omega
        rw [Bool.eq_false_iff.2 this]; simpa using h
    clear hb h1
    go_enter Tryd.func49, Tryd.ntmps49
    go_wp2_with fail
    refine wp_region_later (by kernel_rfl) (by kernel_rfl) ?_
    repeat (go_big_quiet_step (exact HP'.out _))
    refine wpQuiet_nil ?_
    rintro _ ⟨gq, rfl⟩
    go_wp2_with fail
    go_ret
    exact ⟨rfl, HV.out.trans (gq.bel.mono HV.out.size)⟩
end
end Go.Proofs.YtolbmkniafkeaaaDoor

/- Walks: package audit's rule on how long one takes. -/
namespace Go.Proofs.YtolbmkniafkeaaaDoor
open Go.RowKit

section
variable (S K P G D : Nat) (pa : Option Addr) (cap : Nat) (ps : List Pk) (per : Int) (out : List Sn) (w : World) (num beg fin : Int)
set_option maxRecDepth 100000 in
set_option maxHeartbeats 4000000 in
theorem auShape (h : AuSend w S K P G D pa cap ps per out) (hn : ps.length ≤ 300) (k : Nat) (hk : num = k) (q : Pk) (hq : ps[k]? = some q) (hok : okPk q = true) (h1 : 1 ≤ per) (h2 : per ≤ 1000) (ht : -2000000000000000 ≤ beg ∧ beg ≤ 2000000000000000) (b : Bool) (hb : b = true ↔ fin - beg ≠ per * q.size) :
    Calls Tryd.prog 50 #[.agg #[.int .i64 num, .int .i64 beg, .int .i64 fin], .pointer (some ⟨P, 0, none⟩), .pointer (some ⟨K, 0, none⟩)] w fun e w' => e = .returned (.bool b) ∧ Below w.heap.size w w' := by
  have hb1 : Below w.heap.size w (w.alloc (.cells #[.int .i64 num, .int .i64 beg, .int .i64 fin] 44)) := (Below.refl _ _).alloc (Nat.le_refl _) _
  have e0 : (w.alloc (.cells #[.int .i64 num, .int .i64 beg, .int .i64 fin] 44)).cell? ⟨w.heap.size, 0, none⟩ = some (.int .i64 num) := by simp
  have e1 : (w.alloc (.cells #[.int .i64 num, .int .i64 beg, .int .i64 fin] 44)).cell? ⟨w.heap.size, 1, none⟩ = some (.int .i64 beg) := by simp
  have e2 : (w.alloc (.cells #[.int .i64 num, .int .i64 beg, .int .i64 fin] 44)).cell? ⟨w.heap.size, 2, none⟩ = some (.int .i64 fin) := by simp
  have c2 := cell_later hb1 h.k
  have c3 := cell_later hb1 h.p
  have HP : Hid (∀ W, Below w.heap.size w W → Calls Tryd.prog 47 #[.agg #[.int .i64 num, .int .i64 beg, .int .i64 fin], .pointer (some ⟨S, 0, none⟩)] W fun e w' => e = .returned (.agg #[.int .i64 q.flow, .int .i64 q.size, .int .i64 q.tick]) ∧ Below W.heap.size W w') := fun W hb => auPacket S K P G D pa cap ps per out W num beg fin (h.later hb) hn k hk q hq
  have hq1 := okPk_true hok
  obtain ⟨x0, hx0⟩ : ∃ x, q.flow = x := ⟨_, rfl⟩
  obtain ⟨x1, hx1⟩ : ∃ x, q.size = x := ⟨_, rfl⟩
  obtain ⟨x2, hx2⟩ : ∃ x, q.tick = x := ⟨_, rfl⟩
  rw [hx1] at hb hq1
  rw [hx0, hx1, hx2] at HP
  obtain ⟨V, hV⟩ : ∃ V, w.alloc (.cells #[.int .i64 num, .int .i64 beg, .int .i64 fin] 44) = V := ⟨_, rfl⟩
  rw [hV] at hb1 e0 e1 e2 c2 c3
  have HV : Hid (Below w.heap.size w V) := hb1
  have y0 := fun g : Later V => g.cell e0
  have y1 := fun g : Later V => g.cell e1
  have y2 := fun g : Later V => g.cell e2
  have y4 := fun g : Later V => g.cell c2
  have y5 := fun g : Later V => g.cell c3
  have HP' : Hid (∀ g : Later V, Calls Tryd.prog 47 #[.agg #[.int .i64 num, .int .i64 beg, .int .i64 fin], .pointer (some ⟨S, 0, none⟩)] g.w fun e w' => e = .returned (.agg #[.int .i64 x0, .int .i64 x1, .int .i64 x2]) ∧ ∃ g' : Later V, w' = g'.w) := Later.calls fun W hb => HP.out W (HV.out.trans (hb.mono HV.out.size))
  have a1 : 0 ≤ per * x1 := Int.mul_nonneg (by omega) (by omega)
  have a2 : per * x1 ≤ 1000 * 1500 := Int.mul_le_mul (by omega) (by omega) (by omega) (by omega)
  obtain ⟨m, hm⟩ : ∃ m, per * x1 = m := ⟨_, rfl⟩
  rw [hm] at a1 a2 hb
  have v1 : IntKind.i64.wrap (per * x1) = m := by rw [hm]; exact IntWalk.i64_in _ (by omega)
  have v2 : IntKind.i64.wrap (beg + m) = beg + m := IntWalk.i64_in _ (by omega)
  have HB : Hid (b = (fin != beg + m)) := by
    show b = _
    by_cases hf : fin = beg + m
    · have : ¬ b = true := fun h => hb.1 h (by omega)
      rw [Bool.eq_false_iff.2 this]; simp [hf]
    · rw [hb.2 (by omega)]; simp [hf]
  have hne : Nonempty (Later V) := ⟨⟨V, Below.refl _ _⟩⟩
  have hfl := fun W => Tryd.pktField1 x0 x1 x2 W
  clear h hn hk hq hx0 hx1 hx2 hb1 HP hm hb hq1 hok a1 a2 h1 h2
  go_enter Tryd.func50, Tryd.ntmps50
  go_wp2_with fail
  refine wp_region_later (by kernel_rfl) (by kernel_rfl) ?_
  repeat (go_big_quiet_step (exact HP'.out _))
  refine wpQuiet_nil ?_
  rintro _ ⟨gq, rfl⟩
  go_wp2_with fail
  go_ret
  refine ⟨?_, HV.out.trans (gq.bel.mono HV.out.size)⟩
  rw [HB.out]
  rfl
end
end Go.Proofs.YtolbmkniafkeaaaDoor

/- Walks: package audit's anyLeft: is one that was not sent so. -/
namespace Go.Proofs.YtolbmkniafkeaaaDoor
open Go.RowKit

set_option maxRecDepth 100000 in
set_option maxHeartbeats 2000000 in
theorem auLeft2 (S K P G D : Nat) (pa : Option Addr) (cap : Nat) (ps : List Pk) (per : Int) (out : List Sn) (w : World) (f : Nat) (x1 x2 : Value) (is : Nat → Bool) (b : Bool) (h : AuSend w S K P G D pa cap ps per out) (hn : ps.length ≤ 300)
    (hf : ∀ args W, Sem.run Tryd.prog (callFunc f args) W = .ok (.enter f args) W)
    (hM : ∀ W k, Below w.heap.size w W → k < ps.length → Calls Tryd.prog f #[.int .i64 ((k : Nat) : Int), x1, x2] W fun e w' => e = .returned (.bool (is k)) ∧ Below W.heap.size W w')
    (hb : b = true ↔ ∃ i, i < ps.length ∧ isDone out i = false ∧ is i = true) :
    Calls Tryd.prog 53 #[.pointer (some ⟨G, 0, none⟩), .func (.func f) #[] #[x1, x2]] w fun e w' => e = .returned (.bool b) ∧ Below w.heap.size w w' := by
  have c1 := h.g1
  have HM : Hid (∀ W k, Below w.heap.size w W → k < ps.length → Calls Tryd.prog f #[.int .i64 ((k : Nat) : Int), x1, x2] W fun e w' => e = .returned (.bool (is k)) ∧ Below W.heap.size W w') := hM
  have HD : Hid (∀ W k, Below w.heap.size w W → k < ps.length → W.cell? ⟨D, k, none⟩ = some (.bool (isDone out k))) := fun W k hb hk => cell_later hb (h.done.cell k hk)
  have HB : Hid (b = true ↔ ∃ i, i < ps.length ∧ isDone out i = false ∧ is i = true) := hb
  obtain ⟨n, hnn⟩ : ∃ n, ps.length = n := ⟨_, rfl⟩
  rw [hnn] at hn c1 HM HD HB
  clear h hM hb hnn
  go_enter Tryd.func53, Tryd.ntmps53
  go_wp2_with fail
  go_loopw [12] (fun i wr => ∃ k : Nat, k ≤ n ∧ i = .int .i64 k ∧ (∀ i, i < k → ¬ (isDone out i = false ∧ is i = true)) ∧ Below w.heap.size w wr) (fun i _ => n - (intOf i).toNat)
  case atStart => exact ⟨0, Nat.zero_le _, rfl, fun i h => by omega, Below.refl _ _⟩
  case round =>
    obtain ⟨k, hk, rfl, hno, hbel⟩ := hrel
    have HR : Hid ((∀ i, i < k → ¬ (isDone out i = false ∧ is i = true)) ∧ Below w.heap.size w wr) := ⟨hno, hbel⟩
    clear hno
    by_cases hkn : k < n
    · have dk := HD.out wr k hbel hkn
      clear hbel
      cases hd : isDone out k with
      | true =>
        rw [hd] at dk
        have HN : Hid (¬ (isDone out k = false ∧ is k = true)) := fun h => by rw [hd] at h; cases h.1
        clear hd
        go_wp2_with fail
        go_roundw
        case rel =>
          refine ⟨k + 1, by omega, by go_num, fun i hi => ?_, HR.out.2⟩
          rcases Nat.lt_or_ge i k with h | h
          · exact HR.out.1 i h
          · obtain rfl : i = k := by omega
            exact HN.out
        case measure => simp [intOf]; omega
      | false =>
        rw [hd] at dk
        have HDk : Hid (isDone out k = false) := hd
        clear hd
        have HC := (show Hid (Calls Tryd.prog f #[.int .i64 ((k : Nat) : Int), x1, x2] wr fun e w' => e = .returned (.bool (is k)) ∧ Below wr.heap.size wr w') from HM.out wr k HR.out.2 hkn)
        cases hi : is k with
        | true =>
          rw [hi] at HC
          have HI : Hid (is k = true) := hi
          clear hi
          go_wp2_with fail
          refine HC.out.mono ?_
          rintro e w1 ⟨rfl, hb1⟩
          have HB1 : Hid (Below w.heap.size w w1) := HR.out.2.trans (hb1.mono HR.out.2.size)
          clear hb1
          go_wp2_with fail
          go_ret
          exact ⟨by rw [HB.out.2 ⟨k, hkn, HDk.out, HI.out⟩]; rfl, HB1.out⟩
        | false =>
          rw [hi] at HC
          have HI : Hid (is k = false) := hi
          clear hi
          go_wp2_with fail
          refine HC.out.mono ?_
          rintro e w1 ⟨rfl, hb1⟩
          have HB1 : Hid (Below w.heap.size w w1) := HR.out.2.trans (hb1.mono HR.out.2.size)
          clear hb1
          go_wp2_with fail
          go_roundw
          case rel =>
            refine ⟨k + 1, by omega, by go_num, fun i hi => ?_, HB1.out⟩
            rcases Nat.lt_or_ge i k with h | h
            · exact HR.out.1 i h
            · obtain rfl : i = k := by omega
              exact fun h => by have := HI.out; rw [h.2] at this; cases this
          case measure => simp [intOf]; omega
    · clear hbel
      have HF : Hid (b = false) := by
        cases hbb : b with
        | false => rfl
        | true =>
          obtain ⟨i, h1, h2, h3⟩ := HB.out.1 hbb
          exact absurd ⟨h2, h3⟩ (HR.out.1 i (by omega))
      go_wp2_with fail
      go_ret
      exact ⟨by rw [HF.out]; rfl, HR.out.2⟩
set_option maxRecDepth 100000 in
set_option maxHeartbeats 2000000 in
theorem auLeft3 (S K P G D : Nat) (pa : Option Addr) (cap : Nat) (ps : List Pk) (per : Int) (out : List Sn) (w : World) (f : Nat) (x1 x2 x3 : Value) (is : Nat → Bool) (b : Bool) (h : AuSend w S K P G D pa cap ps per out) (hn : ps.length ≤ 300)
    (hf : ∀ args W, Sem.run Tryd.prog (callFunc f args) W = .ok (.enter f args) W)
    (hM : ∀ W k, Below w.heap.size w W → k < ps.length → Calls Tryd.prog f #[.int .i64 ((k : Nat) : Int), x1, x2, x3] W fun e w' => e = .returned (.bool (is k)) ∧ Below W.heap.size W w')
    (hb : b = true ↔ ∃ i, i < ps.length ∧ isDone out i = false ∧ is i = true) :
    Calls Tryd.prog 53 #[.pointer (some ⟨G, 0, none⟩), .func (.func f) #[] #[x1, x2, x3]] w fun e w' => e = .returned (.bool b) ∧ Below w.heap.size w w' := by
  have c1 := h.g1
  have HM : Hid (∀ W k, Below w.heap.size w W → k < ps.length → Calls Tryd.prog f #[.int .i64 ((k : Nat) : Int), x1, x2, x3] W fun e w' => e = .returned (.bool (is k)) ∧ Below W.heap.size W w') := hM
  have HD : Hid (∀ W k, Below w.heap.size w W → k < ps.length → W.cell? ⟨D, k, none⟩ = some (.bool (isDone out k))) := fun W k hb hk => cell_later hb (h.done.cell k hk)
  have HB : Hid (b = true ↔ ∃ i, i < ps.length ∧ isDone out i = false ∧ is i = true) := hb
  obtain ⟨n, hnn⟩ : ∃ n, ps.length = n := ⟨_, rfl⟩
  rw [hnn] at hn c1 HM HD HB
  clear h hM hb hnn
  go_enter Tryd.func53, Tryd.ntmps53
  go_wp2_with fail
  go_loopw [12] (fun i wr => ∃ k : Nat, k ≤ n ∧ i = .int .i64 k ∧ (∀ i, i < k → ¬ (isDone out i = false ∧ is i = true)) ∧ Below w.heap.size w wr) (fun i _ => n - (intOf i).toNat)
  case atStart => exact ⟨0, Nat.zero_le _, rfl, fun i h => by omega, Below.refl _ _⟩
  case round =>
    obtain ⟨k, hk, rfl, hno, hbel⟩ := hrel
    have HR : Hid ((∀ i, i < k → ¬ (isDone out i = false ∧ is i = true)) ∧ Below w.heap.size w wr) := ⟨hno, hbel⟩
    clear hno
    by_cases hkn : k < n
    · have dk := HD.out wr k hbel hkn
      clear hbel
      cases hd : isDone out k with
      | true =>
        rw [hd] at dk
        have HN : Hid (¬ (isDone out k = false ∧ is k = true)) := fun h => by rw [hd] at h; cases h.1
        clear hd
        go_wp2_with fail
        go_roundw
        case rel =>
          refine ⟨k + 1, by omega, by go_num, fun i hi => ?_, HR.out.2⟩
          rcases Nat.lt_or_ge i k with h | h
          · exact HR.out.1 i h
          · obtain rfl : i = k := by omega
            exact HN.out
        case measure => simp [intOf]; omega
      | false =>
        rw [hd] at dk
        have HDk : Hid (isDone out k = false) := hd
        clear hd
        have HC := (show Hid (Calls Tryd.prog f #[.int .i64 ((k : Nat) : Int), x1, x2, x3] wr fun e w' => e = .returned (.bool (is k)) ∧ Below wr.heap.size wr w') from HM.out wr k HR.out.2 hkn)
        cases hi : is k with
        | true =>
          rw [hi] at HC
          have HI : Hid (is k = true) := hi
          clear hi
          go_wp2_with fail
          refine HC.out.mono ?_
          rintro e w1 ⟨rfl, hb1⟩
          have HB1 : Hid (Below w.heap.size w w1) := HR.out.2.trans (hb1.mono HR.out.2.size)
          clear hb1
          go_wp2_with fail
          go_ret
          exact ⟨by rw [HB.out.2 ⟨k, hkn, HDk.out, HI.out⟩]; rfl, HB1.out⟩
        | false =>
          rw [hi] at HC
          have HI : Hid (is k = false) := hi
          clear hi
          go_wp2_with fail
          refine HC.out.mono ?_
          rintro e w1 ⟨rfl, hb1⟩
          have HB1 : Hid (Below w.heap.size w w1) := HR.out.2.trans (hb1.mono HR.out.2.size)
          clear hb1
          go_wp2_with fail
          go_roundw
          case rel =>
            refine ⟨k + 1, by omega, by go_num, fun i hi => ?_, HB1.out⟩
            rcases Nat.lt_or_ge i k with h | h
            · exact HR.out.1 i h
            · obtain rfl : i = k := by omega
              exact fun h => by have := HI.out; rw [h.2] at this; cases this
          case measure => simp [intOf]; omega
    · clear hbel
      have HF : Hid (b = false) := by
        cases hbb : b with
        | false => rfl
        | true =>
          obtain ⟨i, h1, h2, h3⟩ := HB.out.1 hbb
          exact absurd ⟨h2, h3⟩ (HR.out.1 i (by omega))
      go_wp2_with fail
      go_ret
      exact ⟨by rw [HF.out]; rfl, HR.out.2⟩
end Go.Proofs.YtolbmkniafkeaaaDoor

/- Walks: package audit's rule on idle ticks. -/
namespace Go.Proofs.YtolbmkniafkeaaaDoor
open Go.RowKit

theorem Tryd.callRules51 (args : Array Value) (W : World) : Sem.run Tryd.prog (callFunc 52 args) W = .ok (.enter 52 args) W := by kernel_rfl
section
variable (S K P G D : Nat) (pa : Option Addr) (cap : Nat) (ps : List Pk) (per : Int) (out : List Sn) (w : World) (num beg fin : Int)
set_option maxRecDepth 100000 in
set_option maxHeartbeats 2000000 in
/-- Has it come ahead of that tick. -/
theorem auCome (h : AuSend w S K P G D pa cap ps per out) (X : Nat) (hx : w.cell? ⟨X, 1, none⟩ = some (.int .i64 beg)) (k : Nat) (hk : k < ps.length) :
    Calls Tryd.prog 52 #[.int .i64 (k : Int), .pointer (some ⟨S, 0, none⟩), .pointer (some ⟨X, 0, none⟩)] w fun e w' => e = .returned (.bool (decide (tickOf ps k < beg))) ∧ Below w.heap.size w w' := by
  obtain ⟨q, hq, -⟩ := get_some ps k hk
  obtain ⟨b2, o2, rfl, -, hc2⟩ := h.pks.place (by omega)
  have c1 := h.s
  have c2 := h.g0
  have d2 := (hc2 k q hq).2.2
  rw [tickOf_get hq]
  obtain ⟨x2, hx2⟩ : ∃ x, q.tick = x := ⟨_, rfl⟩
  rw [hx2] at d2 ⊢
  obtain ⟨n, hnn⟩ : ∃ n, ps.length = n := ⟨_, rfl⟩
  rw [hnn] at hk c2
  clear h hc2 hq hnn hx2
  go_enter Tryd.func52, Tryd.ntmps52
  go_wp2_with fail
  go_quiet (fail)
  go_wp2_with fail
  go_ret
  exact ⟨rfl, below_drewN (Below.refl _ _) _⟩

set_option maxRecDepth 100000 in
set_option maxHeartbeats 2000000 in
theorem auIdle (h : AuSend w S K P G D pa cap ps per out) (hn : ps.length ≤ 300) (b : Bool) (hb : b = true ↔ IdlesAt ps out ⟨num, beg, fin⟩) :
    Calls Tryd.prog 51 #[.agg #[.int .i64 num, .int .i64 beg, .int .i64 fin], .pointer (some ⟨S, 0, none⟩)] w fun e w' => e = .returned (.bool b) ∧ Below w.heap.size w w' := by
  have hb1 : Below w.heap.size w (w.alloc (.cells #[.int .i64 num, .int .i64 beg, .int .i64 fin] 44)) := (Below.refl _ _).alloc (Nat.le_refl _) _
  have e1 : (w.alloc (.cells #[.int .i64 num, .int .i64 beg, .int .i64 fin] 44)).cell? ⟨w.heap.size, 1, none⟩ = some (.int .i64 beg) := by simp
  have c1 := cell_later hb1 h.s
  have c3 := cell_later hb1 h.g2
  have hV := h.later hb1
  obtain ⟨V, hVe⟩ : ∃ V, w.alloc (.cells #[.int .i64 num, .int .i64 beg, .int .i64 fin] 44) = V := ⟨_, rfl⟩
  rw [hVe] at hb1 e1 c1 c3 hV
  have HV : Hid (Below w.heap.size w V) := hb1
  have HS : Hid (AuSend V S K P G D pa cap ps per out) := hV
  have y1 := fun g : Later V => g.cell e1
  have y3 := fun g : Later V => g.cell c1
  have y5 := fun g : Later V => g.cell c3
  have hne : Nonempty (Later V) := ⟨⟨V, Below.refl _ _⟩⟩
  have HL : Hid (lastFin out < beg → ∀ g : Later V, Calls Tryd.prog 53 #[.pointer (some ⟨G, 0, none⟩), .func (.func 52) #[] #[.pointer (some ⟨S, 0, none⟩), .pointer (some ⟨w.heap.size, 0, none⟩)]] g.w fun e w' => e = .returned (.bool b) ∧ ∃ g' : Later V, w' = g'.w) := fun hlt => Later.calls fun W hW => by
    refine auLeft2 S K P G D pa cap ps per out W 52 _ _ (fun i => decide (tickOf ps i < beg)) b (HS.out.later hW) hn Tryd.callRules51 (fun W' k hW' hk => ?_) ?_
    · exact auCome S K P G D pa cap ps per out W' beg ((HS.out.later hW).later hW') w.heap.size (cell_later hW' (cell_later hW e1)) k hk
    · rw [hb]
      unfold IdlesAt
      constructor
      · rintro ⟨-, i, h1, h2, h3⟩
        exact ⟨i, h1, h2, by simpa using h3⟩
      · rintro ⟨i, h1, h2, h3⟩
        exact ⟨hlt, i, h1, h2, by simpa using h3⟩
  have HN : Hid (¬ lastFin out < beg → b = false) := fun hlt => Bool.eq_false_iff.2 fun hh => hlt (hb.1 hh).1
  obtain ⟨lf, hlf⟩ : ∃ lf, lastFin out = lf := ⟨_, rfl⟩
  rw [hlf] at c3 HL HN y5
  clear h hn hb hV hb1 hlf
  by_cases h1 : lf < beg
  · have d1 : decide (lf < beg) = true := by simpa using h1
    have HL' : Hid (∀ g : Later V, Calls Tryd.prog 53 #[.pointer (some ⟨G, 0, none⟩), .func (.func 52) #[] #[.pointer (some ⟨S, 0, none⟩), .pointer (some ⟨w.heap.size, 0, none⟩)]] g.w fun e w' => e = .returned (.bool b) ∧ ∃ g' : Later V, w' = g'.w) := HL.out h1
    clear h1
    go_enter Tryd.func51, Tryd.ntmps51
    go_wp2_with fail
    refine wp_region_later (by kernel_rfl) (by kernel_rfl) ?_
    repeat (go_big_quiet_step (exact HL'.out _))
    refine wpQuiet_nil ?_
    rintro _ ⟨gq, rfl⟩
    go_wp2_with fail
    go_ret
    exact ⟨rfl, HV.out.trans (gq.bel.mono HV.out.size)⟩
  · obtain rfl := HN.out h1
    have d1 : decide (lf < beg) = false := by simpa using h1
    clear h1
    go_enter Tryd.func51, Tryd.ntmps51
    go_wp2_with fail
    refine wp_region_later (by kernel_rfl) (by kernel_rfl) ?_
    repeat (go_big_quiet_step (fail))
    refine wpQuiet_nil ?_
    rintro _ ⟨gq, rfl⟩
    go_wp2_with fail
    go_ret
    exact ⟨rfl, HV.out.trans (gq.bel.mono HV.out.size)⟩
end
end Go.Proofs.YtolbmkniafkeaaaDoor

/- Walks: package audit's rule on a flow's turns. -/
namespace Go.Proofs.YtolbmkniafkeaaaDoor
open Go.RowKit

theorem Tryd.callRules61 (args : Array Value) (W : World) : Sem.run Tryd.prog (callFunc 55 args) W = .ok (.enter 55 args) W := by kernel_rfl
section
variable (S K P G D : Nat) (pa : Option Addr) (cap : Nat) (ps : List Pk) (per : Int) (out : List Sn) (w : World) (num beg fin : Int)
set_option maxRecDepth 100000 in
set_option maxHeartbeats 2000000 in
/-- Is it of the same flow, and ahead. -/
theorem auAhead (h : AuSend w S K P G D pa cap ps per out) (ho : OkPks ps) (X : Nat) (hx0 : w.cell? ⟨X, 0, none⟩ = some (.int .i64 num)) (hx1 : w.cell? ⟨X, 1, none⟩ = some (.int .i64 beg)) (hx2 : w.cell? ⟨X, 2, none⟩ = some (.int .i64 fin)) (k : Nat) (hk : num = k) (hkl : k < ps.length) (i : Nat) (hi : i < ps.length) :
    Calls Tryd.prog 55 #[.int .i64 (i : Int), .pointer (some ⟨X, 0, none⟩), .pointer (some ⟨S, 0, none⟩), .pointer (some ⟨K, 0, none⟩)] w fun e w' => e = .returned (.bool (decide (i < k ∧ flowOf ps i = flowOf ps k))) ∧ Below w.heap.size w w' := by
  obtain ⟨q, hq, -⟩ := get_some ps k hkl
  obtain ⟨p, hp, -⟩ := get_some ps i hi
  have hn := ho.few
  have oq := okPk_true (ho.each _ q hq).1
  have op := okPk_true (ho.each _ p hp).1
  have HP : Hid (∀ W, Below w.heap.size w W → Calls Tryd.prog 47 #[.agg #[.int .i64 num, .int .i64 beg, .int .i64 fin], .pointer (some ⟨S, 0, none⟩)] W fun e w' => e = .returned (.agg #[.int .i64 q.flow, .int .i64 q.size, .int .i64 q.tick]) ∧ Below W.heap.size W w') := fun W hb => auPacket S K P G D pa cap ps per out W num beg fin (h.later hb) hn k hk q hq
  subst hk
  obtain ⟨b2, o2, rfl, -, hc2⟩ := h.pks.place (by omega)
  have c1 := h.s
  have c2 := h.g0
  have c3 := h.k
  have d0 := (hc2 i p hp).1
  rw [flowOf_get hp, flowOf_get hq]
  obtain ⟨x0, hq0⟩ : ∃ x, q.flow = x := ⟨_, rfl⟩
  obtain ⟨x1, hq1⟩ : ∃ x, q.size = x := ⟨_, rfl⟩
  obtain ⟨x2, hq2⟩ : ∃ x, q.tick = x := ⟨_, rfl⟩
  obtain ⟨z, hz⟩ : ∃ x, p.flow = x := ⟨_, rfl⟩
  rw [hq0, hq1, hq2] at HP
  rw [hz] at d0 op
  rw [hq0] at oq
  have oq0 : 0 ≤ x0 := by omega
  have op0 : 0 ≤ z := by omega
  rw [hz, hq0]
  obtain ⟨n, hnn⟩ : ∃ n, ps.length = n := ⟨_, rfl⟩
  rw [hnn] at hi c2
  have y0 := fun g : Later w => g.cell hx0
  have y1 := fun g : Later w => g.cell hx1
  have y2 := fun g : Later w => g.cell hx2
  have y3 := fun g : Later w => g.cell c1
  have y4 := fun g : Later w => g.cell c2
  have y5 := fun g : Later w => g.cell c3
  have y6 := fun g : Later w => g.cell d0
  have HP' : Hid (∀ g : Later w, Calls Tryd.prog 47 #[.agg #[.int .i64 (k : Int), .int .i64 beg, .int .i64 fin], .pointer (some ⟨S, 0, none⟩)] g.w fun e w' => e = .returned (.agg #[.int .i64 x0, .int .i64 x1, .int .i64 x2]) ∧ ∃ g' : Later w, w' = g'.w) := Later.calls fun W hb => HP.out W hb
  have hne : Nonempty (Later w) := ⟨⟨w, Below.refl _ _⟩⟩
  have hfl := fun W => Tryd.pktField0 x0 x1 x2 W
  clear h hc2 hq hp hnn hq0 hq1 hq2 hz HP hn hkl oq op ho
  by_cases h1 : i < k
  · have d1 : decide ((i : Int) < (k : Int)) = true := by simpa using h1
    have d2 : decide (i < k) = true := by simpa using h1
    have HE : Hid (decide (i < k ∧ z.toNat = x0.toNat) = (z == x0)) := by
      show _ = _
      by_cases hzx : z = x0
      · simp [h1, hzx]
      · have : ¬ z.toNat = x0.toNat := by omega
        simp [hzx, this]
    clear h1
    go_enter Tryd.func55, Tryd.ntmps55
    go_wp2_with fail
    refine wp_region_later (by kernel_rfl) (by kernel_rfl) ?_
    repeat (go_big_quiet_step (exact HP'.out _))
    refine wpQuiet_nil ?_
    rintro _ ⟨gq, rfl⟩
    go_wp2_with fail
    go_ret
    refine ⟨?_, gq.bel⟩
    rw [HE.out]
    rfl
  · have d1 : decide ((i : Int) < (k : Int)) = false := by simpa using h1
    have d2 : decide (i < k) = false := by simpa using h1
    have HE : Hid (decide (i < k ∧ z.toNat = x0.toNat) = false) := by
      show _ = _
      simp [h1]
    clear h1
    go_enter Tryd.func55, Tryd.ntmps55
    go_wp2_with fail
    refine wp_region_later (by kernel_rfl) (by kernel_rfl) ?_
    repeat (go_big_quiet_step (fail))
    refine wpQuiet_nil ?_
    rintro _ ⟨gq, rfl⟩
    go_wp2_with fail
    go_ret
    refine ⟨?_, gq.bel⟩
    rw [HE.out]
    rfl

set_option maxRecDepth 100000 in
set_option maxHeartbeats 2000000 in
theorem auTurn (h : AuSend w S K P G D pa cap ps per out) (ho : OkPks ps) (k : Nat) (hk : num = k) (hkl : k < ps.length) (b : Bool) (hb : b = true ↔ OutOfTurn ps out k) :
    Calls Tryd.prog 54 #[.agg #[.int .i64 num, .int .i64 beg, .int .i64 fin], .pointer (some ⟨S, 0, none⟩), .pointer (some ⟨K, 0, none⟩)] w fun e w' => e = .returned (.bool b) ∧ Below w.heap.size w w' := by
  have hb1 : Below w.heap.size w (w.alloc (.cells #[.int .i64 num, .int .i64 beg, .int .i64 fin] 44)) := (Below.refl _ _).alloc (Nat.le_refl _) _
  have e0 : (w.alloc (.cells #[.int .i64 num, .int .i64 beg, .int .i64 fin] 44)).cell? ⟨w.heap.size, 0, none⟩ = some (.int .i64 num) := by simp
  have e1 : (w.alloc (.cells #[.int .i64 num, .int .i64 beg, .int .i64 fin] 44)).cell? ⟨w.heap.size, 1, none⟩ = some (.int .i64 beg) := by simp
  have e2 : (w.alloc (.cells #[.int .i64 num, .int .i64 beg, .int .i64 fin] 44)).cell? ⟨w.heap.size, 2, none⟩ = some (.int .i64 fin) := by simp
  have c1 := cell_later hb1 h.s
  have hV := h.later hb1
  have HV : Hid (Below w.heap.size w (w.alloc (.cells #[.int .i64 num, .int .i64 beg, .int .i64 fin] 44))) := hb1
  have HL : Hid (Calls Tryd.prog 53 #[.pointer (some ⟨G, 0, none⟩), .func (.func 55) #[] #[.pointer (some ⟨w.heap.size, 0, none⟩), .pointer (some ⟨S, 0, none⟩), .pointer (some ⟨K, 0, none⟩)]] (w.alloc (.cells #[.int .i64 num, .int .i64 beg, .int .i64 fin] 44)) fun e w' => e = .returned (.bool b) ∧ Below (w.alloc (.cells #[.int .i64 num, .int .i64 beg, .int .i64 fin] 44)).heap.size (w.alloc (.cells #[.int .i64 num, .int .i64 beg, .int .i64 fin] 44)) w') := by
    refine auLeft3 S K P G D pa cap ps per out _ 55 _ _ _ (fun i => decide (i < k ∧ flowOf ps i = flowOf ps k)) b hV ho.few Tryd.callRules61 (fun W' i hW' hi => ?_) ?_
    · exact auAhead S K P G D pa cap ps per out W' num beg fin (hV.later hW') ho w.heap.size (cell_later hW' e0) (cell_later hW' e1) (cell_later hW' e2) k hk hkl i hi
    · rw [hb]
      unfold OutOfTurn
      constructor
      · rintro ⟨i, h1, h2, h3⟩
        exact ⟨i, by omega, h2, by simpa using ⟨h1, h3⟩⟩
      · rintro ⟨i, -, h2, h3⟩
        have h3' : i < k ∧ flowOf ps i = flowOf ps k := by simpa using h3
        exact ⟨i, h3'.1, h2, h3'.2⟩
  clear h ho hb hV hb1 hk hkl e0 e1 e2
  go_enter Tryd.func54, Tryd.ntmps54
  go_wp2_with fail
  refine HL.out.mono ?_
  rintro e w2 ⟨rfl, hb2⟩
  have HB : Hid (Below w.heap.size w w2) := HV.out.trans (hb2.mono HV.out.size)
  clear hb2
  go_wp2_with fail
  go_ret
  exact ⟨rfl, HB.out⟩
end
end Go.Proofs.YtolbmkniafkeaaaDoor

/- Walks: package audit's firstBroken: the first rule that one does not keep to. -/
namespace Go.Proofs.YtolbmkniafkeaaaDoor
open Go.RowKit

/-- The rules, in their row. -/
structure RulesAt (w : World) (R S K P : Nat) (ad : Nat → Addr) : Prop where
  e0 : w.cell? ⟨R, 0, none⟩ = some (.iface 143 (.pointer (some (ad 3))))
  f0 : w.cell? ⟨R, 1, none⟩ = some (.func (.func 48) #[] #[.pointer (some ⟨S, 0, none⟩)])
  e1 : w.cell? ⟨R, 2, none⟩ = some (.iface 143 (.pointer (some (ad 4))))
  f1 : w.cell? ⟨R, 3, none⟩ = some (.func (.func 49) #[] #[.pointer (some ⟨K, 0, none⟩), .pointer (some ⟨S, 0, none⟩)])
  e2 : w.cell? ⟨R, 4, none⟩ = some (.iface 143 (.pointer (some (ad 2))))
  f2 : w.cell? ⟨R, 5, none⟩ = some (.func (.func 50) #[] #[.pointer (some ⟨P, 0, none⟩), .pointer (some ⟨K, 0, none⟩)])
  e3 : w.cell? ⟨R, 6, none⟩ = some (.iface 143 (.pointer (some (ad 6))))
  f3 : w.cell? ⟨R, 7, none⟩ = some (.func (.func 51) #[] #[.pointer (some ⟨S, 0, none⟩)])
  e4 : w.cell? ⟨R, 8, none⟩ = some (.iface 143 (.pointer (some (ad 7))))
  f4 : w.cell? ⟨R, 9, none⟩ = some (.func (.func 54) #[] #[.pointer (some ⟨S, 0, none⟩), .pointer (some ⟨K, 0, none⟩)])
theorem RulesAt.later {w w' : World} {R S K P : Nat} {ad : Nat → Addr} (h : RulesAt w R S K P ad) (hb : Below w.heap.size w w') : RulesAt w' R S K P ad :=
  ⟨cell_later hb h.e0, cell_later hb h.f0, cell_later hb h.e1, cell_later hb h.f1, cell_later hb h.e2, cell_later hb h.f2, cell_later hb h.e3, cell_later hb h.f3, cell_later hb h.e4, cell_later hb h.f4⟩
/-- The error of the rule at a place; none behind them. -/
def ruleErr (ad : Nat → Addr) : Nat → Value
  | 0 => .iface 143 (.pointer (some (ad 3)))
  | 1 => .iface 143 (.pointer (some (ad 4)))
  | 2 => .iface 143 (.pointer (some (ad 2)))
  | 3 => .iface 143 (.pointer (some (ad 6)))
  | 4 => .iface 143 (.pointer (some (ad 7)))
  | _ => .nilIface
theorem Tryd.callRules2A (args : Array Value) (W : World) : Sem.run Tryd.prog (callFunc 48 args) W = .ok (.enter 48 args) W := by kernel_rfl
theorem Tryd.callRules3A (args : Array Value) (W : World) : Sem.run Tryd.prog (callFunc 49 args) W = .ok (.enter 49 args) W := by kernel_rfl
theorem Tryd.callRules4A (args : Array Value) (W : World) : Sem.run Tryd.prog (callFunc 50 args) W = .ok (.enter 50 args) W := by kernel_rfl
theorem Tryd.callRules5A (args : Array Value) (W : World) : Sem.run Tryd.prog (callFunc 51 args) W = .ok (.enter 51 args) W := by kernel_rfl
theorem Tryd.callRules6A (args : Array Value) (W : World) : Sem.run Tryd.prog (callFunc 54 args) W = .ok (.enter 54 args) W := by kernel_rfl

set_option maxRecDepth 100000 in
set_option maxHeartbeats 4000000 in
theorem auFirst_by (R S K P : Nat) (ad : Nat → Addr) (w : World) (num beg fin : Int) (hr : RulesAt w R S K P ad) (t : Nat) (ht : t ≤ 5)
    (g0 : 0 ≤ t → ∀ W, Below w.heap.size w W → Calls Tryd.prog 48 #[.agg #[.int .i64 num, .int .i64 beg, .int .i64 fin], .pointer (some ⟨S, 0, none⟩)] W fun e w' => e = .returned (.bool (decide (t = 0))) ∧ Below W.heap.size W w')
    (g1 : 1 ≤ t → ∀ W, Below w.heap.size w W → Calls Tryd.prog 49 #[.agg #[.int .i64 num, .int .i64 beg, .int .i64 fin], .pointer (some ⟨K, 0, none⟩), .pointer (some ⟨S, 0, none⟩)] W fun e w' => e = .returned (.bool (decide (t = 1))) ∧ Below W.heap.size W w')
    (g2 : 2 ≤ t → ∀ W, Below w.heap.size w W → Calls Tryd.prog 50 #[.agg #[.int .i64 num, .int .i64 beg, .int .i64 fin], .pointer (some ⟨P, 0, none⟩), .pointer (some ⟨K, 0, none⟩)] W fun e w' => e = .returned (.bool (decide (t = 2))) ∧ Below W.heap.size W w')
    (g3 : 3 ≤ t → ∀ W, Below w.heap.size w W → Calls Tryd.prog 51 #[.agg #[.int .i64 num, .int .i64 beg, .int .i64 fin], .pointer (some ⟨S, 0, none⟩)] W fun e w' => e = .returned (.bool (decide (t = 3))) ∧ Below W.heap.size W w')
    (g4 : 4 ≤ t → ∀ W, Below w.heap.size w W → Calls Tryd.prog 54 #[.agg #[.int .i64 num, .int .i64 beg, .int .i64 fin], .pointer (some ⟨S, 0, none⟩), .pointer (some ⟨K, 0, none⟩)] W fun e w' => e = .returned (.bool (decide (t = 4))) ∧ Below W.heap.size W w') :
    Calls Tryd.prog 25 #[.slice (some ⟨R, 0, none⟩) 5 5, .agg #[.int .i64 num, .int .i64 beg, .int .i64 fin]] w fun e w' => e = .returned (ruleErr ad t) ∧ Below w.heap.size w w' := by
  have hb1 : Below w.heap.size w (w.alloc (.cells #[.int .i64 num, .int .i64 beg, .int .i64 fin] 44)) := (Below.refl _ _).alloc (Nat.le_refl _) _
  have e0 : (w.alloc (.cells #[.int .i64 num, .int .i64 beg, .int .i64 fin] 44)).cell? ⟨w.heap.size, 0, none⟩ = some (.int .i64 num) := by simp
  have e1 : (w.alloc (.cells #[.int .i64 num, .int .i64 beg, .int .i64 fin] 44)).cell? ⟨w.heap.size, 1, none⟩ = some (.int .i64 beg) := by simp
  have e2 : (w.alloc (.cells #[.int .i64 num, .int .i64 beg, .int .i64 fin] 44)).cell? ⟨w.heap.size, 2, none⟩ = some (.int .i64 fin) := by simp
  have hrV := hr.later hb1
  obtain ⟨V, hVe⟩ : ∃ V, w.alloc (.cells #[.int .i64 num, .int .i64 beg, .int .i64 fin] 44) = V := ⟨_, rfl⟩
  rw [hVe] at hb1 e0 e1 e2 hrV
  have HV : Hid (Below w.heap.size w V ∧ RulesAt V R S K P ad) := ⟨hb1, hrV⟩
  have HX : Hid (V.cell? ⟨w.heap.size, 0, none⟩ = some (.int .i64 num) ∧ V.cell? ⟨w.heap.size, 1, none⟩ = some (.int .i64 beg) ∧ V.cell? ⟨w.heap.size, 2, none⟩ = some (.int .i64 fin)) := ⟨e0, e1, e2⟩
  have G0 : Hid (0 ≤ t → ∀ W, Below w.heap.size w W → Calls Tryd.prog 48 #[.agg #[.int .i64 num, .int .i64 beg, .int .i64 fin], .pointer (some ⟨S, 0, none⟩)] W fun e w' => e = .returned (.bool (decide (t = 0))) ∧ Below W.heap.size W w') := g0
  have G1 : Hid (1 ≤ t → ∀ W, Below w.heap.size w W → Calls Tryd.prog 49 #[.agg #[.int .i64 num, .int .i64 beg, .int .i64 fin], .pointer (some ⟨K, 0, none⟩), .pointer (some ⟨S, 0, none⟩)] W fun e w' => e = .returned (.bool (decide (t = 1))) ∧ Below W.heap.size W w') := g1
  have G2 : Hid (2 ≤ t → ∀ W, Below w.heap.size w W → Calls Tryd.prog 50 #[.agg #[.int .i64 num, .int .i64 beg, .int .i64 fin], .pointer (some ⟨P, 0, none⟩), .pointer (some ⟨K, 0, none⟩)] W fun e w' => e = .returned (.bool (decide (t = 2))) ∧ Below W.heap.size W w') := g2
  have G3 : Hid (3 ≤ t → ∀ W, Below w.heap.size w W → Calls Tryd.prog 51 #[.agg #[.int .i64 num, .int .i64 beg, .int .i64 fin], .pointer (some ⟨S, 0, none⟩)] W fun e w' => e = .returned (.bool (decide (t = 3))) ∧ Below W.heap.size W w') := g3
  have G4 : Hid (4 ≤ t → ∀ W, Below w.heap.size w W → Calls Tryd.prog 54 #[.agg #[.int .i64 num, .int .i64 beg, .int .i64 fin], .pointer (some ⟨S, 0, none⟩), .pointer (some ⟨K, 0, none⟩)] W fun e w' => e = .returned (.bool (decide (t = 4))) ∧ Below W.heap.size W w') := g4
  clear hr hrV hb1 e0 e1 e2 g0 g1 g2 g3 g4
  have q0 := Tryd.callRules2A
  have q1 := Tryd.callRules3A
  have q2 := Tryd.callRules4A
  have q3 := Tryd.callRules5A
  have q4 := Tryd.callRules6A
  go_enter Tryd.func25, Tryd.ntmps25
  go_wp2_with fail
  go_loopw [9] (fun i wr => ∃ k : Nat, k ≤ 5 ∧ k ≤ t ∧ i = .int .i64 k ∧ Below V.heap.size V wr) (fun i _ => 5 - (intOf i).toNat)
  case atStart => exact ⟨0, by omega, Nat.zero_le _, rfl, Below.refl _ _⟩
  case round =>
    obtain ⟨k, hk, hkt, rfl, hb⟩ := hrel
    have HB : Hid (Below V.heap.size V wr) := hb
    clear hb
    rcases (show k = 0 ∨ k = 1 ∨ k = 2 ∨ k = 3 ∨ k = 4 ∨ k = 5 by omega) with rfl | rfl | rfl | rfl | rfl | rfl
    · have c0 := cell_later HB.out HV.out.2.e0
      have c1 := cell_later HB.out HV.out.2.f0
      have HN : Hid (Below V.heap.size V (wr.alloc (.cells #[.iface 143 (.pointer (some (ad 3))), .func (.func 48) #[] #[.pointer (some ⟨S, 0, none⟩)]] 92))) := HB.out.alloc HB.out.size _
      have x0 := cell_later HN.out HX.out.1
      have x1 := cell_later HN.out HX.out.2.1
      have x2 := cell_later HN.out HX.out.2.2
      have HC := (show Hid (∀ W, Below w.heap.size w W → Calls Tryd.prog 48 #[.agg #[.int .i64 num, .int .i64 beg, .int .i64 fin], .pointer (some ⟨S, 0, none⟩)] W fun e w' => e = .returned (.bool (decide (t = 0))) ∧ Below W.heap.size W w') from G0.out hkt)
      by_cases htj : t = 0
      · have HC' : Hid (∀ W, Below w.heap.size w W → Calls Tryd.prog 48 #[.agg #[.int .i64 num, .int .i64 beg, .int .i64 fin], .pointer (some ⟨S, 0, none⟩)] W fun e w' => e = .returned (.bool true) ∧ Below W.heap.size W w') := fun W hW => by
          have := HC.out W hW
          rwa [decide_eq_true htj] at this
        have HT : Hid (t = 0) := htj
        clear htj HC
        go_wp2_with fail
        refine (HC'.out _ (HV.out.1.trans (HN.out.mono HV.out.1.size))).mono ?_
        rintro e w1 ⟨rfl, hb1⟩
        have HB1 : Hid (Below V.heap.size V w1) := HN.out.trans (hb1.mono HN.out.size)
        have r0 : w1.cell? ⟨wr.heap.size, 0, none⟩ = some (.iface 143 (.pointer (some (ad 3)))) := cell_later hb1 (by simp)
        clear hb1
        go_wp2_with fail
        go_ret
        exact ⟨by rw [HT.out]; rfl, HV.out.1.trans (HB1.out.mono HV.out.1.size)⟩
      · have HC' : Hid (∀ W, Below w.heap.size w W → Calls Tryd.prog 48 #[.agg #[.int .i64 num, .int .i64 beg, .int .i64 fin], .pointer (some ⟨S, 0, none⟩)] W fun e w' => e = .returned (.bool false) ∧ Below W.heap.size W w') := fun W hW => by
          have := HC.out W hW
          rwa [decide_eq_false htj] at this
        have HT : Hid (¬ t = 0) := htj
        clear htj HC
        go_wp2_with fail
        refine (HC'.out _ (HV.out.1.trans (HN.out.mono HV.out.1.size))).mono ?_
        rintro e w1 ⟨rfl, hb1⟩
        have HB1 : Hid (Below V.heap.size V w1) := HN.out.trans (hb1.mono HN.out.size)
        clear hb1
        go_wp2_with fail
        go_roundw
        case rel => exact ⟨1, by omega, by have := HT.out; omega, by go_num, HB1.out⟩
        case measure => simp [intOf]
    · have c0 := cell_later HB.out HV.out.2.e1
      have c1 := cell_later HB.out HV.out.2.f1
      have HN : Hid (Below V.heap.size V (wr.alloc (.cells #[.iface 143 (.pointer (some (ad 4))), .func (.func 49) #[] #[.pointer (some ⟨K, 0, none⟩), .pointer (some ⟨S, 0, none⟩)]] 92))) := HB.out.alloc HB.out.size _
      have x0 := cell_later HN.out HX.out.1
      have x1 := cell_later HN.out HX.out.2.1
      have x2 := cell_later HN.out HX.out.2.2
      have HC := (show Hid (∀ W, Below w.heap.size w W → Calls Tryd.prog 49 #[.agg #[.int .i64 num, .int .i64 beg, .int .i64 fin], .pointer (some ⟨K, 0, none⟩), .pointer (some ⟨S, 0, none⟩)] W fun e w' => e = .returned (.bool (decide (t = 1))) ∧ Below W.heap.size W w') from G1.out hkt)
      by_cases htj : t = 1
      · have HC' : Hid (∀ W, Below w.heap.size w W → Calls Tryd.prog 49 #[.agg #[.int .i64 num, .int .i64 beg, .int .i64 fin], .pointer (some ⟨K, 0, none⟩), .pointer (some ⟨S, 0, none⟩)] W fun e w' => e = .returned (.bool true) ∧ Below W.heap.size W w') := fun W hW => by
          have := HC.out W hW
          rwa [decide_eq_true htj] at this
        have HT : Hid (t = 1) := htj
        clear htj HC
        go_wp2_with fail
        refine (HC'.out _ (HV.out.1.trans (HN.out.mono HV.out.1.size))).mono ?_
        rintro e w1 ⟨rfl, hb1⟩
        have HB1 : Hid (Below V.heap.size V w1) := HN.out.trans (hb1.mono HN.out.size)
        have r0 : w1.cell? ⟨wr.heap.size, 0, none⟩ = some (.iface 143 (.pointer (some (ad 4)))) := cell_later hb1 (by simp)
        clear hb1
        go_wp2_with fail
        go_ret
        exact ⟨by rw [HT.out]; rfl, HV.out.1.trans (HB1.out.mono HV.out.1.size)⟩
      · have HC' : Hid (∀ W, Below w.heap.size w W → Calls Tryd.prog 49 #[.agg #[.int .i64 num, .int .i64 beg, .int .i64 fin], .pointer (some ⟨K, 0, none⟩), .pointer (some ⟨S, 0, none⟩)] W fun e w' => e = .returned (.bool false) ∧ Below W.heap.size W w') := fun W hW => by
          have := HC.out W hW
          rwa [decide_eq_false htj] at this
        have HT : Hid (¬ t = 1) := htj
        clear htj HC
        go_wp2_with fail
        refine (HC'.out _ (HV.out.1.trans (HN.out.mono HV.out.1.size))).mono ?_
        rintro e w1 ⟨rfl, hb1⟩
        have HB1 : Hid (Below V.heap.size V w1) := HN.out.trans (hb1.mono HN.out.size)
        clear hb1
        go_wp2_with fail
        go_roundw
        case rel => exact ⟨2, by omega, by have := HT.out; omega, by go_num, HB1.out⟩
        case measure => simp [intOf]
    · have c0 := cell_later HB.out HV.out.2.e2
      have c1 := cell_later HB.out HV.out.2.f2
      have HN : Hid (Below V.heap.size V (wr.alloc (.cells #[.iface 143 (.pointer (some (ad 2))), .func (.func 50) #[] #[.pointer (some ⟨P, 0, none⟩), .pointer (some ⟨K, 0, none⟩)]] 92))) := HB.out.alloc HB.out.size _
      have x0 := cell_later HN.out HX.out.1
      have x1 := cell_later HN.out HX.out.2.1
      have x2 := cell_later HN.out HX.out.2.2
      have HC := (show Hid (∀ W, Below w.heap.size w W → Calls Tryd.prog 50 #[.agg #[.int .i64 num, .int .i64 beg, .int .i64 fin], .pointer (some ⟨P, 0, none⟩), .pointer (some ⟨K, 0, none⟩)] W fun e w' => e = .returned (.bool (decide (t = 2))) ∧ Below W.heap.size W w') from G2.out hkt)
      by_cases htj : t = 2
      · have HC' : Hid (∀ W, Below w.heap.size w W → Calls Tryd.prog 50 #[.agg #[.int .i64 num, .int .i64 beg, .int .i64 fin], .pointer (some ⟨P, 0, none⟩), .pointer (some ⟨K, 0, none⟩)] W fun e w' => e = .returned (.bool true) ∧ Below W.heap.size W w') := fun W hW => by
          have := HC.out W hW
          rwa [decide_eq_true htj] at this
        have HT : Hid (t = 2) := htj
        clear htj HC
        go_wp2_with fail
        refine (HC'.out _ (HV.out.1.trans (HN.out.mono HV.out.1.size))).mono ?_
        rintro e w1 ⟨rfl, hb1⟩
        have HB1 : Hid (Below V.heap.size V w1) := HN.out.trans (hb1.mono HN.out.size)
        have r0 : w1.cell? ⟨wr.heap.size, 0, none⟩ = some (.iface 143 (.pointer (some (ad 2)))) := cell_later hb1 (by simp)
        clear hb1
        go_wp2_with fail
        go_ret
        exact ⟨by rw [HT.out]; rfl, HV.out.1.trans (HB1.out.mono HV.out.1.size)⟩
      · have HC' : Hid (∀ W, Below w.heap.size w W → Calls Tryd.prog 50 #[.agg #[.int .i64 num, .int .i64 beg, .int .i64 fin], .pointer (some ⟨P, 0, none⟩), .pointer (some ⟨K, 0, none⟩)] W fun e w' => e = .returned (.bool false) ∧ Below W.heap.size W w') := fun W hW => by
          have := HC.out W hW
          rwa [decide_eq_false htj] at this
        have HT : Hid (¬ t = 2) := htj
        clear htj HC
        go_wp2_with fail
        refine (HC'.out _ (HV.out.1.trans (HN.out.mono HV.out.1.size))).mono ?_
        rintro e w1 ⟨rfl, hb1⟩
        have HB1 : Hid (Below V.heap.size V w1) := HN.out.trans (hb1.mono HN.out.size)
        clear hb1
        go_wp2_with fail
        go_roundw
        case rel => exact ⟨3, by omega, by have := HT.out; omega, by go_num, HB1.out⟩
        case measure => simp [intOf]
    · have c0 := cell_later HB.out HV.out.2.e3
      have c1 := cell_later HB.out HV.out.2.f3
      have HN : Hid (Below V.heap.size V (wr.alloc (.cells #[.iface 143 (.pointer (some (ad 6))), .func (.func 51) #[] #[.pointer (some ⟨S, 0, none⟩)]] 92))) := HB.out.alloc HB.out.size _
      have x0 := cell_later HN.out HX.out.1
      have x1 := cell_later HN.out HX.out.2.1
      have x2 := cell_later HN.out HX.out.2.2
      have HC := (show Hid (∀ W, Below w.heap.size w W → Calls Tryd.prog 51 #[.agg #[.int .i64 num, .int .i64 beg, .int .i64 fin], .pointer (some ⟨S, 0, none⟩)] W fun e w' => e = .returned (.bool (decide (t = 3))) ∧ Below W.heap.size W w') from G3.out hkt)
      by_cases htj : t = 3
      · have HC' : Hid (∀ W, Below w.heap.size w W → Calls Tryd.prog 51 #[.agg #[.int .i64 num, .int .i64 beg, .int .i64 fin], .pointer (some ⟨S, 0, none⟩)] W fun e w' => e = .returned (.bool true) ∧ Below W.heap.size W w') := fun W hW => by
          have := HC.out W hW
          rwa [decide_eq_true htj] at this
        have HT : Hid (t = 3) := htj
        clear htj HC
        go_wp2_with fail
        refine (HC'.out _ (HV.out.1.trans (HN.out.mono HV.out.1.size))).mono ?_
        rintro e w1 ⟨rfl, hb1⟩
        have HB1 : Hid (Below V.heap.size V w1) := HN.out.trans (hb1.mono HN.out.size)
        have r0 : w1.cell? ⟨wr.heap.size, 0, none⟩ = some (.iface 143 (.pointer (some (ad 6)))) := cell_later hb1 (by simp)
        clear hb1
        go_wp2_with fail
        go_ret
        exact ⟨by rw [HT.out]; rfl, HV.out.1.trans (HB1.out.mono HV.out.1.size)⟩
      · have HC' : Hid (∀ W, Below w.heap.size w W → Calls Tryd.prog 51 #[.agg #[.int .i64 num, .int .i64 beg, .int .i64 fin], .pointer (some ⟨S, 0, none⟩)] W fun e w' => e = .returned (.bool false) ∧ Below W.heap.size W w') := fun W hW => by
          have := HC.out W hW
          rwa [decide_eq_false htj] at this
        have HT : Hid (¬ t = 3) := htj
        clear htj HC
        go_wp2_with fail
        refine (HC'.out _ (HV.out.1.trans (HN.out.mono HV.out.1.size))).mono ?_
        rintro e w1 ⟨rfl, hb1⟩
        have HB1 : Hid (Below V.heap.size V w1) := HN.out.trans (hb1.mono HN.out.size)
        clear hb1
        go_wp2_with fail
        go_roundw
        case rel => exact ⟨4, by omega, by have := HT.out; omega, by go_num, HB1.out⟩
        case measure => simp [intOf]
    · have c0 := cell_later HB.out HV.out.2.e4
      have c1 := cell_later HB.out HV.out.2.f4
      have HN : Hid (Below V.heap.size V (wr.alloc (.cells #[.iface 143 (.pointer (some (ad 7))), .func (.func 54) #[] #[.pointer (some ⟨S, 0, none⟩), .pointer (some ⟨K, 0, none⟩)]] 92))) := HB.out.alloc HB.out.size _
      have x0 := cell_later HN.out HX.out.1
      have x1 := cell_later HN.out HX.out.2.1
      have x2 := cell_later HN.out HX.out.2.2
      have HC := (show Hid (∀ W, Below w.heap.size w W → Calls Tryd.prog 54 #[.agg #[.int .i64 num, .int .i64 beg, .int .i64 fin], .pointer (some ⟨S, 0, none⟩), .pointer (some ⟨K, 0, none⟩)] W fun e w' => e = .returned (.bool (decide (t = 4))) ∧ Below W.heap.size W w') from G4.out hkt)
      by_cases htj : t = 4
      · have HC' : Hid (∀ W, Below w.heap.size w W → Calls Tryd.prog 54 #[.agg #[.int .i64 num, .int .i64 beg, .int .i64 fin], .pointer (some ⟨S, 0, none⟩), .pointer (some ⟨K, 0, none⟩)] W fun e w' => e = .returned (.bool true) ∧ Below W.heap.size W w') := fun W hW => by
          have := HC.out W hW
          rwa [decide_eq_true htj] at this
        have HT : Hid (t = 4) := htj
        clear htj HC
        go_wp2_with fail
        refine (HC'.out _ (HV.out.1.trans (HN.out.mono HV.out.1.size))).mono ?_
        rintro e w1 ⟨rfl, hb1⟩
        have HB1 : Hid (Below V.heap.size V w1) := HN.out.trans (hb1.mono HN.out.size)
        have r0 : w1.cell? ⟨wr.heap.size, 0, none⟩ = some (.iface 143 (.pointer (some (ad 7)))) := cell_later hb1 (by simp)
        clear hb1
        go_wp2_with fail
        go_ret
        exact ⟨by rw [HT.out]; rfl, HV.out.1.trans (HB1.out.mono HV.out.1.size)⟩
      · have HC' : Hid (∀ W, Below w.heap.size w W → Calls Tryd.prog 54 #[.agg #[.int .i64 num, .int .i64 beg, .int .i64 fin], .pointer (some ⟨S, 0, none⟩), .pointer (some ⟨K, 0, none⟩)] W fun e w' => e = .returned (.bool false) ∧ Below W.heap.size W w') := fun W hW => by
          have := HC.out W hW
          rwa [decide_eq_false htj] at this
        have HT : Hid (¬ t = 4) := htj
        clear htj HC
        go_wp2_with fail
        refine (HC'.out _ (HV.out.1.trans (HN.out.mono HV.out.1.size))).mono ?_
        rintro e w1 ⟨rfl, hb1⟩
        have HB1 : Hid (Below V.heap.size V w1) := HN.out.trans (hb1.mono HN.out.size)
        clear hb1
        go_wp2_with fail
        go_roundw
        case rel => exact ⟨5, by omega, by have := HT.out; omega, by go_num, HB1.out⟩
        case measure => simp [intOf]
    · obtain rfl : t = 5 := by omega
      go_wp2_with fail
      go_ret
      exact ⟨rfl, HV.out.1.trans (HB.out.mono HV.out.1.size)⟩

/-- The first rule that one does not keep to: its error. -/
theorem auFirst (R S K P G D : Nat) (pa : Option Addr) (cap : Nat) (ps : List Pk) (per : Int) (out : List Sn) (ad : Nat → Addr) (w : World) (num beg fin : Int) (c : Int) (h : AuSend w S K P G D pa cap ps per out) (hr : RulesAt w R S K P ad) (ho : OkPks ps) (h1 : 1 ≤ per) (h2 : per ≤ 1000) (ht : -2000000000000000 ≤ beg ∧ beg ≤ 2000000000000000) (hs : SentIs per ps out ⟨num, beg, fin⟩ c) :
    Calls Tryd.prog 25 #[.slice (some ⟨R, 0, none⟩) 5 5, .agg #[.int .i64 num, .int .i64 beg, .int .i64 fin]] w fun e w' => e = .returned (sentOf ad c.toNat) ∧ Below w.heap.size w w' := by
  have key : ∀ t, t ≤ 5 → ruleErr ad t = sentOf ad c.toNat → (∀ W, Below w.heap.size w W → Calls Tryd.prog 48 #[.agg #[.int .i64 num, .int .i64 beg, .int .i64 fin], .pointer (some ⟨S, 0, none⟩)] W fun e w' => e = .returned (.bool (decide (t = 0))) ∧ Below W.heap.size W w') →
      (1 ≤ t → ∃ k : Nat, num = k ∧ k < ps.length ∧ (decide (t = 1) = true ↔ (beg < tickOf ps k ∨ beg < lastFin out)) ∧ (2 ≤ t → (decide (t = 2) = true ↔ fin - beg ≠ per * bytesOf ps k)) ∧ (3 ≤ t → (decide (t = 3) = true ↔ IdlesAt ps out ⟨num, beg, fin⟩)) ∧ (4 ≤ t → (decide (t = 4) = true ↔ OutOfTurn ps out k))) →
      Calls Tryd.prog 25 #[.slice (some ⟨R, 0, none⟩) 5 5, .agg #[.int .i64 num, .int .i64 beg, .int .i64 fin]] w fun e w' => e = .returned (sentOf ad c.toNat) ∧ Below w.heap.size w w' := by
    intro t ht5 he g0 hrest
    have := auFirst_by R S K P ad w num beg fin hr t ht5 (fun _ => g0)
      (fun h' W hW => by
        obtain ⟨k, hk, hkl, b1, b2, b3, b4⟩ := hrest h'
        obtain ⟨q, hq, -⟩ := get_some ps k hkl
        rw [tickOf_get hq] at b1
        exact auOld S K P G D pa cap ps per out W num beg fin (h.later hW) ho.few k hk q hq _ b1)
      (fun h' W hW => by
        obtain ⟨k, hk, hkl, b1, b2, b3, b4⟩ := hrest (by omega)
        obtain ⟨q, hq, -⟩ := get_some ps k hkl
        have b2 := b2 h'
        rw [bytesOf_get hq] at b2
        exact auShape S K P G D pa cap ps per out W num beg fin (h.later hW) ho.few k hk q hq (ho.each _ q hq).1 h1 h2 ht _ b2)
      (fun h' W hW => by
        obtain ⟨k, hk, hkl, b1, b2, b3, b4⟩ := hrest (by omega)
        exact auIdle S K P G D pa cap ps per out W num beg fin (h.later hW) ho.few _ (b3 h'))
      (fun h' W hW => by
        obtain ⟨k, hk, hkl, b1, b2, b3, b4⟩ := hrest (by omega)
        exact auTurn S K P G D pa cap ps per out W num beg fin (h.later hW) ho k hk hkl _ (b4 h'))
    rwa [he] at this
  rcases hs with ⟨rfl, hnum⟩ | ⟨k, hk, hkl, hrest⟩
  · exact key 0 (by omega) rfl (fun W hW => auNone S K P G D pa cap ps per out W num beg fin (h.later hW) _ (.inl ⟨rfl, hnum⟩)) (fun h' => by omega)
  · have hk' : num = (k : Int) := hk
    rcases hrest with ⟨rfl, hd⟩ | ⟨hd, hrest⟩
    · exact key 0 (by omega) rfl (fun W hW => auNone S K P G D pa cap ps per out W num beg fin (h.later hW) _ (.inr ⟨k, hk', hkl, by rw [hd]; rfl⟩)) (fun h' => by omega)
    · have g0 : ∀ t, 0 < t → ∀ W, Below w.heap.size w W → Calls Tryd.prog 48 #[.agg #[.int .i64 num, .int .i64 beg, .int .i64 fin], .pointer (some ⟨S, 0, none⟩)] W fun e w' => e = .returned (.bool (decide (t = 0))) ∧ Below W.heap.size W w' := fun t h0 W hW => auNone S K P G D pa cap ps per out W num beg fin (h.later hW) _ (.inr ⟨k, hk', hkl, by rw [hd, decide_eq_false (by omega)]⟩)
      rcases hrest with ⟨rfl, hold⟩ | ⟨o1, o2, hrest⟩
      · exact key 1 (by omega) rfl (g0 1 (by omega)) (fun _ => ⟨k, hk', hkl, ⟨fun _ => hold, fun _ => rfl⟩, fun h' => by omega, fun h' => by omega, fun h' => by omega⟩)
      · have n1 : ¬ (beg < tickOf ps k ∨ beg < lastFin out) := by
          have o1' : tickOf ps k ≤ beg := o1
          have o2' : lastFin out ≤ beg := o2
          omega
        have no : ∀ t i : Nat, t ≠ i → ∀ {p : Prop}, ¬ p → (decide (t = i) = true ↔ p) := fun t i hti p hp => ⟨fun hh => absurd (of_decide_eq_true hh) hti, fun hh => absurd hh hp⟩
        rcases hrest with ⟨rfl, hsh⟩ | ⟨hsh, hrest⟩
        · exact key 2 (by omega) rfl (g0 2 (by omega)) (fun _ => ⟨k, hk', hkl, no 2 1 (by omega) n1, fun _ => ⟨fun _ => hsh, fun _ => rfl⟩, fun h' => by omega, fun h' => by omega⟩)
        · have n2 : ¬ (fin - beg ≠ per * bytesOf ps k) := fun hh => hh hsh
          rcases hrest with ⟨rfl, hid⟩ | ⟨hid, hrest⟩
          · exact key 3 (by omega) rfl (g0 3 (by omega)) (fun _ => ⟨k, hk', hkl, no 3 1 (by omega) n1, fun _ => no 3 2 (by omega) n2, fun _ => ⟨fun _ => hid, fun _ => rfl⟩, fun h' => by omega⟩)
          · rcases hrest with ⟨rfl, hto⟩ | ⟨rfl, hto⟩
            · exact key 4 (by omega) rfl (g0 4 (by omega)) (fun _ => ⟨k, hk', hkl, no 4 1 (by omega) n1, fun _ => no 4 2 (by omega) n2, fun _ => no 4 3 (by omega) hid, fun _ => ⟨fun _ => hto, fun _ => rfl⟩⟩)
            · exact key 5 (by omega) rfl (g0 5 (by omega)) (fun _ => ⟨k, hk', hkl, no 5 1 (by omega) n1, fun _ => no 5 2 (by omega) n2, fun _ => no 5 3 (by omega) hid, fun _ => no 5 4 (by omega) hto⟩)
end Go.Proofs.YtolbmkniafkeaaaDoor

/- Walks: package audit's goOn, rules; the library's slices.Contains of a row of bools. -/
namespace Go.Proofs.YtolbmkniafkeaaaDoor
open Go.RowKit

/-- All that Check holds while it goes through what was sent. -/
structure AuditAt (w0 w : World) (R S K P G D : Nat) (pa : Option Addr) (cap : Nat) (ps : List Pk) (per : Int) (out : List Sn) (ad : Nat → Addr) : Prop where
  send : AuSend w S K P G D pa cap ps per out
  rules : RulesAt w R S K P ad
  gf : w.frozen? ⟨G, 2, none⟩ = false
  ne : G ≠ D ∧ S ≠ G ∧ S ≠ D ∧ K ≠ G ∧ K ≠ D ∧ P ≠ G ∧ P ≠ D ∧ R ≠ G ∧ R ≠ D
  new : w0.heap.size ≤ G ∧ w0.heap.size ≤ D
  pks : LiesP w0 pa ps
  below : Below w0.heap.size w0 w
section
variable {w0 w w' : World} {R S K P G D : Nat} {pa : Option Addr} {cap : Nat} {ps : List Pk} {per : Int} {out : List Sn} {ad : Nat → Addr}
theorem AuditAt.later (h : AuditAt w0 w R S K P G D pa cap ps per out ad) (hb : Below w.heap.size w w') : AuditAt w0 w' R S K P G D pa cap ps per out ad :=
  ⟨h.send.later hb, h.rules.later hb, by rw [hb.frozen (p := ⟨G, 2, none⟩) (cell_lt h.send.g2)]; exact h.gf, h.ne, h.new, h.pks, h.below.trans (hb.mono h.below.size)⟩
theorem cell_two {a b c : Addr} {u v : Value} (h1 : a ≠ b) (h2 : a ≠ c) : ((w.setCell b u).drew.setCell c v).cell? a = w.cell? a := by
  rw [World.cell?_setCell_other _ _ _ _ (Ne.symm h2), World.cell?_drew, World.cell?_setCell_other _ _ _ _ (Ne.symm h1)]
theorem AuditAt.put (h : AuditAt w0 w R S K P G D pa cap ps per out ad) (k : Nat) (hk : k < ps.length) (beg fin : Int) : AuditAt w0 ((w.setCell ⟨D, k, none⟩ (.bool true)).drew.setCell ⟨G, 2, none⟩ (.int .i64 fin)) R S K P G D pa cap ps per (out ++ [⟨k, beg, fin⟩]) ad := by
  obtain ⟨n1, n2, n3, n4, n5, n6, n7, n8, n9⟩ := h.ne
  have hbel : Below w0.heap.size w0 ((w.setCell ⟨D, k, none⟩ (.bool true)).drew.setCell ⟨G, 2, none⟩ (.int .i64 fin)) := (below_drewN (h.below.setCell (p := ⟨D, k, none⟩) h.new.2 _) 1).setCell (p := ⟨G, 2, none⟩) h.new.1 _
  have cl : ∀ {B o : Nat} {v : Value}, B ≠ D → B ≠ G → w.cell? ⟨B, o, none⟩ = some v → ((w.setCell ⟨D, k, none⟩ (.bool true)).drew.setCell ⟨G, 2, none⟩ (.int .i64 fin)).cell? ⟨B, o, none⟩ = some v := fun {B o v} h1 h2 hv => by
    rw [cell_two (fun e => h1 (congrArg Addr.block e)) (fun e => h2 (congrArg Addr.block e))]; exact hv
  have hd := h.send.done.put k hk beg fin
  refine ⟨⟨cl n3 n2 h.send.s, cl n5 n4 h.send.k, cl n7 n6 h.send.p, ?_, ?_, ?_, h.pks.below hbel, ?_⟩, ⟨cl n9 n8 h.rules.e0, cl n9 n8 h.rules.f0, cl n9 n8 h.rules.e1, cl n9 n8 h.rules.f1, cl n9 n8 h.rules.e2, cl n9 n8 h.rules.f2, cl n9 n8 h.rules.e3, cl n9 n8 h.rules.f3, cl n9 n8 h.rules.e4, cl n9 n8 h.rules.f4⟩, ?_, h.ne, h.new, h.pks, hbel⟩
  · rw [cell_two (fun e => n1 (congrArg Addr.block e)) (fun e => by cases e)]; exact h.send.g0
  · rw [cell_two (fun e => n1 (congrArg Addr.block e)) (fun e => by cases e)]; exact h.send.g1
  · rw [lastFin_snoc]
    refine World.cell?_setCell_same' _ _ _ ?_
    rw [World.cell?_drew, World.cell?_setCell_other _ _ _ _ (fun e => n1 (congrArg Addr.block e).symm), h.send.g2]
    rfl
  · refine hd.of_block ?_ (by simp [World.setCell])
    exact Below.heap_setCell _ _ _ _ fun e => n1 e.symm
  · rw [World.frozen?_setCell, World.frozen?_drew, World.frozen?_setCell]; exact h.gf
end

set_option maxRecDepth 100000 in
set_option maxHeartbeats 2000000 in
theorem auGoOn (w0 w : World) (R S K P G D : Nat) (pa : Option Addr) (cap : Nat) (ps : List Pk) (per : Int) (out : List Sn) (ad : Nat → Addr) (h : AuditAt w0 w R S K P G D pa cap ps per out ad) (k : Nat) (hk : k < ps.length) (beg fin : Int) :
    Calls Tryd.prog 26 #[.pointer (some ⟨G, 0, none⟩), .agg #[.int .i64 (k : Int), .int .i64 beg, .int .i64 fin]] w fun e w' => e = .returned (.tuple #[]) ∧ AuditAt w0 w' R S K P G D pa cap ps per (out ++ [⟨k, beg, fin⟩]) ad := by
  have hb1 : Below w.heap.size w (w.alloc (.cells #[.int .i64 (k : Int), .int .i64 beg, .int .i64 fin] 44)) := (Below.refl _ _).alloc (Nat.le_refl _) _
  have e0 : (w.alloc (.cells #[.int .i64 (k : Int), .int .i64 beg, .int .i64 fin] 44)).cell? ⟨w.heap.size, 0, none⟩ = some (.int .i64 (k : Int)) := by simp
  have e2 : (w.alloc (.cells #[.int .i64 (k : Int), .int .i64 beg, .int .i64 fin] 44)).cell? ⟨w.heap.size, 2, none⟩ = some (.int .i64 fin) := by simp
  have hV := h.later hb1
  have hlt := Nat.lt_of_lt_of_le h.send.done.lt (Nat.le_refl _)
  have hne : w.heap.size ≠ D := by omega
  obtain ⟨V, hVe⟩ : ∃ V, w.alloc (.cells #[.int .i64 (k : Int), .int .i64 beg, .int .i64 fin] 44) = V := ⟨_, rfl⟩
  rw [hVe] at e0 e2 hV
  have HE : Hid (AuditAt w0 ((V.setCell ⟨D, k, none⟩ (.bool true)).drew.setCell ⟨G, 2, none⟩ (.int .i64 fin)) R S K P G D pa cap ps per (out ++ [⟨k, beg, fin⟩]) ad) := hV.put k hk beg fin
  have c1 := hV.send.g1
  have d1 := hV.send.done.cell k hk
  have f1 := hV.send.done.frozen k
  have u2 : ((V.setCell ⟨D, k, none⟩ (.bool true)).drew).cell? ⟨w.heap.size, 2, none⟩ = some (.int .i64 fin) := by
    rw [World.cell?_drew, World.cell?_setCell_other _ _ _ _ (fun e => hne (congrArg Addr.block e).symm)]; exact e2
  have u3 : ((V.setCell ⟨D, k, none⟩ (.bool true)).drew).cell? ⟨G, 2, none⟩ = some (.int .i64 (lastFin out)) := by
    rw [World.cell?_drew, World.cell?_setCell_other _ _ _ _ (fun e => hV.ne.1 (congrArg Addr.block e).symm)]; exact hV.send.g2
  have u4 : ((V.setCell ⟨D, k, none⟩ (.bool true)).drew).frozen? ⟨G, 2, none⟩ = false := by
    rw [World.frozen?_drew, World.frozen?_setCell]; exact hV.gf
  obtain ⟨n, hnn⟩ : ∃ n, ps.length = n := ⟨_, rfl⟩
  rw [hnn] at hk c1
  obtain ⟨Y, hY⟩ : ∃ Y, (V.setCell ⟨D, k, none⟩ (.bool true)).drew = Y := ⟨_, rfl⟩
  rw [hY] at HE u2 u3 u4
  clear h hb1 hV hnn hlt hne
  go_enter Tryd.func26, Tryd.ntmps26
  go_wp2_with fail
  go_region
  go_wp2_with fail
  go_end0
  exact ⟨rfl, HE.out⟩

set_option maxRecDepth 100000 in
set_option maxHeartbeats 2000000 in
/-- The rules are made. -/
theorem auRules (w : World) (G : Nat) (per : Int) (ad : Nat → Addr) (he : Errs9 w ad) :
    Calls Tryd.prog 24 #[.pointer (some ⟨G, 0, none⟩), .int .i64 per] w fun e w' => e = .returned (.slice (some ⟨w.heap.size + 3, 0, none⟩) 5 5) ∧ RulesAt w' (w.heap.size + 3) w.heap.size (w.heap.size + 2) (w.heap.size + 1) ad ∧ w'.cell? ⟨w.heap.size, 0, none⟩ = some (.pointer (some ⟨G, 0, none⟩)) ∧ w'.cell? ⟨w.heap.size + 2, 0, none⟩ = some (.func (.func 47) #[] #[.pointer (some ⟨w.heap.size, 0, none⟩)]) ∧ w'.cell? ⟨w.heap.size + 1, 0, none⟩ = some (.int .i64 per) ∧ Below w.heap.size w w' := by
  have hs1 : (w.alloc (.cells #[.pointer (some ⟨G, 0, none⟩)] 56)).heap.size = w.heap.size + 1 := by simp
  have hs2 : ((w.alloc (.cells #[.pointer (some ⟨G, 0, none⟩)] 56)).alloc (.cells #[.int .i64 per] 3)).heap.size = w.heap.size + 2 := by simp
  have hs3 : (((w.alloc (.cells #[.pointer (some ⟨G, 0, none⟩)] 56)).alloc (.cells #[.int .i64 per] 3)).alloc (.cells #[.func (.func 47) #[] #[.pointer (some ⟨w.heap.size, 0, none⟩)]] 89)).heap.size = w.heap.size + 3 := by simp
  have b1 : Below w.heap.size w (w.alloc (.cells #[.pointer (some ⟨G, 0, none⟩)] 56)) := (Below.refl _ _).alloc (Nat.le_refl _) _
  have b2 : Below (w.alloc (.cells #[.pointer (some ⟨G, 0, none⟩)] 56)).heap.size (w.alloc (.cells #[.pointer (some ⟨G, 0, none⟩)] 56)) ((w.alloc (.cells #[.pointer (some ⟨G, 0, none⟩)] 56)).alloc (.cells #[.int .i64 per] 3)) := (Below.refl _ _).alloc (Nat.le_refl _) _
  have b3 : Below ((w.alloc (.cells #[.pointer (some ⟨G, 0, none⟩)] 56)).alloc (.cells #[.int .i64 per] 3)).heap.size ((w.alloc (.cells #[.pointer (some ⟨G, 0, none⟩)] 56)).alloc (.cells #[.int .i64 per] 3)) (((w.alloc (.cells #[.pointer (some ⟨G, 0, none⟩)] 56)).alloc (.cells #[.int .i64 per] 3)).alloc (.cells #[.func (.func 47) #[] #[.pointer (some ⟨w.heap.size, 0, none⟩)]] 89)) := (Below.refl _ _).alloc (Nat.le_refl _) _
  have hb : Below w.heap.size w (((w.alloc (.cells #[.pointer (some ⟨G, 0, none⟩)] 56)).alloc (.cells #[.int .i64 per] 3)).alloc (.cells #[.func (.func 47) #[] #[.pointer (some ⟨w.heap.size, 0, none⟩)]] 89)) := (b1.trans (b2.mono b1.size)).trans (b3.mono (by rw [hs2]; omega))
  have k0 : (((w.alloc (.cells #[.pointer (some ⟨G, 0, none⟩)] 56)).alloc (.cells #[.int .i64 per] 3)).alloc (.cells #[.func (.func 47) #[] #[.pointer (some ⟨w.heap.size, 0, none⟩)]] 89)).cell? ⟨w.heap.size, 0, none⟩ = some (.pointer (some ⟨G, 0, none⟩)) := cell_later b3 (cell_later b2 (by simp))
  have k1 : (((w.alloc (.cells #[.pointer (some ⟨G, 0, none⟩)] 56)).alloc (.cells #[.int .i64 per] 3)).alloc (.cells #[.func (.func 47) #[] #[.pointer (some ⟨w.heap.size, 0, none⟩)]] 89)).cell? ⟨w.heap.size + 1, 0, none⟩ = some (.int .i64 per) := cell_later b3 (by rw [World.cell?_alloc_at _ _ _ _ hs1.symm]; rfl)
  have k2 : (((w.alloc (.cells #[.pointer (some ⟨G, 0, none⟩)] 56)).alloc (.cells #[.int .i64 per] 3)).alloc (.cells #[.func (.func 47) #[] #[.pointer (some ⟨w.heap.size, 0, none⟩)]] 89)).cell? ⟨w.heap.size + 2, 0, none⟩ = some (.func (.func 47) #[] #[.pointer (some ⟨w.heap.size, 0, none⟩)]) := by rw [World.cell?_alloc_at _ _ _ _ hs2.symm]; rfl
  have he3 := he.below hb
  have HK : Hid ((((w.alloc (.cells #[.pointer (some ⟨G, 0, none⟩)] 56)).alloc (.cells #[.int .i64 per] 3)).alloc (.cells #[.func (.func 47) #[] #[.pointer (some ⟨w.heap.size, 0, none⟩)]] 89)).heap.size = w.heap.size + 3 ∧ Below w.heap.size w (((w.alloc (.cells #[.pointer (some ⟨G, 0, none⟩)] 56)).alloc (.cells #[.int .i64 per] 3)).alloc (.cells #[.func (.func 47) #[] #[.pointer (some ⟨w.heap.size, 0, none⟩)]] 89)) ∧ (((w.alloc (.cells #[.pointer (some ⟨G, 0, none⟩)] 56)).alloc (.cells #[.int .i64 per] 3)).alloc (.cells #[.func (.func 47) #[] #[.pointer (some ⟨w.heap.size, 0, none⟩)]] 89)).cell? ⟨w.heap.size, 0, none⟩ = some (.pointer (some ⟨G, 0, none⟩)) ∧ (((w.alloc (.cells #[.pointer (some ⟨G, 0, none⟩)] 56)).alloc (.cells #[.int .i64 per] 3)).alloc (.cells #[.func (.func 47) #[] #[.pointer (some ⟨w.heap.size, 0, none⟩)]] 89)).cell? ⟨w.heap.size + 1, 0, none⟩ = some (.int .i64 per) ∧ (((w.alloc (.cells #[.pointer (some ⟨G, 0, none⟩)] 56)).alloc (.cells #[.int .i64 per] 3)).alloc (.cells #[.func (.func 47) #[] #[.pointer (some ⟨w.heap.size, 0, none⟩)]] 89)).cell? ⟨w.heap.size + 2, 0, none⟩ = some (.func (.func 47) #[] #[.pointer (some ⟨w.heap.size, 0, none⟩)])) := ⟨hs3, hb, k0, k1, k2⟩
  have n0 := he3.c3
  have n1 := he3.c4
  have n2 := he3.c2
  have n3 := he3.c6
  have n4 := he3.c7
  clear he he3 hs1 hs2 hs3 b1 b2 b3 hb k0 k1 k2
  go_enter Tryd.func24, Tryd.ntmps24
  go_wp2_with fail
  go_ret
  obtain ⟨hs3, hb, k0, k1, k2⟩ := HK.out
  clear HK n0 n1 n2 n3 n4
  generalize (((w.alloc (.cells #[.pointer (some ⟨G, 0, none⟩)] 56)).alloc (.cells #[.int .i64 per] 3)).alloc (.cells #[.func (.func 47) #[] #[.pointer (some ⟨w.heap.size, 0, none⟩)]] 89)) = V at *
  have hbV : ∀ o, Below V.heap.size V (V.alloc o) := fun o => (Below.refl _ _).alloc (Nat.le_refl _) _
  refine ⟨rfl, ⟨?_, ?_, ?_, ?_, ?_, ?_, ?_, ?_, ?_, ?_⟩, cell_later (hbV _) k0, cell_later (hbV _) k2, cell_later (hbV _) k1, hb.trans ((hbV _).mono hb.size)⟩
  all_goals (rw [World.cell?_alloc_at _ _ _ _ hs3.symm]; rfl)

set_option maxRecDepth 100000 in
set_option maxHeartbeats 2000000 in
theorem auIndex (D n : Nat) (f : Nat → Bool) (w : World) (hn : n ≤ 300) (hc : ∀ i, i < n → w.cell? ⟨D, i, none⟩ = some (.bool (f i))) (b : Bool) (hb : b = true ↔ ∃ i, i < n ∧ f i = false) :
    Calls Tryd.prog 56 #[.slice (some ⟨D, 0, none⟩) n n, .bool false] w fun e w' => (∃ z, e = .returned (.int .i64 z) ∧ b = decide (0 ≤ z) ∧ -1 ≤ z ∧ z ≤ 300) ∧ w' = w := by
  have HC : Hid (∀ i, i < n → w.cell? ⟨D, i, none⟩ = some (.bool (f i))) := hc
  have HB : Hid (b = true ↔ ∃ i, i < n ∧ f i = false) := hb
  clear hc hb
  go_enter Tryd.func56, Tryd.ntmps56
  go_wp2_with fail
  go_loop [8] (fun i => ∃ k : Nat, k ≤ n ∧ i = .int .i64 k ∧ ∀ j, j < k → f j = true) (fun i => n - (intOf i).toNat)
  case atStart => exact ⟨0, Nat.zero_le _, rfl, fun j h => by omega⟩
  case round =>
    obtain ⟨k, hk, rfl, hall⟩ := hrel
    have HR : Hid (∀ j, j < k → f j = true) := hall
    clear hall
    by_cases hkn : k < n
    · have ck := HC.out k hkn
      cases hf : f k with
      | true =>
        rw [hf] at ck
        have HF : Hid (f k = true) := hf
        clear hf
        go_wp2_with fail
        go_round
        case rel =>
          refine ⟨k + 1, by omega, by go_num, fun j hj => ?_⟩
          rcases Nat.lt_or_ge j k with h | h
          · exact HR.out j h
          · obtain rfl : j = k := by omega
            exact HF.out
        case measure => simp [intOf]; omega
      | false =>
        rw [hf] at ck
        have HF : Hid (b = true) := HB.out.2 ⟨k, hkn, hf⟩
        clear hf
        go_wp2_with fail
        go_ret
        exact ⟨⟨k, rfl, by rw [HF.out]; simp, by omega, by omega⟩, rfl⟩
    · have HF : Hid (b = false) := Bool.eq_false_iff.2 fun hh => by
        obtain ⟨i, h1, h2⟩ := HB.out.1 hh
        rw [HR.out i (by omega)] at h2
        cases h2
      go_wp2_with fail
      go_ret
      exact ⟨⟨-1, rfl, by rw [HF.out]; rfl, by omega, by omega⟩, rfl⟩

set_option maxRecDepth 100000 in
set_option maxHeartbeats 2000000 in
theorem auHas (D n : Nat) (f : Nat → Bool) (w : World) (hn : n ≤ 300) (hc : ∀ i, i < n → w.cell? ⟨D, i, none⟩ = some (.bool (f i))) (b : Bool) (hb : b = true ↔ ∃ i, i < n ∧ f i = false) :
    Calls Tryd.prog 27 #[.slice (some ⟨D, 0, none⟩) n n, .bool false] w fun e w' => e = .returned (.bool b) ∧ w' = w := by
  have HI : Hid (Calls Tryd.prog 56 #[.slice (some ⟨D, 0, none⟩) n n, .bool false] w fun e w' => (∃ z, e = .returned (.int .i64 z) ∧ b = decide (0 ≤ z) ∧ -1 ≤ z ∧ z ≤ 300) ∧ w' = w) := auIndex D n f w hn hc b hb
  clear hc hb
  go_enter Tryd.func27, Tryd.ntmps27
  go_wp2_with fail
  refine HI.out.mono ?_
  rintro e w1 ⟨⟨z, rfl, hz, h1, h2⟩, rfl⟩
  have HZ : Hid (b = decide (0 ≤ z)) := hz
  clear hz
  go_wp2_with fail
  go_ret
  exact ⟨by rw [HZ.out]; rfl, rfl⟩
end Go.Proofs.YtolbmkniafkeaaaDoor
