/- Own facts, put together: no statement of its own. -/
import Derived.Test.YtibhkijaafdkoaaGreatDoorK25
import Derived.Test.YtibhkijaafdkoaaGreatDoorK28
import Derived.Test.YtibhkijaafdkoaaGreatDoorK26
import Derived.Test.YtibhkijaafdkoaaGreatDoorK33
namespace Go.Proofs.YtibhkijaafdkoaaGreatDoor
open Go.RowKit
def SentBy (per : Int) (ps : List Pk) (keys : List Int) (B : Nat) (w : World) (v : Value) (w' : World) : Prop := ∃ l, OwnS w' w.heap.size v l ∧ Sched per ps keys l ∧ l.length = ps.length ∧ Below B w w'
theorem rankSend_ok (a : Option Addr) (cap : Nat) (ps : List Pk) (per : Int) (keys : List Int) (B : Nat) (W0 : World) (g gm f : Nat) (x1 x2 : Value) (D0 : Nat → Prop) (w : World) (hl : LiesP w a ps) (ho : OkPks ps) (h1 : 1 ≤ per) (h2 : per ≤ 1000) (ha : ∀ ad, a = some ad → 0 < ps.length → ad.block < B) (h0 : HeldR B W0 g gm (.func (.func f) #[] #[x1, x2]) w D0 [])
  (hf : ∀ args W, Sem.run Tryz.prog (callFunc f args) W = .ok (.enter f args) W)
  (hM : ∀ W k, Below B W0 W → k < ps.length → Calls Tryz.prog f #[.int .i64 ((k : Nat) : Int), x1, x2] W fun e w' => e = .returned (.int .i64 (keys.getD k 0)) ∧ ∃ m, w' = W.drewN m) :
  Calls Tryz.prog 59 #[.slice a ps.length cap, .int .i64 per, .iface 164 (ruleR g gm)] w fun e w' => ∃ v, e = .returned v ∧ SentBy per ps keys B w v w' := by
 have hP := waits_law keys
 have hlaw := ranked_law (per := per) (ps := ps) hP (by omega) ho
 have hBw : B ≤ w.heap.size := by
  obtain ⟨v, h, -⟩ := h0.row
  exact Nat.le_trans h0.apart.2.1 (Nat.le_of_lt (lt_of_block h))
 have hlen : ∀ s, Reaches (waits fun i => keys.getD i 0) per ps [] s → s.q.length ≤ 1000 := fun s hr => by
  have hc := hr.count hlaw
  have hn := hr.next_le
  have := ho.few
  have : (waits fun i => keys.getD i 0).rest s.q = s.q.length := rfl
  omega
 refine (send_any (waits fun i => keys.getD i 0) (HeldR B W0 g gm (.func (.func f) #[] #[x1, x2])) per ps [] B _ _ _ (rankMem B W0 g gm _) hlaw ho h1 h2 ?_ ?_ ?_ a cap w hl hBw ha D0 h0).mono ?_
 ·
  intro w D s p hr hp hh
  exact rankRuleCome B W0 g gm _ D s.q s.next w hh (hlen s hr)
 ·
  intro w D s hr h0' hh
  have hr' := ranked hP (by omega) ho hr
  exact rankRulePick B W0 g gm f x1 x2 (fun i => keys.getD i 0) ps.length D s.q w hh (hlen s hr) h0' (fun k hk => by have := ((hr'.wait k).1 hk).1; have := hr'.le; omega) hf hM
 ·
  intro w D s hr hh
  rw [asked_same _ (fun _ => rfl)]
  exact rankRuleRest B W0 g gm _ D s.q w hh
 ·
  rintro e w' ⟨s, v, rfl, hr, hn, hrest, hown, hb⟩
  obtain ⟨e1, e2⟩ := ranked_end hP (by omega) ho hr hn hrest
  exact ⟨v, rfl, s.out, hown, e1, e2, hb⟩
structure Boxed (w W : World) (p q : Value) : Prop where
 below : Below w.heap.size w W
 c1 : W.cell? ⟨w.heap.size, 0, none⟩ = some p
 c2 : W.cell? ⟨w.heap.size + 1, 0, none⟩ = some q
 lt : w.heap.size + 2 ≤ W.heap.size
theorem boxed_new (w : World) (p q : Value) (t u : TypeId) : Boxed w ((w.alloc (.cells #[p] t)).alloc (.cells #[q] u)) p q := by
 have hs : (w.alloc (.cells #[p] t)).heap.size = w.heap.size + 1 := by simp
 refine ⟨((Below.refl _ _).alloc (Nat.le_refl _) _).alloc (by rw [hs]; omega) _, cell_later ((Below.refl _ _).alloc (Nat.le_refl _) _) (by simp), ?_, by simp⟩
 rw [World.cell?_alloc_at _ _ _ _ hs.symm]
 rfl
theorem Boxed.later {w W W' : World} {p q : Value} (h : Boxed w W p q) (hb : Below W.heap.size W W') : Boxed w W' p q :=
 ⟨h.below.trans (hb.mono h.below.size), cell_later hb h.c1, cell_later hb h.c2, Nat.le_trans h.lt hb.size⟩
theorem SentBy.from {per : Int} {ps : List Pk} {keys : List Int} {B : Nat} {w w1 w' : World} {v : Value} (h : SentBy per ps keys B w1 v w') (hb : Below w.heap.size w w1) (hB : w.heap.size ≤ B) : SentBy per ps keys w.heap.size w v w' := by
 obtain ⟨l, h1, h2, h3, h4⟩ := h
 exact ⟨l, ownsRow_mono h1 hb.size, h2, h3, hb.trans (h4.mono hB)⟩
theorem callRun1 (args : Array Value) (W : World) : Sem.run Tryz.prog (callFunc 132 args) W = .ok (.enter 132 args) W := by kernel_rfl
theorem callDeadlines1 (args : Array Value) (W : World) : Sem.run Tryz.prog (callFunc 134 args) W = .ok (.enter 134 args) W := by kernel_rfl
theorem rankSend_run (a : Option Addr) (cap : Nat) (ps : List Pk) (per : Int) (na : Option Addr) (ncap : Nat) (ns : List Int) (w W W3 : World) (D0 : Nat → Prop) (hl : LiesP w a ps) (hn : LiesN w na ns) (ho : OkPks ps) (h1 : 1 ≤ per) (h2 : per ≤ 1000) (h8 : ns.length = 8) (hB : Boxed w W (.slice a ps.length cap) (.slice na ns.length ncap))
  (h0 : HeldR W.heap.size W (W.heap.size + 1) W.heap.size (.func (.func 132) #[] #[.pointer (some ⟨w.heap.size + 1, 0, none⟩), .pointer (some ⟨w.heap.size, 0, none⟩)]) W3 D0 []) (hb3 : Below W.heap.size W W3) :
  Calls Tryz.prog 59 #[.slice a ps.length cap, .int .i64 per, .iface 164 (ruleR (W.heap.size + 1) W.heap.size)] W3 fun e w' => ∃ v, e = .returned v ∧ SentBy per ps (rankKeys ps ns) w.heap.size w v w' := by
 have hlW := hl.below hB.below
 refine (rankSend_ok a cap ps per (rankKeys ps ns) W.heap.size W _ _ 132 _ _ D0 W3 (hlW.below hb3) ho h1 h2 hlW.at_lt h0 callRun1 (fun W' k hb hk => ?_)).mono ?_
 ·
  rw [rankKeys_get hk]
  exact rankKey ps ns w.heap.size (w.heap.size + 1) a cap na ncap W' k ((hB.later hb).c1) ((hB.later hb).c2) (hlW.below hb) ((hn.below hB.below).below hb) ho h8 hk
 ·
  rintro e w' ⟨v, rfl, h⟩
  exact ⟨v, rfl, h.from (hB.below.trans (hb3.mono hB.below.size)) hB.below.size⟩
theorem rankSend_due (a : Option Addr) (cap : Nat) (ps : List Pk) (per : Int) (na : Option Addr) (ncap : Nat) (ns : List Int) (w W W3 : World) (D0 : Nat → Prop) (hl : LiesP w a ps) (hn : LiesN w na ns) (ho : OkPks ps) (h1 : 1 ≤ per) (h2 : per ≤ 1000) (h8 : NumsOk 0 1099511627776 ns) (hB : Boxed w W (.slice a ps.length cap) (.slice na ns.length ncap))
  (h0 : HeldR W.heap.size W (W.heap.size + 1) W.heap.size (.func (.func 134) #[] #[.pointer (some ⟨w.heap.size, 0, none⟩), .pointer (some ⟨w.heap.size + 1, 0, none⟩)]) W3 D0 []) (hb3 : Below W.heap.size W W3) :
  Calls Tryz.prog 59 #[.slice a ps.length cap, .int .i64 per, .iface 164 (ruleR (W.heap.size + 1) W.heap.size)] W3 fun e w' => ∃ v, e = .returned v ∧ SentBy per ps (dueKeys ps ns) w.heap.size w v w' := by
 have hlW := hl.below hB.below
 refine (rankSend_ok a cap ps per (dueKeys ps ns) W.heap.size W _ _ 134 _ _ D0 W3 (hlW.below hb3) ho h1 h2 hlW.at_lt h0 callDeadlines1 (fun W' k hb hk => ?_)).mono ?_
 ·
  rw [dueKeys_get hk]
  exact dueKey ps ns w.heap.size (w.heap.size + 1) a cap na ncap W' k ((hB.later hb).c1) ((hB.later hb).c2) (hlW.below hb) ((hn.below hB.below).below hb) ho h8 hk
 ·
  rintro e w' ⟨v, rfl, h⟩
  exact ⟨v, rfl, h.from (hB.below.trans (hb3.mono hB.below.size)) hB.below.size⟩
set_option maxRecDepth 100000 in
set_option maxHeartbeats 2000000 in
theorem rankRun_ok (a : Option Addr) (cap : Nat) (ps : List Pk) (per : Int) (na : Option Addr) (ncap : Nat) (ns : List Int) (w : World) (hl : LiesP w a ps) (hn : LiesN w na ns) (ho : OkPks ps) (h1 : 1 ≤ per) (h2 : per ≤ 1000) (hk : NumsOk 0 100 ns) :
  Calls Tryz.prog 86 #[.slice a ps.length cap, .int .i64 per, .slice na ns.length ncap] w fun e w' => ∃ v, e = .returned (.tuple #[v, .nilIface]) ∧ SentBy per ps (rankKeys ps ns) w.heap.size w v w' := by
 have HX0 := boxed_new w (.slice a ps.length cap) (.slice na ns.length ncap) 43 23
 have HX : Hid (Boxed w ((w.alloc (.cells #[.slice a ps.length cap] 43)).alloc (.cells #[.slice na ns.length ncap] 23)) (.slice a ps.length cap) (.slice na ns.length ncap)) := HX0
 obtain ⟨-, k1, k2, -⟩ := HX0
 have HCheck : Hid (∀ W, Below w.heap.size w W → Calls Tryz.prog 52 #[.slice a ps.length cap, .int .i64 per] W fun e w' => e = .returned .nilIface ∧ Below W.heap.size W w') := fun W hb => linkCheck_ok a cap ps per W (hl.below hb) ho h1 h2
 have HUp : Hid (∀ W, Below w.heap.size w W → Calls Tryz.prog 131 #[.slice na ns.length ncap, .int .i64 100] W fun e w' => e = .returned .nilIface ∧ Below W.heap.size W w') := fun W hb => checkUpTo_ok na ncap ns 100 W (hn.below hb) hk
 have HSend : Hid (∀ W W3 D0, Boxed w W (.slice a ps.length cap) (.slice na ns.length ncap) → HeldR W.heap.size W (W.heap.size + 1) W.heap.size (.func (.func 132) #[] #[.pointer (some ⟨w.heap.size + 1, 0, none⟩), .pointer (some ⟨w.heap.size, 0, none⟩)]) W3 D0 [] → Below W.heap.size W W3 →
   Calls Tryz.prog 59 #[.slice a ps.length cap, .int .i64 per, .iface 164 (ruleR (W.heap.size + 1) W.heap.size)] W3 fun e w' => ∃ v, e = .returned v ∧ SentBy per ps (rankKeys ps ns) w.heap.size w v w') := fun W W3 D0 hB h0 hb3 => rankSend_run a cap ps per na ncap ns w W W3 D0 hl hn ho h1 h2 hk.len hB h0 hb3
 clear hl hn ho hk
 generalize hpl : ps.length = n at *
 generalize hnl : ns.length = m at *
 clear hpl hnl
 go_enter Tryz.func86, Tryz.ntmps86
 go_wp2_with fail
 refine (HCheck.out _ HX.out.below).mono ?_
 rintro e w1 ⟨rfl, hb⟩
 have HX1 : Hid (Boxed w w1 (.slice a n cap) (.slice na m ncap)) := HX.out.later hb
 have c11 := HX1.out.c1
 have c12 := HX1.out.c2
 clear hb k1 k2
 go_wp2_with fail
 refine (HUp.out _ HX1.out.below).mono ?_
 rintro e w2 ⟨rfl, hb⟩
 have HX2 : Hid (Boxed w w2 (.slice a n cap) (.slice na m ncap)) := HX1.out.later hb
 have c21 := HX2.out.c1
 have c22 := HX2.out.c2
 clear hb c11 c12
 have HLeast : Hid (Calls Tryz.prog 133 #[.func (.func 132) #[] #[.pointer (some ⟨w.heap.size + 1, 0, none⟩), .pointer (some ⟨w.heap.size, 0, none⟩)]] w2.drew fun e w' => e = .returned (.iface 164 (ruleR (w2.heap.size + 1) w2.heap.size)) ∧ HeldR w2.heap.size w2.drew (w2.heap.size + 1) w2.heap.size (.func (.func 132) #[] #[.pointer (some ⟨w.heap.size + 1, 0, none⟩), .pointer (some ⟨w.heap.size, 0, none⟩)]) w' (fun k => k = w2.heap.size + 1 ∨ k = w2.heap.size) [] ∧ Below w2.heap.size w2.drew w') := leastFirst_any _ 132 _ _ rfl w2.drew
 have HXd : Hid (Boxed w w2.drew (.slice a n cap) (.slice na m ncap)) := HX2.out.later (below_drewN (Below.refl _ _) 1)
 have HS2 : Hid (∀ W3 D0, HeldR w2.heap.size w2.drew (w2.heap.size + 1) w2.heap.size (.func (.func 132) #[] #[.pointer (some ⟨w.heap.size + 1, 0, none⟩), .pointer (some ⟨w.heap.size, 0, none⟩)]) W3 D0 [] → Below w2.heap.size w2.drew W3 →
   Calls Tryz.prog 59 #[.slice a n cap, .int .i64 per, .iface 164 (ruleR (w2.heap.size + 1) w2.heap.size)] W3 fun e w' => ∃ v, e = .returned v ∧ SentBy per ps (rankKeys ps ns) w.heap.size w v w') := fun W3 D0 h0 hb3 => HSend.out w2.drew W3 D0 HXd.out h0 hb3
 go_wp2_with fail
 go_region_with (first
  | (go_simp; go_at_call 133; go_must (refine HLeast.out.mono ?_; rintro e w3 ⟨rfl, hh, hb⟩; have c31 : w3.cell? ⟨w.heap.size, 0, none⟩ = some (.slice a n cap) := (HXd.out.later hb).c1; have HC2 : Hid (Calls Tryz.prog 59 #[.slice a n cap, .int .i64 per, .iface 164 (ruleR (w2.heap.size + 1) w2.heap.size)] w3 fun e w' => ∃ v, e = .returned v ∧ SentBy per ps (rankKeys ps ns) w.heap.size w v w') := HS2.out w3 _ hh hb; clear hh hb))
  | (go_simp; go_at_call 59; go_must (refine HC2.out.mono ?_; rintro e w4 ⟨v, rfl, hs⟩; have HE : Hid (SentBy per ps (rankKeys ps ns) w.heap.size w v w4) := hs; clear hs))
  | fail)
 all_goals (go_wp2_with fail)
 all_goals (go_ret2; exact ⟨v, rfl, HE.out⟩)
set_option maxRecDepth 100000 in
set_option maxHeartbeats 2000000 in
theorem rankDue_ok (a : Option Addr) (cap : Nat) (ps : List Pk) (per : Int) (na : Option Addr) (ncap : Nat) (ns : List Int) (w : World) (hl : LiesP w a ps) (hn : LiesN w na ns) (ho : OkPks ps) (h1 : 1 ≤ per) (h2 : per ≤ 1000) (hk : NumsOk 0 1099511627776 ns) :
  Calls Tryz.prog 87 #[.slice a ps.length cap, .int .i64 per, .slice na ns.length ncap] w fun e w' => ∃ v, e = .returned (.tuple #[v, .nilIface]) ∧ SentBy per ps (dueKeys ps ns) w.heap.size w v w' := by
 have HX0 := boxed_new w (.slice a ps.length cap) (.slice na ns.length ncap) 43 23
 have HX : Hid (Boxed w ((w.alloc (.cells #[.slice a ps.length cap] 43)).alloc (.cells #[.slice na ns.length ncap] 23)) (.slice a ps.length cap) (.slice na ns.length ncap)) := HX0
 obtain ⟨-, k1, k2, -⟩ := HX0
 have HCheck : Hid (∀ W, Below w.heap.size w W → Calls Tryz.prog 52 #[.slice a ps.length cap, .int .i64 per] W fun e w' => e = .returned .nilIface ∧ Below W.heap.size W w') := fun W hb => linkCheck_ok a cap ps per W (hl.below hb) ho h1 h2
 have HUp : Hid (∀ W, Below w.heap.size w W → Calls Tryz.prog 131 #[.slice na ns.length ncap, .int .i64 1099511627776] W fun e w' => e = .returned .nilIface ∧ Below W.heap.size W w') := fun W hb => checkUpTo_ok na ncap ns 1099511627776 W (hn.below hb) hk
 have HSend : Hid (∀ W W3 D0, Boxed w W (.slice a ps.length cap) (.slice na ns.length ncap) → HeldR W.heap.size W (W.heap.size + 1) W.heap.size (.func (.func 134) #[] #[.pointer (some ⟨w.heap.size, 0, none⟩), .pointer (some ⟨w.heap.size + 1, 0, none⟩)]) W3 D0 [] → Below W.heap.size W W3 →
   Calls Tryz.prog 59 #[.slice a ps.length cap, .int .i64 per, .iface 164 (ruleR (W.heap.size + 1) W.heap.size)] W3 fun e w' => ∃ v, e = .returned v ∧ SentBy per ps (dueKeys ps ns) w.heap.size w v w') := fun W W3 D0 hB h0 hb3 => rankSend_due a cap ps per na ncap ns w W W3 D0 hl hn ho h1 h2 hk hB h0 hb3
 clear hl hn ho hk
 generalize hpl : ps.length = n at *
 generalize hnl : ns.length = m at *
 clear hpl hnl
 go_enter Tryz.func87, Tryz.ntmps87
 go_wp2_with fail
 refine (HCheck.out _ HX.out.below).mono ?_
 rintro e w1 ⟨rfl, hb⟩
 have HX1 : Hid (Boxed w w1 (.slice a n cap) (.slice na m ncap)) := HX.out.later hb
 have c11 := HX1.out.c1
 have c12 := HX1.out.c2
 clear hb k1 k2
 go_wp2_with fail
 refine (HUp.out _ HX1.out.below).mono ?_
 rintro e w2 ⟨rfl, hb⟩
 have HX2 : Hid (Boxed w w2 (.slice a n cap) (.slice na m ncap)) := HX1.out.later hb
 have c21 := HX2.out.c1
 have c22 := HX2.out.c2
 clear hb c11 c12
 have HLeast : Hid (Calls Tryz.prog 133 #[.func (.func 134) #[] #[.pointer (some ⟨w.heap.size, 0, none⟩), .pointer (some ⟨w.heap.size + 1, 0, none⟩)]] w2.drew fun e w' => e = .returned (.iface 164 (ruleR (w2.heap.size + 1) w2.heap.size)) ∧ HeldR w2.heap.size w2.drew (w2.heap.size + 1) w2.heap.size (.func (.func 134) #[] #[.pointer (some ⟨w.heap.size, 0, none⟩), .pointer (some ⟨w.heap.size + 1, 0, none⟩)]) w' (fun k => k = w2.heap.size + 1 ∨ k = w2.heap.size) [] ∧ Below w2.heap.size w2.drew w') := leastFirst_any _ 134 _ _ rfl w2.drew
 have HXd : Hid (Boxed w w2.drew (.slice a n cap) (.slice na m ncap)) := HX2.out.later (below_drewN (Below.refl _ _) 1)
 have HS2 : Hid (∀ W3 D0, HeldR w2.heap.size w2.drew (w2.heap.size + 1) w2.heap.size (.func (.func 134) #[] #[.pointer (some ⟨w.heap.size, 0, none⟩), .pointer (some ⟨w.heap.size + 1, 0, none⟩)]) W3 D0 [] → Below w2.heap.size w2.drew W3 →
   Calls Tryz.prog 59 #[.slice a n cap, .int .i64 per, .iface 164 (ruleR (w2.heap.size + 1) w2.heap.size)] W3 fun e w' => ∃ v, e = .returned v ∧ SentBy per ps (dueKeys ps ns) w.heap.size w v w') := fun W3 D0 h0 hb3 => HSend.out w2.drew W3 D0 HXd.out h0 hb3
 go_wp2_with fail
 go_region_with (first
  | (go_simp; go_at_call 133; go_must (refine HLeast.out.mono ?_; rintro e w3 ⟨rfl, hh, hb⟩; have c31 : w3.cell? ⟨w.heap.size, 0, none⟩ = some (.slice a n cap) := (HXd.out.later hb).c1; have HC2 : Hid (Calls Tryz.prog 59 #[.slice a n cap, .int .i64 per, .iface 164 (ruleR (w2.heap.size + 1) w2.heap.size)] w3 fun e w' => ∃ v, e = .returned v ∧ SentBy per ps (dueKeys ps ns) w.heap.size w v w') := HS2.out w3 _ hh hb; clear hh hb))
  | (go_simp; go_at_call 59; go_must (refine HC2.out.mono ?_; rintro e w4 ⟨v, rfl, hs⟩; have HE : Hid (SentBy per ps (dueKeys ps ns) w.heap.size w v w4) := hs; clear hs))
  | fail)
 all_goals (go_wp2_with fail)
 all_goals (go_ret2; exact ⟨v, rfl, HE.out⟩)
set_option maxRecDepth 100000 in
set_option maxHeartbeats 1000000 in
theorem rankRun_err1 {R : TypeId → Value → World → Prop} (a : Option Addr) (n cap : Nat) (per : Int) (na : Option Addr) (m ncap : Nat) (w : World) (h : ∀ W, Boxed w W (.slice a n cap) (.slice na m ncap) → Calls Tryz.prog 52 #[.slice a n cap, .int .i64 per] W fun e w' => ∃ ty v, e = .returned (.iface ty v) ∧ R ty v w') :
  Calls Tryz.prog 86 #[.slice a n cap, .int .i64 per, .slice na m ncap] w fun e w' => ∃ ty v, e = .returned (.tuple #[.slice none 0 0, .iface ty v]) ∧ R ty v w' := by
 have HX0 := boxed_new w (.slice a n cap) (.slice na m ncap) 43 23
 have HX : Hid (Boxed w ((w.alloc (.cells #[.slice a n cap] 43)).alloc (.cells #[.slice na m ncap] 23)) (.slice a n cap) (.slice na m ncap)) := HX0
 obtain ⟨-, k1, k2, -⟩ := HX0
 have HC : Hid (∀ W, Boxed w W (.slice a n cap) (.slice na m ncap) → Calls Tryz.prog 52 #[.slice a n cap, .int .i64 per] W fun e w' => ∃ ty v, e = .returned (.iface ty v) ∧ R ty v w') := h
 clear h
 go_enter Tryz.func86, Tryz.ntmps86
 go_wp2_with fail
 refine (HC.out _ HX.out).mono ?_
 rintro e w1 ⟨ty, v, rfl, hR⟩
 have HR : Hid (R ty v w1) := hR
 clear hR
 go_wp2_with fail
 go_ret2
 exact ⟨ty, v, rfl, HR.out⟩
set_option maxRecDepth 100000 in
set_option maxHeartbeats 1000000 in
theorem rankRun_err2 {R : TypeId → Value → World → Prop} (a : Option Addr) (n cap : Nat) (per : Int) (na : Option Addr) (m ncap : Nat) (w : World) (h : ∀ W, Boxed w W (.slice a n cap) (.slice na m ncap) → Calls Tryz.prog 52 #[.slice a n cap, .int .i64 per] W fun e w' => e = .returned .nilIface ∧ Below W.heap.size W w')
  (h2 : ∀ W, Boxed w W (.slice a n cap) (.slice na m ncap) → Calls Tryz.prog 131 #[.slice na m ncap, .int .i64 100] W fun e w' => ∃ ty v, e = .returned (.iface ty v) ∧ R ty v w') :
  Calls Tryz.prog 86 #[.slice a n cap, .int .i64 per, .slice na m ncap] w fun e w' => ∃ ty v, e = .returned (.tuple #[.slice none 0 0, .iface ty v]) ∧ R ty v w' := by
 have HX0 := boxed_new w (.slice a n cap) (.slice na m ncap) 43 23
 have HX : Hid (Boxed w ((w.alloc (.cells #[.slice a n cap] 43)).alloc (.cells #[.slice na m ncap] 23)) (.slice a n cap) (.slice na m ncap)) := HX0
 obtain ⟨-, k1, k2, -⟩ := HX0
 have HC : Hid (∀ W, Boxed w W (.slice a n cap) (.slice na m ncap) → Calls Tryz.prog 52 #[.slice a n cap, .int .i64 per] W fun e w' => e = .returned .nilIface ∧ Below W.heap.size W w') := h
 have HU : Hid (∀ W, Boxed w W (.slice a n cap) (.slice na m ncap) → Calls Tryz.prog 131 #[.slice na m ncap, .int .i64 100] W fun e w' => ∃ ty v, e = .returned (.iface ty v) ∧ R ty v w') := h2
 clear h h2
 go_enter Tryz.func86, Tryz.ntmps86
 go_wp2_with fail
 refine (HC.out _ HX.out).mono ?_
 rintro e w1 ⟨rfl, hb⟩
 have HX1 : Hid (Boxed w w1 (.slice a n cap) (.slice na m ncap)) := HX.out.later hb
 have c12 := HX1.out.c2
 clear hb k1 k2
 go_wp2_with fail
 refine (HU.out _ HX1.out).mono ?_
 rintro e w2 ⟨ty, v, rfl, hR⟩
 have HR : Hid (R ty v w2) := hR
 clear hR
 go_wp2_with fail
 go_ret2
 exact ⟨ty, v, rfl, HR.out⟩
set_option maxRecDepth 100000 in
set_option maxHeartbeats 1000000 in
theorem rankDue_err1 {R : TypeId → Value → World → Prop} (a : Option Addr) (n cap : Nat) (per : Int) (na : Option Addr) (m ncap : Nat) (w : World) (h : ∀ W, Boxed w W (.slice a n cap) (.slice na m ncap) → Calls Tryz.prog 52 #[.slice a n cap, .int .i64 per] W fun e w' => ∃ ty v, e = .returned (.iface ty v) ∧ R ty v w') :
  Calls Tryz.prog 87 #[.slice a n cap, .int .i64 per, .slice na m ncap] w fun e w' => ∃ ty v, e = .returned (.tuple #[.slice none 0 0, .iface ty v]) ∧ R ty v w' := by
 have HX0 := boxed_new w (.slice a n cap) (.slice na m ncap) 43 23
 have HX : Hid (Boxed w ((w.alloc (.cells #[.slice a n cap] 43)).alloc (.cells #[.slice na m ncap] 23)) (.slice a n cap) (.slice na m ncap)) := HX0
 obtain ⟨-, k1, k2, -⟩ := HX0
 have HC : Hid (∀ W, Boxed w W (.slice a n cap) (.slice na m ncap) → Calls Tryz.prog 52 #[.slice a n cap, .int .i64 per] W fun e w' => ∃ ty v, e = .returned (.iface ty v) ∧ R ty v w') := h
 clear h
 go_enter Tryz.func87, Tryz.ntmps87
 go_wp2_with fail
 refine (HC.out _ HX.out).mono ?_
 rintro e w1 ⟨ty, v, rfl, hR⟩
 have HR : Hid (R ty v w1) := hR
 clear hR
 go_wp2_with fail
 go_ret2
 exact ⟨ty, v, rfl, HR.out⟩
set_option maxRecDepth 100000 in
set_option maxHeartbeats 1000000 in
theorem rankDue_err2 {R : TypeId → Value → World → Prop} (a : Option Addr) (n cap : Nat) (per : Int) (na : Option Addr) (m ncap : Nat) (w : World) (h : ∀ W, Boxed w W (.slice a n cap) (.slice na m ncap) → Calls Tryz.prog 52 #[.slice a n cap, .int .i64 per] W fun e w' => e = .returned .nilIface ∧ Below W.heap.size W w')
  (h2 : ∀ W, Boxed w W (.slice a n cap) (.slice na m ncap) → Calls Tryz.prog 131 #[.slice na m ncap, .int .i64 1099511627776] W fun e w' => ∃ ty v, e = .returned (.iface ty v) ∧ R ty v w') :
  Calls Tryz.prog 87 #[.slice a n cap, .int .i64 per, .slice na m ncap] w fun e w' => ∃ ty v, e = .returned (.tuple #[.slice none 0 0, .iface ty v]) ∧ R ty v w' := by
 have HX0 := boxed_new w (.slice a n cap) (.slice na m ncap) 43 23
 have HX : Hid (Boxed w ((w.alloc (.cells #[.slice a n cap] 43)).alloc (.cells #[.slice na m ncap] 23)) (.slice a n cap) (.slice na m ncap)) := HX0
 obtain ⟨-, k1, k2, -⟩ := HX0
 have HC : Hid (∀ W, Boxed w W (.slice a n cap) (.slice na m ncap) → Calls Tryz.prog 52 #[.slice a n cap, .int .i64 per] W fun e w' => e = .returned .nilIface ∧ Below W.heap.size W w') := h
 have HU : Hid (∀ W, Boxed w W (.slice a n cap) (.slice na m ncap) → Calls Tryz.prog 131 #[.slice na m ncap, .int .i64 1099511627776] W fun e w' => ∃ ty v, e = .returned (.iface ty v) ∧ R ty v w') := h2
 clear h h2
 go_enter Tryz.func87, Tryz.ntmps87
 go_wp2_with fail
 refine (HC.out _ HX.out).mono ?_
 rintro e w1 ⟨rfl, hb⟩
 have HX1 : Hid (Boxed w w1 (.slice a n cap) (.slice na m ncap)) := HX.out.later hb
 have c12 := HX1.out.c2
 clear hb k1 k2
 go_wp2_with fail
 refine (HU.out _ HX1.out).mono ?_
 rintro e w2 ⟨ty, v, rfl, hR⟩
 have HR : Hid (R ty v w2) := hR
 clear hR
 go_wp2_with fail
 go_ret2
 exact ⟨ty, v, rfl, HR.out⟩
end Go.Proofs.YtibhkijaafdkoaaGreatDoor
