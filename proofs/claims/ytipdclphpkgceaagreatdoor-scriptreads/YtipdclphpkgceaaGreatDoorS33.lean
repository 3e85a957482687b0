/- Own facts, put together: no statement of its own. -/
import Derived.Test.YtipdclphpkgceaaGreatDoorS12
import Derived.Test.YtipdclphpkgceaaGreatDoorS25
import Derived.Test.YtipdclphpkgceaaGreatDoorS13
import Derived.Test.YtipdclphpkgceaaGreatDoorS17
import Derived.Test.YtipdclphpkgceaaGreatDoorS27
set_option maxHeartbeats 2000000
set_option maxRecDepth 100000

namespace Go.Proofs.YtipdclphpkgceaaGreatDoor
open Go.RowKit
def SentBy (per:Int) (ps:List Pk) (keys:List Int) (B:Nat) (w:World) (v:Value) (w':World):Prop:=∃ l,OwnS w' w.heap.size v l ∧ Sched per ps keys l ∧ l.length=ps.length ∧ Below B w w'
theorem rankSend_ok (a:Option Addr) (cap:Nat) (ps:List Pk) (per:Int) (keys:List Int) (B:Nat) (W0:World) (g gm f:Nat) (x1 x2:Value) (D0:Nat → Prop) (w:World) (hl:LiesP w a ps) (ho:OkPks ps) (h1:1 ≤ per) (h2:per ≤ 1000) (ha:∀ ad,a=some ad → 0 < ps.length → ad.block < B) (h0:HeldR B W0 g gm (.func (.func f) #[] #[x1,x2]) w D0 [])
  (hf:∀ args W,Sem.run Tryz.prog (callFunc f args) W=.ok (.enter f args) W)
  (hM:∀ W k,Below B W0 W → k < ps.length → Calls Tryz.prog f #[.int .i64 ((k:Nat):Int),x1,x2] W fun e w'=>e=.returned (.int .i64 (keys.getD k 0)) ∧ ∃ m,w'=W.drewN m) :
  Calls Tryz.prog 169 #[.slice a ps.length cap,.int .i64 per,.iface 266 (ruleR g gm)] w fun e w'=>∃ v,e=.returned v ∧ SentBy per ps keys B w v w':=by
 have hP:=waits_law keys
 have hlaw:=ranked_law (per:=per) (ps:=ps) hP (by omega) ho
 have hBw:B ≤ w.heap.size:=by
  obtain ⟨v,h,-⟩:=h0.row
  exact Nat.le_trans h0.apart.2.1 (Nat.le_of_lt (lt_of_block h))
 have hlen:∀ s,Reaches (waits fun i=>keys.getD i 0) per ps [] s → s.q.length ≤ 1000:=fun s hr=>by
  have hc:=hr.count hlaw
  have hn:=hr.next_le
  have:=ho.few
  have:(waits fun i=>keys.getD i 0).rest s.q=s.q.length:=rfl
  omega
 refine (send_any (waits fun i=>keys.getD i 0) (HeldR B W0 g gm (.func (.func f) #[] #[x1,x2])) per ps [] B _ _ _ (rankMem B W0 g gm _) hlaw ho h1 h2 ?_ ?_ ?_ a cap w hl hBw ha D0 h0).mono ?_
 ·
  intro w D s p hr hp hh
  exact rankRuleCome B W0 g gm _ D s.q s.next w hh (hlen s hr)
 ·
  intro w D s hr h0' hh
  have hr':=ranked hP (by omega) ho hr
  exact rankRulePick B W0 g gm f x1 x2 (fun i=>keys.getD i 0) ps.length D s.q w hh (hlen s hr) h0' (fun k hk=>by have:=((hr'.wait k).1 hk).1;have:=hr'.le;omega) hf hM
 ·
  intro w D s hr hh
  rw [asked_same _ (fun _=>rfl)]
  exact rankRuleRest B W0 g gm _ D s.q w hh
 ·
  rintro e w' ⟨s,v,rfl,hr,hn,hrest,hown,hb⟩
  obtain ⟨e1,e2⟩:=ranked_end hP (by omega) ho hr hn hrest
  exact ⟨v,rfl,s.out,hown,e1,e2,hb⟩
structure Boxed (w W:World) (p q:Value):Prop where
 below:Below w.heap.size w W
 c1:W.cell? ⟨w.heap.size,0,none⟩=some p
 c2:W.cell? ⟨w.heap.size+1,0,none⟩=some q
 lt:w.heap.size+2 ≤ W.heap.size
theorem boxed_new (w:World) (p q:Value) (t u:TypeId):Boxed w ((w.alloc (.cells #[p] t)).alloc (.cells #[q] u)) p q:=by
 have hs:(w.alloc (.cells #[p] t)).heap.size=w.heap.size+1:=by simp
 refine ⟨((Below.refl _ _).alloc (Nat.le_refl _) _).alloc (by rw [hs];omega) _,cell_later ((Below.refl _ _).alloc (Nat.le_refl _) _) (by simp),?_,by simp⟩
 rw [World.cell?_alloc_at _ _ _ _ hs.symm]
 rfl
theorem Boxed.later {w W W':World} {p q:Value} (h:Boxed w W p q) (hb:Below W.heap.size W W'):Boxed w W' p q:=
 ⟨h.below.trans (hb.mono h.below.size),cell_later hb h.c1,cell_later hb h.c2,Nat.le_trans h.lt hb.size⟩
theorem SentBy.from {per:Int} {ps:List Pk} {keys:List Int} {B:Nat} {w w1 w':World} {v:Value} (h:SentBy per ps keys B w1 v w') (hb:Below w.heap.size w w1) (hB:w.heap.size ≤ B):SentBy per ps keys w.heap.size w v w':=by
 obtain ⟨l,h1,h2,h3,h4⟩:=h
 exact ⟨l,ownsRow_mono h1 hb.size,h2,h3,hb.trans (h4.mono hB)⟩
theorem callRun1 (args:Array Value) (W:World):Sem.run Tryz.prog (callFunc 172 args) W=.ok (.enter 172 args) W:=by kernel_rfl
theorem callDeadlines1 (args:Array Value) (W:World):Sem.run Tryz.prog (callFunc 174 args) W=.ok (.enter 174 args) W:=by kernel_rfl
theorem rankSend_run (a:Option Addr) (cap:Nat) (ps:List Pk) (per:Int) (na:Option Addr) (ncap:Nat) (ns:List Int) (w W W3:World) (D0:Nat → Prop) (hl:LiesP w a ps) (hn:LiesN w na ns) (ho:OkPks ps) (h1:1 ≤ per) (h2:per ≤ 1000) (h8:ns.length=8) (hB:Boxed w W (.slice a ps.length cap) (.slice na ns.length ncap))
  (h0:HeldR W.heap.size W (W.heap.size+1) W.heap.size (.func (.func 172) #[] #[.pointer (some ⟨w.heap.size+1,0,none⟩),.pointer (some ⟨w.heap.size,0,none⟩)]) W3 D0 []) (hb3:Below W.heap.size W W3) :
  Calls Tryz.prog 169 #[.slice a ps.length cap,.int .i64 per,.iface 266 (ruleR (W.heap.size+1) W.heap.size)] W3 fun e w'=>∃ v,e=.returned v ∧ SentBy per ps (rankKeys ps ns) w.heap.size w v w':=by
 have hlW:=hl.below hB.below
 refine (rankSend_ok a cap ps per (rankKeys ps ns) W.heap.size W _ _ 172 _ _ D0 W3 (hlW.below hb3) ho h1 h2 hlW.at_lt h0 callRun1 (fun W' k hb hk=>?_)).mono ?_
 ·
  rw [rankKeys_get hk]
  exact rankKey ps ns w.heap.size (w.heap.size+1) a cap na ncap W' k ((hB.later hb).c1) ((hB.later hb).c2) (hlW.below hb) ((hn.below hB.below).below hb) ho h8 hk
 ·
  rintro e w' ⟨v,rfl,h⟩
  exact ⟨v,rfl,h.from (hB.below.trans (hb3.mono hB.below.size)) hB.below.size⟩
theorem rankSend_due (a:Option Addr) (cap:Nat) (ps:List Pk) (per:Int) (na:Option Addr) (ncap:Nat) (ns:List Int) (w W W3:World) (D0:Nat → Prop) (hl:LiesP w a ps) (hn:LiesN w na ns) (ho:OkPks ps) (h1:1 ≤ per) (h2:per ≤ 1000) (h8:NumsOk 0 1099511627776 ns) (hB:Boxed w W (.slice a ps.length cap) (.slice na ns.length ncap))
  (h0:HeldR W.heap.size W (W.heap.size+1) W.heap.size (.func (.func 174) #[] #[.pointer (some ⟨w.heap.size,0,none⟩),.pointer (some ⟨w.heap.size+1,0,none⟩)]) W3 D0 []) (hb3:Below W.heap.size W W3) :
  Calls Tryz.prog 169 #[.slice a ps.length cap,.int .i64 per,.iface 266 (ruleR (W.heap.size+1) W.heap.size)] W3 fun e w'=>∃ v,e=.returned v ∧ SentBy per ps (dueKeys ps ns) w.heap.size w v w':=by
 have hlW:=hl.below hB.below
 refine (rankSend_ok a cap ps per (dueKeys ps ns) W.heap.size W _ _ 174 _ _ D0 W3 (hlW.below hb3) ho h1 h2 hlW.at_lt h0 callDeadlines1 (fun W' k hb hk=>?_)).mono ?_
 ·
  rw [dueKeys_get hk]
  exact dueKey ps ns w.heap.size (w.heap.size+1) a cap na ncap W' k ((hB.later hb).c1) ((hB.later hb).c2) (hlW.below hb) ((hn.below hB.below).below hb) ho h8 hk
 ·
  rintro e w' ⟨v,rfl,h⟩
  exact ⟨v,rfl,h.from (hB.below.trans (hb3.mono hB.below.size)) hB.below.size⟩
theorem rankRun_ok (a:Option Addr) (cap:Nat) (ps:List Pk) (per:Int) (na:Option Addr) (ncap:Nat) (ns:List Int) (w:World) (hl:LiesP w a ps) (hn:LiesN w na ns) (ho:OkPks ps) (h1:1 ≤ per) (h2:per ≤ 1000) (hk:NumsOk 0 100 ns) :
  Calls Tryz.prog 144 #[.slice a ps.length cap,.int .i64 per,.slice na ns.length ncap] w fun e w'=>∃ v,e=.returned (.tuple #[v,.nilIface]) ∧ SentBy per ps (rankKeys ps ns) w.heap.size w v w':=by
 have HX0:=boxed_new w (.slice a ps.length cap) (.slice na ns.length ncap) 52 32
 have HX:Hid (Boxed w ((w.alloc (.cells #[.slice a ps.length cap] 52)).alloc (.cells #[.slice na ns.length ncap] 32)) (.slice a ps.length cap) (.slice na ns.length ncap)):=HX0
 obtain ⟨-,k1,k2,-⟩:=HX0
 have HCheck:Hid (∀ W,Below w.heap.size w W → Calls Tryz.prog 168 #[.slice a ps.length cap,.int .i64 per] W fun e w'=>e=.returned .nilIface ∧ Below W.heap.size W w'):=fun W hb=>linkCheck_ok a cap ps per W (hl.below hb) ho h1 h2
 have HUp:Hid (∀ W,Below w.heap.size w W → Calls Tryz.prog 171 #[.slice na ns.length ncap,.int .i64 100] W fun e w'=>e=.returned .nilIface ∧ Below W.heap.size W w'):=fun W hb=>checkUpTo_ok na ncap ns 100 W (hn.below hb) hk
 have HSend:Hid (∀ W W3 D0,Boxed w W (.slice a ps.length cap) (.slice na ns.length ncap) → HeldR W.heap.size W (W.heap.size+1) W.heap.size (.func (.func 172) #[] #[.pointer (some ⟨w.heap.size+1,0,none⟩),.pointer (some ⟨w.heap.size,0,none⟩)]) W3 D0 [] → Below W.heap.size W W3 →
   Calls Tryz.prog 169 #[.slice a ps.length cap,.int .i64 per,.iface 266 (ruleR (W.heap.size+1) W.heap.size)] W3 fun e w'=>∃ v,e=.returned v ∧ SentBy per ps (rankKeys ps ns) w.heap.size w v w'):=fun W W3 D0 hB h0 hb3=>rankSend_run a cap ps per na ncap ns w W W3 D0 hl hn ho h1 h2 hk.len hB h0 hb3
 clear hl hn ho hk
 generalize hpl:ps.length=n at *
 generalize hnl:ns.length=m at *
 clear hpl hnl
 go_enter Tryz.func144,Tryz.ntmps144
 go_wp2_with fail
 refine (HCheck.out _ HX.out.below).mono ?_
 rintro e w1 ⟨rfl,hb⟩
 have HX1:Hid (Boxed w w1 (.slice a n cap) (.slice na m ncap)):=HX.out.later hb
 have c11:=HX1.out.c1
 have c12:=HX1.out.c2
 clear hb k1 k2
 go_wp2_with fail
 refine (HUp.out _ HX1.out.below).mono ?_
 rintro e w2 ⟨rfl,hb⟩
 have HX2:Hid (Boxed w w2 (.slice a n cap) (.slice na m ncap)):=HX1.out.later hb
 have c21:=HX2.out.c1
 have c22:=HX2.out.c2
 clear hb c11 c12
 have HLeast:Hid (Calls Tryz.prog 173 #[.func (.func 172) #[] #[.pointer (some ⟨w.heap.size+1,0,none⟩),.pointer (some ⟨w.heap.size,0,none⟩)]] w2.drew fun e w'=>e=.returned (.iface 266 (ruleR (w2.heap.size+1) w2.heap.size)) ∧ HeldR w2.heap.size w2.drew (w2.heap.size+1) w2.heap.size (.func (.func 172) #[] #[.pointer (some ⟨w.heap.size+1,0,none⟩),.pointer (some ⟨w.heap.size,0,none⟩)]) w' (fun k=>k=w2.heap.size+1 ∨ k=w2.heap.size) [] ∧ Below w2.heap.size w2.drew w'):=leastFirst_any _ 172 _ _ rfl w2.drew
 have HXd:Hid (Boxed w w2.drew (.slice a n cap) (.slice na m ncap)):=HX2.out.later (below_drewN (Below.refl _ _) 1)
 have HS2:Hid (∀ W3 D0,HeldR w2.heap.size w2.drew (w2.heap.size+1) w2.heap.size (.func (.func 172) #[] #[.pointer (some ⟨w.heap.size+1,0,none⟩),.pointer (some ⟨w.heap.size,0,none⟩)]) W3 D0 [] → Below w2.heap.size w2.drew W3 →
   Calls Tryz.prog 169 #[.slice a n cap,.int .i64 per,.iface 266 (ruleR (w2.heap.size+1) w2.heap.size)] W3 fun e w'=>∃ v,e=.returned v ∧ SentBy per ps (rankKeys ps ns) w.heap.size w v w'):=fun W3 D0 h0 hb3=>HSend.out w2.drew W3 D0 HXd.out h0 hb3
 go_wp2_with fail
 go_region_with (first
  | (go_simp;go_at_call 173;go_must (refine HLeast.out.mono ?_;rintro e w3 ⟨rfl,hh,hb⟩;have c31:w3.cell? ⟨w.heap.size,0,none⟩=some (.slice a n cap):=(HXd.out.later hb).c1;have HC2:Hid (Calls Tryz.prog 169 #[.slice a n cap,.int .i64 per,.iface 266 (ruleR (w2.heap.size+1) w2.heap.size)] w3 fun e w'=>∃ v,e=.returned v ∧ SentBy per ps (rankKeys ps ns) w.heap.size w v w'):=HS2.out w3 _ hh hb;clear hh hb))
  | (go_simp;go_at_call 169;go_must (refine HC2.out.mono ?_;rintro e w4 ⟨v,rfl,hs⟩;have HE:Hid (SentBy per ps (rankKeys ps ns) w.heap.size w v w4):=hs;clear hs))
  | fail)
 all_goals (go_wp2_with fail)
 all_goals (go_ret2;exact ⟨v,rfl,HE.out⟩)
theorem rankDue_ok (a:Option Addr) (cap:Nat) (ps:List Pk) (per:Int) (na:Option Addr) (ncap:Nat) (ns:List Int) (w:World) (hl:LiesP w a ps) (hn:LiesN w na ns) (ho:OkPks ps) (h1:1 ≤ per) (h2:per ≤ 1000) (hk:NumsOk 0 1099511627776 ns) :
  Calls Tryz.prog 145 #[.slice a ps.length cap,.int .i64 per,.slice na ns.length ncap] w fun e w'=>∃ v,e=.returned (.tuple #[v,.nilIface]) ∧ SentBy per ps (dueKeys ps ns) w.heap.size w v w':=by
 have HX0:=boxed_new w (.slice a ps.length cap) (.slice na ns.length ncap) 52 32
 have HX:Hid (Boxed w ((w.alloc (.cells #[.slice a ps.length cap] 52)).alloc (.cells #[.slice na ns.length ncap] 32)) (.slice a ps.length cap) (.slice na ns.length ncap)):=HX0
 obtain ⟨-,k1,k2,-⟩:=HX0
 have HCheck:Hid (∀ W,Below w.heap.size w W → Calls Tryz.prog 168 #[.slice a ps.length cap,.int .i64 per] W fun e w'=>e=.returned .nilIface ∧ Below W.heap.size W w'):=fun W hb=>linkCheck_ok a cap ps per W (hl.below hb) ho h1 h2
 have HUp:Hid (∀ W,Below w.heap.size w W → Calls Tryz.prog 171 #[.slice na ns.length ncap,.int .i64 1099511627776] W fun e w'=>e=.returned .nilIface ∧ Below W.heap.size W w'):=fun W hb=>checkUpTo_ok na ncap ns 1099511627776 W (hn.below hb) hk
 have HSend:Hid (∀ W W3 D0,Boxed w W (.slice a ps.length cap) (.slice na ns.length ncap) → HeldR W.heap.size W (W.heap.size+1) W.heap.size (.func (.func 174) #[] #[.pointer (some ⟨w.heap.size,0,none⟩),.pointer (some ⟨w.heap.size+1,0,none⟩)]) W3 D0 [] → Below W.heap.size W W3 →
   Calls Tryz.prog 169 #[.slice a ps.length cap,.int .i64 per,.iface 266 (ruleR (W.heap.size+1) W.heap.size)] W3 fun e w'=>∃ v,e=.returned v ∧ SentBy per ps (dueKeys ps ns) w.heap.size w v w'):=fun W W3 D0 hB h0 hb3=>rankSend_due a cap ps per na ncap ns w W W3 D0 hl hn ho h1 h2 hk hB h0 hb3
 clear hl hn ho hk
 generalize hpl:ps.length=n at *
 generalize hnl:ns.length=m at *
 clear hpl hnl
 go_enter Tryz.func145,Tryz.ntmps145
 go_wp2_with fail
 refine (HCheck.out _ HX.out.below).mono ?_
 rintro e w1 ⟨rfl,hb⟩
 have HX1:Hid (Boxed w w1 (.slice a n cap) (.slice na m ncap)):=HX.out.later hb
 have c11:=HX1.out.c1
 have c12:=HX1.out.c2
 clear hb k1 k2
 go_wp2_with fail
 refine (HUp.out _ HX1.out.below).mono ?_
 rintro e w2 ⟨rfl,hb⟩
 have HX2:Hid (Boxed w w2 (.slice a n cap) (.slice na m ncap)):=HX1.out.later hb
 have c21:=HX2.out.c1
 have c22:=HX2.out.c2
 clear hb c11 c12
 have HLeast:Hid (Calls Tryz.prog 173 #[.func (.func 174) #[] #[.pointer (some ⟨w.heap.size,0,none⟩),.pointer (some ⟨w.heap.size+1,0,none⟩)]] w2.drew fun e w'=>e=.returned (.iface 266 (ruleR (w2.heap.size+1) w2.heap.size)) ∧ HeldR w2.heap.size w2.drew (w2.heap.size+1) w2.heap.size (.func (.func 174) #[] #[.pointer (some ⟨w.heap.size,0,none⟩),.pointer (some ⟨w.heap.size+1,0,none⟩)]) w' (fun k=>k=w2.heap.size+1 ∨ k=w2.heap.size) [] ∧ Below w2.heap.size w2.drew w'):=leastFirst_any _ 174 _ _ rfl w2.drew
 have HXd:Hid (Boxed w w2.drew (.slice a n cap) (.slice na m ncap)):=HX2.out.later (below_drewN (Below.refl _ _) 1)
 have HS2:Hid (∀ W3 D0,HeldR w2.heap.size w2.drew (w2.heap.size+1) w2.heap.size (.func (.func 174) #[] #[.pointer (some ⟨w.heap.size,0,none⟩),.pointer (some ⟨w.heap.size+1,0,none⟩)]) W3 D0 [] → Below w2.heap.size w2.drew W3 →
   Calls Tryz.prog 169 #[.slice a n cap,.int .i64 per,.iface 266 (ruleR (w2.heap.size+1) w2.heap.size)] W3 fun e w'=>∃ v,e=.returned v ∧ SentBy per ps (dueKeys ps ns) w.heap.size w v w'):=fun W3 D0 h0 hb3=>HSend.out w2.drew W3 D0 HXd.out h0 hb3
 go_wp2_with fail
 go_region_with (first
  | (go_simp;go_at_call 173;go_must (refine HLeast.out.mono ?_;rintro e w3 ⟨rfl,hh,hb⟩;have c31:w3.cell? ⟨w.heap.size,0,none⟩=some (.slice a n cap):=(HXd.out.later hb).c1;have HC2:Hid (Calls Tryz.prog 169 #[.slice a n cap,.int .i64 per,.iface 266 (ruleR (w2.heap.size+1) w2.heap.size)] w3 fun e w'=>∃ v,e=.returned v ∧ SentBy per ps (dueKeys ps ns) w.heap.size w v w'):=HS2.out w3 _ hh hb;clear hh hb))
  | (go_simp;go_at_call 169;go_must (refine HC2.out.mono ?_;rintro e w4 ⟨v,rfl,hs⟩;have HE:Hid (SentBy per ps (dueKeys ps ns) w.heap.size w v w4):=hs;clear hs))
  | fail)
 all_goals (go_wp2_with fail)
 all_goals (go_ret2;exact ⟨v,rfl,HE.out⟩)
theorem rankRun_err1 {R:TypeId → Value → World → Prop} (a:Option Addr) (n cap:Nat) (per:Int) (na:Option Addr) (m ncap:Nat) (w:World) (h:∀ W,Boxed w W (.slice a n cap) (.slice na m ncap) → Calls Tryz.prog 168 #[.slice a n cap,.int .i64 per] W fun e w'=>∃ ty v,e=.returned (.iface ty v) ∧ R ty v w') :
  Calls Tryz.prog 144 #[.slice a n cap,.int .i64 per,.slice na m ncap] w fun e w'=>∃ ty v,e=.returned (.tuple #[.slice none 0 0,.iface ty v]) ∧ R ty v w':=by
 have HX0:=boxed_new w (.slice a n cap) (.slice na m ncap) 52 32
 have HX:Hid (Boxed w ((w.alloc (.cells #[.slice a n cap] 52)).alloc (.cells #[.slice na m ncap] 32)) (.slice a n cap) (.slice na m ncap)):=HX0
 obtain ⟨-,k1,k2,-⟩:=HX0
 have HC:Hid (∀ W,Boxed w W (.slice a n cap) (.slice na m ncap) → Calls Tryz.prog 168 #[.slice a n cap,.int .i64 per] W fun e w'=>∃ ty v,e=.returned (.iface ty v) ∧ R ty v w'):=h
 clear h
 go_enter Tryz.func144,Tryz.ntmps144
 go_wp2_with fail
 refine (HC.out _ HX.out).mono ?_
 rintro e w1 ⟨ty,v,rfl,hR⟩
 have HR:Hid (R ty v w1):=hR
 clear hR
 go_wp2_with fail
 go_ret2
 exact ⟨ty,v,rfl,HR.out⟩
theorem rankRun_err2 {R:TypeId → Value → World → Prop} (a:Option Addr) (n cap:Nat) (per:Int) (na:Option Addr) (m ncap:Nat) (w:World) (h:∀ W,Boxed w W (.slice a n cap) (.slice na m ncap) → Calls Tryz.prog 168 #[.slice a n cap,.int .i64 per] W fun e w'=>e=.returned .nilIface ∧ Below W.heap.size W w')
  (h2:∀ W,Boxed w W (.slice a n cap) (.slice na m ncap) → Calls Tryz.prog 171 #[.slice na m ncap,.int .i64 100] W fun e w'=>∃ ty v,e=.returned (.iface ty v) ∧ R ty v w') :
  Calls Tryz.prog 144 #[.slice a n cap,.int .i64 per,.slice na m ncap] w fun e w'=>∃ ty v,e=.returned (.tuple #[.slice none 0 0,.iface ty v]) ∧ R ty v w':=by
 have HX0:=boxed_new w (.slice a n cap) (.slice na m ncap) 52 32
 have HX:Hid (Boxed w ((w.alloc (.cells #[.slice a n cap] 52)).alloc (.cells #[.slice na m ncap] 32)) (.slice a n cap) (.slice na m ncap)):=HX0
 obtain ⟨-,k1,k2,-⟩:=HX0
 have HC:Hid (∀ W,Boxed w W (.slice a n cap) (.slice na m ncap) → Calls Tryz.prog 168 #[.slice a n cap,.int .i64 per] W fun e w'=>e=.returned .nilIface ∧ Below W.heap.size W w'):=h
 have HU:Hid (∀ W,Boxed w W (.slice a n cap) (.slice na m ncap) → Calls Tryz.prog 171 #[.slice na m ncap,.int .i64 100] W fun e w'=>∃ ty v,e=.returned (.iface ty v) ∧ R ty v w'):=h2
 clear h h2
 go_enter Tryz.func144,Tryz.ntmps144
 go_wp2_with fail
 refine (HC.out _ HX.out).mono ?_
 rintro e w1 ⟨rfl,hb⟩
 have HX1:Hid (Boxed w w1 (.slice a n cap) (.slice na m ncap)):=HX.out.later hb
 have c12:=HX1.out.c2
 clear hb k1 k2
 go_wp2_with fail
 refine (HU.out _ HX1.out).mono ?_
 rintro e w2 ⟨ty,v,rfl,hR⟩
 have HR:Hid (R ty v w2):=hR
 clear hR
 go_wp2_with fail
 go_ret2
 exact ⟨ty,v,rfl,HR.out⟩
theorem rankDue_err1 {R:TypeId → Value → World → Prop} (a:Option Addr) (n cap:Nat) (per:Int) (na:Option Addr) (m ncap:Nat) (w:World) (h:∀ W,Boxed w W (.slice a n cap) (.slice na m ncap) → Calls Tryz.prog 168 #[.slice a n cap,.int .i64 per] W fun e w'=>∃ ty v,e=.returned (.iface ty v) ∧ R ty v w') :
  Calls Tryz.prog 145 #[.slice a n cap,.int .i64 per,.slice na m ncap] w fun e w'=>∃ ty v,e=.returned (.tuple #[.slice none 0 0,.iface ty v]) ∧ R ty v w':=by
 have HX0:=boxed_new w (.slice a n cap) (.slice na m ncap) 52 32
 have HX:Hid (Boxed w ((w.alloc (.cells #[.slice a n cap] 52)).alloc (.cells #[.slice na m ncap] 32)) (.slice a n cap) (.slice na m ncap)):=HX0
 obtain ⟨-,k1,k2,-⟩:=HX0
 have HC:Hid (∀ W,Boxed w W (.slice a n cap) (.slice na m ncap) → Calls Tryz.prog 168 #[.slice a n cap,.int .i64 per] W fun e w'=>∃ ty v,e=.returned (.iface ty v) ∧ R ty v w'):=h
 clear h
 go_enter Tryz.func145,Tryz.ntmps145
 go_wp2_with fail
 refine (HC.out _ HX.out).mono ?_
 rintro e w1 ⟨ty,v,rfl,hR⟩
 have HR:Hid (R ty v w1):=hR
 clear hR
 go_wp2_with fail
 go_ret2
 exact ⟨ty,v,rfl,HR.out⟩
theorem rankDue_err2 {R:TypeId → Value → World → Prop} (a:Option Addr) (n cap:Nat) (per:Int) (na:Option Addr) (m ncap:Nat) (w:World) (h:∀ W,Boxed w W (.slice a n cap) (.slice na m ncap) → Calls Tryz.prog 168 #[.slice a n cap,.int .i64 per] W fun e w'=>e=.returned .nilIface ∧ Below W.heap.size W w')
  (h2:∀ W,Boxed w W (.slice a n cap) (.slice na m ncap) → Calls Tryz.prog 171 #[.slice na m ncap,.int .i64 1099511627776] W fun e w'=>∃ ty v,e=.returned (.iface ty v) ∧ R ty v w') :
  Calls Tryz.prog 145 #[.slice a n cap,.int .i64 per,.slice na m ncap] w fun e w'=>∃ ty v,e=.returned (.tuple #[.slice none 0 0,.iface ty v]) ∧ R ty v w':=by
 have HX0:=boxed_new w (.slice a n cap) (.slice na m ncap) 52 32
 have HX:Hid (Boxed w ((w.alloc (.cells #[.slice a n cap] 52)).alloc (.cells #[.slice na m ncap] 32)) (.slice a n cap) (.slice na m ncap)):=HX0
 obtain ⟨-,k1,k2,-⟩:=HX0
 have HC:Hid (∀ W,Boxed w W (.slice a n cap) (.slice na m ncap) → Calls Tryz.prog 168 #[.slice a n cap,.int .i64 per] W fun e w'=>e=.returned .nilIface ∧ Below W.heap.size W w'):=h
 have HU:Hid (∀ W,Boxed w W (.slice a n cap) (.slice na m ncap) → Calls Tryz.prog 171 #[.slice na m ncap,.int .i64 1099511627776] W fun e w'=>∃ ty v,e=.returned (.iface ty v) ∧ R ty v w'):=h2
 clear h h2
 go_enter Tryz.func145,Tryz.ntmps145
 go_wp2_with fail
 refine (HC.out _ HX.out).mono ?_
 rintro e w1 ⟨rfl,hb⟩
 have HX1:Hid (Boxed w w1 (.slice a n cap) (.slice na m ncap)):=HX.out.later hb
 have c12:=HX1.out.c2
 clear hb k1 k2
 go_wp2_with fail
 refine (HU.out _ HX1.out).mono ?_
 rintro e w2 ⟨ty,v,rfl,hR⟩
 have HR:Hid (R ty v w2):=hR
 clear hR
 go_wp2_with fail
 go_ret2
 exact ⟨ty,v,rfl,HR.out⟩
def ruleT (g:Nat):Value:=.agg #[.func (.func 204) #[.pointer (some ⟨g,0,none⟩)] #[],.func (.func 205) #[.pointer (some ⟨g,0,none⟩)] #[],.func (.func 206) #[.pointer (some ⟨g,0,none⟩)] #[]]
section
variable (B:Nat) (W0:World) (g:Nat) (pa:Option Addr) (pcap:Nat) (qa:Option Addr) (qcap:Nat) (ps:List Pk) (ns:List Int)
structure TurnsEnv:Prop where
 pk:LiesP W0 pa ps
 nu:LiesN W0 qa ns
 pB:∀ ad,pa=some ad → 0 < ps.length → ad.block < B
 qB:∀ ad,qa=some ad → ad.block < B
 ok:OkPks ps
 ns:NumsOk 1 3000 ns
end
section
variable {B:Nat} {W0:World} {g:Nat} {pa:Option Addr} {pcap:Nat} {qa:Option Addr} {qcap:Nat} {ps:List Pk} {ns:List Int}
theorem turns_come (E:TurnsEnv B W0 pa qa ps ns) {D:Nat → Prop} {q:TQ} {w:World} (h:HeldT B W0 g (.slice pa ps.length pcap) (.slice qa ns.length qcap) w D q) (hok:TQOk ps ns 1500 q) (hn:q.n ≤ 300) {k:Nat} {p:Pk} (hp:ps[k]? = some p) :
  Calls Tryz.prog 204 #[.pointer (some ⟨g,0,none⟩),.int .i64 (k:Int)] w fun e w'=>e=.returned (.tuple #[]) ∧ QueLeft (HeldT B W0 g (.slice pa ps.length pcap) (.slice qa ns.length qcap)) w w' D ((turnsQ ps ns).come q k):=by
 obtain ⟨vq,F,rv,hT,hD⟩:=h.parts
 have hl:LiesP w pa ps:=E.pk.bel E.pB h.env
 have hf8:=flow_lt E.ok k
 have hpf:p.flow=((flowOf ps k:Nat):Int):=by
  rw [flowOf_get hp]
  have:=okPk_true (E.ok.each _ p hp).1
  omega
 have hq3:(q.d.qs (flowOf ps k)).length ≤ 300:=by
  have:=cnt_le q.d.qs 8 hf8
  have:=hok.count
  omega
 by_cases hq:q.d.qs (flowOf ps k)=[]
 ·
  refine (turnsCome_first B g pa pcap _ ps vq F rv q.d q.n w hT hl E.ok.few k (flowOf ps k) p hp hpf hf8 hq (row_few hok) (by omega) h.le).mono ?_
  rintro e w' ⟨rfl,hE⟩
  have hm:flowOf ps k ∉ q.d.line:=fun hm=>(hok.state.active _).1 hm hq
  have e1:((turnsQ ps ns).come q k).d={ q.d with qs:=put1 q.d.qs (flowOf ps k) (q.d.qs (flowOf ps k) ++ [k]),row:=q.d.row ++ [flowOf ps k] }:=by
   show q.d.come (flowOf ps) k=_
   unfold Drr.come
   rw [if_neg hm]
  exact ⟨rfl,ComeEnd.left h hD (by rw [e1];exact hE)⟩
 ·
  refine (turnsCome_more B g pa pcap _ ps vq F rv q.d q.n w hT hl E.ok.few k (flowOf ps k) p hp hpf hf8 hq hq3 (by omega) h.le).mono ?_
  rintro e w' ⟨rfl,hE⟩
  have hm:flowOf ps k ∈ q.d.line:=(hok.state.active _).2 hq
  have e1:((turnsQ ps ns).come q k).d={ q.d with qs:=put1 q.d.qs (flowOf ps k) (q.d.qs (flowOf ps k) ++ [k]) }:=by
   show q.d.come (flowOf ps) k=_
   unfold Drr.come
   rw [if_pos hm]
  exact ⟨rfl,ComeEnd.left h hD (by rw [e1];exact hE)⟩
theorem turns_pick (E:TurnsEnv B W0 pa qa ps ns) {D:Nat → Prop} {q:TQ} {w:World} (h:HeldT B W0 g (.slice pa ps.length pcap) (.slice qa ns.length qcap) w D q) (hok:TQOk ps ns 1500 q) (h0:0 < q.n) (hn:q.n ≤ 300) (hq3:∀ f,(q.d.qs f).length ≤ 300 ∧ ∀ k,k ∈ q.d.qs f → k < ps.length) :
  Calls Tryz.prog 205 #[.pointer (some ⟨g,0,none⟩)] w fun e w'=>e=.returned (.int .i64 ((turnsQ ps ns).pick q:Nat)) ∧ QueLeft (HeldT B W0 g (.slice pa ps.length pcap) (.slice qa ns.length qcap)) w w' D ((turnsQ ps ns).left q):=by
 obtain ⟨vq,F,rv,hT,hD⟩:=h.parts
 have hqu:∀ f,1 ≤ quOf ns f:=fun f=>(quOf_in E.ns.each (by omega) f).1
 obtain ⟨k,e,hx,e1,e2,-⟩:=hok.picks hqu h0
 obtain ⟨n,hn'⟩:∃ n,q.n=n+1:=⟨q.n - 1,by omega⟩
 rw [hn'] at hT
 refine (turnsPick B g pa pcap qa qcap ps ns vq F rv q.d n w hT (E.pk.bel E.pB h.env) E.pB (liesN_bel E.nu E.qB h.env) E.qB E.ok E.ns hok.state hok.few hq3 (by omega) h.le (fuelOf ps q.d) k e hx).mono ?_
 rintro e' w' ⟨rfl,hE⟩
 rw [e1,e2]
 exact ⟨rfl,ComeEnd.left h hD (by rw [show q.n - 1=n by omega];exact hE)⟩
theorem turnsRuleRest {D:Nat → Prop} {q:TQ} {w:World} {pv qv:Value} (h:HeldT B W0 g pv qv w D q) :
  Calls Tryz.prog 286 #[ruleT g] w fun e w'=>e=.returned (.int .i64 (q.n:Int)) ∧ QueLeft (HeldT B W0 g pv qv) w w' D q:=by
 have HH:Hid (HeldT B W0 g pv qv w D q):=h
 clear h
 unfold ruleT
 go_enter Tryz.func286,Tryz.ntmps286
 go_wp2_with fail
 refine (turnsRest B W0 g pv qv D q _ (HH.out.alloc _)).mono ?_
 rintro e w1 ⟨rfl,rfl⟩
 go_wp2_with fail
 go_ret
 exact ⟨rfl,HH.out.same ((Below.refl _ _).alloc (Nat.le_refl _) _)⟩
theorem turnsRulePick (E:TurnsEnv B W0 pa qa ps ns) {D:Nat → Prop} {q:TQ} {w:World} (h:HeldT B W0 g (.slice pa ps.length pcap) (.slice qa ns.length qcap) w D q) (hok:TQOk ps ns 1500 q) (h0:0 < q.n) (hn:q.n ≤ 300) (hq3:∀ f,(q.d.qs f).length ≤ 300 ∧ ∀ k,k ∈ q.d.qs f → k < ps.length) :
  Calls Tryz.prog 285 #[ruleT g] w fun e w'=>e=.returned (.int .i64 ((turnsQ ps ns).pick q:Nat)) ∧ QueLeft (HeldT B W0 g (.slice pa ps.length pcap) (.slice qa ns.length qcap)) w w' D ((turnsQ ps ns).left q):=by
 have HP:Hid (∀ w',HeldT B W0 g (.slice pa ps.length pcap) (.slice qa ns.length qcap) w' D q → Calls Tryz.prog 205 #[.pointer (some ⟨g,0,none⟩)] w' fun e w''=>e=.returned (.int .i64 ((turnsQ ps ns).pick q:Nat)) ∧ QueLeft (HeldT B W0 g (.slice pa ps.length pcap) (.slice qa ns.length qcap)) w' w'' D ((turnsQ ps ns).left q)):=fun w' h'=>turns_pick E h' hok h0 hn hq3
 have HH:Hid (HeldT B W0 g (.slice pa ps.length pcap) (.slice qa ns.length qcap) w D q):=h
 clear h hok hq3 h0
 unfold ruleT
 go_enter Tryz.func285,Tryz.ntmps285
 go_wp2_with fail
 refine (HP.out _ (HH.out.alloc _)).mono ?_
 rintro e w1 ⟨rfl,ho⟩
 have HO:Hid (QueLeft (HeldT B W0 g (.slice pa ps.length pcap) (.slice qa ns.length qcap)) w w1 D ((turnsQ ps ns).left q)):=ho.after ((Below.refl _ _).alloc (Nat.le_refl _) _)
 clear ho
 go_wp2_with fail
 go_ret
 exact ⟨rfl,HO.out⟩
theorem turnsRuleCome (E:TurnsEnv B W0 pa qa ps ns) {D:Nat → Prop} {q:TQ} {w:World} (h:HeldT B W0 g (.slice pa ps.length pcap) (.slice qa ns.length qcap) w D q) (hok:TQOk ps ns 1500 q) (hn:q.n ≤ 300) {k:Nat} {p:Pk} (hp:ps[k]? = some p) :
  Calls Tryz.prog 284 #[ruleT g,.int .i64 (k:Int)] w fun e w'=>e=.returned (.tuple #[]) ∧ QueLeft (HeldT B W0 g (.slice pa ps.length pcap) (.slice qa ns.length qcap)) w w' D ((turnsQ ps ns).come q k):=by
 have HP:Hid (∀ w',HeldT B W0 g (.slice pa ps.length pcap) (.slice qa ns.length qcap) w' D q → Calls Tryz.prog 204 #[.pointer (some ⟨g,0,none⟩),.int .i64 (k:Int)] w' fun e w''=>e=.returned (.tuple #[]) ∧ QueLeft (HeldT B W0 g (.slice pa ps.length pcap) (.slice qa ns.length qcap)) w' w'' D ((turnsQ ps ns).come q k)):=fun w' h'=>turns_come E h' hok hn hp
 have HH:Hid (HeldT B W0 g (.slice pa ps.length pcap) (.slice qa ns.length qcap) w D q):=h
 clear h hok hp
 unfold ruleT
 go_enter Tryz.func284,Tryz.ntmps284
 go_wp2_with fail
 refine (HP.out _ (HH.out.alloc _)).mono ?_
 rintro e w1 ⟨rfl,ho⟩
 have HO:Hid (QueLeft (HeldT B W0 g (.slice pa ps.length pcap) (.slice qa ns.length qcap)) w w1 D ((turnsQ ps ns).come q k)):=ho.after ((Below.refl _ _).alloc (Nat.le_refl _) _)
 clear ho
 go_wp2_with fail
 go_end0
 exact ⟨rfl,HO.out⟩
end
theorem turns_new (w:World) (pv qv:Value) (t:TypeId):TurnsAt w.heap.size w.heap.size pv qv (w.alloc (.cells #[pv,qv,.slice none 0 0,.slice none 0 0,.slice none 0 0,.slice none 0 0,.slice none 0 0,.slice none 0 0,.slice none 0 0,.slice none 0 0,.int .i64 0,.int .i64 0,.int .i64 0,.int .i64 0,.int .i64 0,.int .i64 0,.int .i64 0,.int .i64 0,.slice none 0 0,.int .i64 (-1),.int .i64 0] t)) (fun _=>.slice none 0 0) (fun _ _=>False) (.slice none 0 0) turns0.d 0:=by
 have hc:∀ i,(w.alloc (.cells #[pv,qv,.slice none 0 0,.slice none 0 0,.slice none 0 0,.slice none 0 0,.slice none 0 0,.slice none 0 0,.slice none 0 0,.slice none 0 0,.int .i64 0,.int .i64 0,.int .i64 0,.int .i64 0,.int .i64 0,.int .i64 0,.int .i64 0,.int .i64 0,.slice none 0 0,.int .i64 (-1),.int .i64 0] t)).cell? ⟨w.heap.size,i,none⟩=(#[pv,qv,.slice none 0 0,.slice none 0 0,.slice none 0 0,.slice none 0 0,.slice none 0 0,.slice none 0 0,.slice none 0 0,.slice none 0 0,.int .i64 0,.int .i64 0,.int .i64 0,.int .i64 0,.int .i64 0,.int .i64 0,.int .i64 0,.int .i64 0,.slice none 0 0,.int .i64 (-1),.int .i64 0]:Array Value)[i]?:=fun i=>World.cell?_alloc_at _ _ _ _ rfl
 refine ⟨⟨hc 0,hc 1,fun f hf=>?_,fun f hf=>?_,hc 18,hc 19,hc 20,fun i=>World.frozen?_alloc_new w _ _ i⟩,fun f hf=>Slides.nil _ _,World.ownsRow_nil _ _ _ _,fun f hf=>⟨id,fun _ h=>h.elim,fun _ _ _ h=>h.elim⟩,(fun h=>by cases h),Nat.le_refl _⟩
 ·
  match f,hf with
  | 0,_=>exact hc 2
  | 1,_=>exact hc 3
  | 2,_=>exact hc 4
  | 3,_=>exact hc 5
  | 4,_=>exact hc 6
  | 5,_=>exact hc 7
  | 6,_=>exact hc 8
  | 7,_=>exact hc 9
  | f+8,h=>omega
 ·
  match f,hf with
  | 0,_=>exact hc 10
  | 1,_=>exact hc 11
  | 2,_=>exact hc 12
  | 3,_=>exact hc 13
  | 4,_=>exact hc 14
  | 5,_=>exact hc 15
  | 6,_=>exact hc 16
  | 7,_=>exact hc 17
  | f+8,h=>omega
theorem byTurns_any (pa:Option Addr) (pl pcap:Nat) (qa:Option Addr) (ql qcap:Nat) (w:World) :
  Calls Tryz.prog 177 #[.slice pa pl pcap,.slice qa ql qcap] w fun e w'=>e=.returned (.iface 266 (ruleT w.heap.size)) ∧ HeldT w.heap.size w w.heap.size (.slice pa pl pcap) (.slice qa ql qcap) w' (fun k=>k=w.heap.size) turns0 ∧ Below w.heap.size w w':=by
 unfold ruleT
 go_enter Tryz.func177,Tryz.ntmps177
 go_wp2_with fail
 go_ret
 have hb:=(Below.refl w.heap.size w).alloc (Nat.le_refl _) (.cells #[.slice pa pl pcap,.slice qa ql qcap,.slice none 0 0,.slice none 0 0,.slice none 0 0,.slice none 0 0,.slice none 0 0,.slice none 0 0,.slice none 0 0,.slice none 0 0,.int .i64 0,.int .i64 0,.int .i64 0,.int .i64 0,.int .i64 0,.int .i64 0,.int .i64 0,.int .i64 0,.slice none 0 0,.int .i64 (-1),.int .i64 0] 273)
 exact ⟨rfl,⟨hb,_,_,_,turns_new w _ _ _,fun k=>⟨fun h=>.inl h,fun h=>by
  rcases h with h | ⟨_,_,h⟩ | h
  · exact h
  · exact h.elim
  · cases h⟩⟩,hb⟩
theorem quantum_yes (x:Int) (w:World) (h:1 ≤ x ∧ x ≤ 3000):Calls Tryz.prog 176 #[.int .i64 x] w fun e w'=>e=.returned (.bool true) ∧ w'=w:=by
 obtain ⟨h1,h2⟩:=h
 go_enter Tryz.func176,Tryz.ntmps176
 go_wp2
 go_ret
 exact ⟨rfl,rfl⟩
theorem quantum_no (x:Int) (w:World) (h:¬ (1 ≤ x ∧ x ≤ 3000)):Calls Tryz.prog 176 #[.int .i64 x] w fun e w'=>e=.returned (.bool false) ∧ w'=w:=by
 by_cases h1:1 ≤ x
 ·
  have h2:¬ x ≤ 3000:=fun h'=>h ⟨h1,h'⟩
  clear h
  go_enter Tryz.func176,Tryz.ntmps176
  go_wp2
  go_ret
  exact ⟨rfl,rfl⟩
 ·
  clear h
  go_enter Tryz.func176,Tryz.ntmps176
  go_wp2
  go_ret
  exact ⟨rfl,rfl⟩
theorem checkQuanta_to (a:Option Addr) (cap:Nat) (ns:List Int) (w:World) (ad:Nat → Addr) (hl:LiesN w a ns) (h8:ns.length=8) (j:Nat) (hj:j ≤ 8) (hg:∀ (i:Nat) y,i < j → ns[i]? = some y → 1 ≤ y ∧ y ≤ 3000) (R:Value)
  (h:(j=8 ∧ R=.nilIface) ∨ (R=.iface 312 (.pointer (some (ad 1))) ∧ w.cell? ⟨0,0,none⟩=some (.iface 312 (.pointer (some (ad 1)))) ∧ ∃ x,ns[j]? = some x ∧ ¬ (1 ≤ x ∧ x ≤ 3000))) :
  Calls Tryz.prog 175 #[.slice a 8 cap,.func (.func 176) #[] #[]] w fun e w'=>e=.returned R ∧ w'=w:=by
 have HG:Hid (∀ (i:Nat) y,i < j → ns[i]? = some y → 1 ≤ y ∧ y ≤ 3000):=hg
 have HR:Hid ((j=8 ∧ R=.nilIface) ∨ (R=.iface 312 (.pointer (some (ad 1))) ∧ w.cell? ⟨0,0,none⟩=some (.iface 312 (.pointer (some (ad 1)))) ∧ ∃ x,ns[j]? = some x ∧ ¬ (1 ≤ x ∧ x ≤ 3000))):=h
 obtain ⟨b,off,rfl,-,hcell⟩:=hl.place (by omega)
 have HC:Hid (∀ (i:Nat) x,ns[i]? = some x → w.cell? ⟨b,off+i,none⟩=some (.int .i64 x)):=hcell
 have H8:Hid (ns.length=8):=h8
 clear hg h hl hcell h8
 go_enter Tryz.func175,Tryz.ntmps175
 go_wp2_with fail
 go_loopw [13] (fun i wr=>∃ k:Nat,k ≤ j ∧ i=.int .i64 k ∧ wr=w) (fun i _=>8 - (intOf i).toNat)
 case atStart=>exact ⟨0,Nat.zero_le _,rfl,rfl⟩
 case round=>
  obtain ⟨k,hk,rfl,rfl⟩:=hrel
  by_cases hkj:k < j
  ·
   obtain ⟨x,hx,-⟩:=get_some ns k (by rw [H8.out];omega)
   have hok:=HG.out k x hkj hx
   have c1:=HC.out k x hx
   clear hx
   go_wp2_with fail
   refine (quantum_yes x _ hok).mono ?_
   rintro e w1 ⟨rfl,rfl⟩
   go_wp2_with fail
   go_roundw
   case rel=>exact ⟨k+1,by omega,by go_num,trivial⟩
   case measure=>simp [intOf];omega
  ·
   obtain rfl:k=j:=by omega
   rcases HR.out with ⟨rfl,rfl⟩ | ⟨rfl,he,x,hx,hbad⟩
   ·
    go_wp2_with fail
    go_ret
    exact ⟨rfl,rfl⟩
   ·
    have c1:=HC.out k x hx
    have hk8:k < 8:=by
     rw [← H8.out]
     rcases Nat.lt_or_ge k ns.length with h' | h'
     · exact h'
     · simp [List.getElem?_eq_none h'] at hx
    clear hx
    go_wp2_with fail
    refine (quantum_no x _ hbad).mono ?_
    rintro e w1 ⟨rfl,rfl⟩
    go_wp2_with fail
    go_ret
    exact ⟨rfl,rfl⟩
theorem checkQuanta_ok (a:Option Addr) (cap:Nat) (ns:List Int) (w:World) (hl:LiesN w a ns) (ho:NumsOk 1 3000 ns) :
  Calls Tryz.prog 175 #[.slice a ns.length cap,.func (.func 176) #[] #[]] w fun e w'=>e=.returned .nilIface ∧ w'=w:=by
 rw [ho.len]
 exact checkQuanta_to a cap ns w (fun _=>⟨0,0,none⟩) hl ho.len 8 (Nat.le_refl _) (fun i y _ hy=>ho.each i y hy) _ (.inl ⟨rfl,rfl⟩)
theorem checkQuanta_bad (a:Option Addr) (cap:Nat) (ns:List Int) (w:World) (ad:Nat → Addr) (he:NumErrs w ad) (hl:LiesN w a ns) (c:Nat) (h:NumsFault 1 3000 ns c) (hc:0 < c) :
  Calls Tryz.prog 175 #[.slice a ns.length cap,.func (.func 176) #[] #[]] w fun e w'=>e=.returned (sentOf ad c) ∧ w'=w:=by
 rcases h with ⟨rfl,h8⟩ | ⟨rfl,j,h8,⟨x,hx,hbad⟩,hg⟩ | ⟨rfl,-⟩
 · exact checkNumbers_shape a ns.length cap _ w ad h8 he.2
 ·
  rw [h8]
  exact checkQuanta_to a cap ns w ad hl h8 j (by have:=lt_of_get hx;omega) hg _ (.inr ⟨rfl,he.1,x,hx,hbad⟩)
 · omega
end Go.Proofs.YtipdclphpkgceaaGreatDoor
