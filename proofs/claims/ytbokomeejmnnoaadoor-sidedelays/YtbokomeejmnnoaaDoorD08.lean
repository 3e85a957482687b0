/- Own facts, put together: no statement of its own. -/
import Derived.Test.YtbokomeejmnnoaaDoorD07
import Derived.Test.YtbokomeejmnnoaaDoorD06
import Derived.Test.YtbokomeejmnnoaaDoorD05
set_option maxHeartbeats 1000000
set_option maxRecDepth 100000

namespace Go.Proofs.YtbokomeejmnnoaaDoor
open Go.RowKit
structure DelayIs (per:Int) (ls:List (Int × Int)) (d:Int):Prop where
 upper:∀ t,0 ≤ t → per * curveAt t ls - t ≤ d
 at_:∃ k,d=waitOf per ls k ∧ (miss (lastC k ls).1 k=0 ∨ 0 < (lastC k ls).2) ∧ 1 ≤ k ∧ k ≤ 20019999 ∧ (turns per ls k=false ∨ turns per ls (k - 1)=false)
theorem turns_not {per k:Int} {ls:List (Int × Int)} (h:okCurve ls) (hk:turns per ls k=false):miss (lastC k ls).1 k=0 ∨ 0 < (lastC k ls).2:=by
 have hk':¬ (0 < miss (lastC k ls).1 k ∧ (lastC k ls).2 * per ≤ 1000):=of_decide_eq_false hk
 have hok:=okLine_true (h.2.2 _ (lastC_mem k ls h.1))
 have mn:=miss_nonneg (lastC k ls).1 k
 by_cases hz:miss (lastC k ls).1 k=0
 · exact .inl hz
 ·
  rcases Int.lt_or_le 0 (lastC k ls).2 with h | h
  · exact .inr h
  ·
   have e:(lastC k ls).2=0:=by omega
   exact absurd ⟨by omega,by rw [e,Int.zero_mul];omega⟩ hk'
theorem delay_one {per T:Int} {ls:List (Int × Int)} (h:okCurve ls) (hper:1 ≤ per) (hT1:2 ≤ T) (hT2:T ≤ 20019999) (hp:turns per ls T=true) (hq:turns per ls (T - 1)=false) (hz:¬ 0 < (lastC T ls).2):DelayIs per ls (waitOf per ls (T - 1)):=by
 refine ⟨fun t ht=>?_,T - 1,rfl,turns_not h hq,by omega,by omega,.inl hq⟩
 rcases Int.lt_or_le (curveAt t ls) T with hlt | hge
 · exact (wait_ahead h hper ht hq (by omega) (Int.le_refl _)).2
 · exact absurd (wait_behind h hp hge (Int.le_refl _)).1 hz
theorem delay_two {per T:Int} {ls:List (Int × Int)} (h:okCurve ls) (hper:1 ≤ per) (hT1:2 ≤ T) (hT2:T ≤ 20019999) (hp:turns per ls T=true) (hq:turns per ls (T - 1)=false) (hz:0 < (lastC T ls).2):DelayIs per ls (max (waitOf per ls (T - 1)) (waitOf per ls T)):=by
 refine ⟨fun t ht=>?_,?_⟩
 ·
  rcases Int.lt_or_le (curveAt t ls) T with hlt | hge
  ·
   have:=(wait_ahead h hper ht hq (n:=curveAt t ls) (by omega) (Int.le_refl _)).2
   show per * curveAt t ls - t ≤ max (waitOf per ls (T - 1)) (waitOf per ls T)
   unfold waitOf
   omega
  ·
   have:=(wait_behind h hp hge (Int.le_refl _) (t:=t)).2
   unfold waitOf
   omega
 ·
  by_cases hm:waitOf per ls (T - 1) ≤ waitOf per ls T
  · exact ⟨T,by omega,.inr hz,by omega,by omega,.inr hq⟩
  · exact ⟨T - 1,by omega,turns_not h hq,by omega,by omega,.inl hq⟩
theorem wait_bd {per n:Int} {ls:List (Int × Int)} (h:okCurve ls) (p1:1 ≤ per) (p2:per ≤ 1000) (n0:0 ≤ n) (n1:n ≤ 20020000) (hk:miss (lastC n ls).1 n=0 ∨ 0 < (lastC n ls).2) : -20020100000 ≤ waitOf per ls n ∧ waitOf per ls n ≤ 20020000000:=by
 obtain ⟨b1,b2⟩:=per_bd p1 p2 n0 n1
 have hok:=okLine_true (h.2.2 _ (lastC_mem n ls h.1))
 have:=comes_bd (x:=(lastC n ls).1) (y:=(lastC n ls).2) hok.1 hok.2.2.1 hok.2.2.2 n0 n1 hk
 have e:((lastC n ls).1,(lastC n ls).2)=lastC n ls:=rfl
 rw [e] at this
 unfold waitOf
 omega
theorem Tryd.fieldRate (x y:Value) (w:World):(Instr.field 42 (.agg #[x,y]) 1).run Tryd.prog w=.ok y w:=by kernel_rfl
theorem longest_ok (a:Option Addr) (cap:Nat) (ls:List (Int × Int)) (per:Int) (w:World) (hl:Lies w a ls) (h:okCurve ls) (hcap:ls.length ≤ cap) (hm:cap ≤ maxLen) (p1:1 ≤ per) (p2:per ≤ 1000) (hs:leastR ls * per ≤ 1000) :
  Calls Tryd.prog 19 #[.slice a ls.length cap,.int .i64 per] w fun e w'=>∃ d,e=.returned (.int .i64 d) ∧ DelayIs per ls d ∧ Below w.heap.size w w':=by
 have HK:Hid (okCurve ls):=h
 have Hc:Hid (ls.length ≤ cap ∧ cap ≤ maxLen):=⟨hcap,hm⟩
 have hbW:Below w.heap.size w ((w.alloc (.cells #[.slice a ls.length cap] 24)).alloc (.cells #[.int .i64 per] 3)):=((Below.refl _ _).alloc (Nat.le_refl _) _).alloc (by simp) _
 have c1:((w.alloc (.cells #[.slice a ls.length cap] 24)).alloc (.cells #[.int .i64 per] 3)).cell? ⟨w.heap.size,0,none⟩=some (.slice a ls.length cap):=by simp
 have c2:((w.alloc (.cells #[.slice a ls.length cap] 24)).alloc (.cells #[.int .i64 per] 3)).cell? ⟨w.heap.size+1,0,none⟩=some (.int .i64 per):=by simp
 have HF:Hid (turns per ls 20019999=true):=turns_far h p1 hs
 have HO:Hid (turns per ls 1=false):=turns_one h
 have HL0:=hl.below hbW
 have fl:=Tryd.fieldRate
 go_enter Tryd.func19,Tryd.ntmps19
 go_wp2_with fail
 generalize (w.alloc (.cells #[.slice a ls.length cap] 24)).alloc (.cells #[.int .i64 per] 3)=W at *
 have HBW:Hid (Below w.heap.size w W):=hbW
 have HL:Hid (Lies W a ls):=HL0
 have H1:Hid (W.cell? ⟨w.heap.size,0,none⟩=some (.slice a ls.length cap)):=c1
 have H2:Hid (W.cell? ⟨w.heap.size+1,0,none⟩=some (.int .i64 per)):=c2
 clear hbW HL0 c1 c2 hl h hcap hm hs
 refine (first_turn 1 20020000 (.pointer (some ⟨w.heap.size,0,none⟩)) (.pointer (some ⟨w.heap.size+1,0,none⟩)) (turns per ls) W W (Below.refl _ _) (by decide) (by decide) (by decide)
  (fun n W' h1 h2 hb=>turn_call a cap ls per n W' w.heap.size (w.heap.size+1) (cell_later hb H1.out) (cell_later hb H2.out) (HL.out.below hb) HK.out Hc.out.1 Hc.out.2 p1 p2 (by omega) (by omega))).mono ?_
 rintro e w1 ⟨T,rfl,t1,t2,t3,t4,hb1⟩
 have hT1:2 ≤ T:=by
  rcases Int.lt_or_le T 2 with h | h
  ·
   have e1:T=1:=by omega
   subst e1
   rcases t3 with t3 | t3
   · omega
   · rw [HO.out] at t3;cases t3
  · exact h
 have t4':turns per ls (T - 1)=false:=by
  rcases t4 with t4 | t4
  · omega
  · exact t4
 have hT2:T ≤ 20019999:=by
  rcases Int.lt_or_le 20019999 T with h | h
  ·
   have e1:T=20020000:=by omega
   subst e1
   rw [show (20020000:Int) - 1=20019999 from rfl,HF.out] at t4'
   cases t4'
  · exact h
 have t3':turns per ls T=true:=by
  rcases t3 with t3 | t3
  · omega
  · exact t3
 have HP:Hid (turns per ls T=true):=t3'
 have HQ:Hid (turns per ls (T - 1)=false):=t4'
 have HB1:Hid (Below W.heap.size W w1):=hb1
 have hk1:=turns_not HK.out t4'
 have hw1:=wait_bd (n:=T - 1) HK.out p1 p2 (by omega) (by omega) hk1
 have HK1:Hid (miss (lastC (T - 1) ls).1 (T - 1)=0 ∨ 0 < (lastC (T - 1) ls).2):=hk1
 have d1:=cell_later hb1 H1.out
 have d2:=cell_later hb1 H2.out
 clear t3 t4 t3' t4' hk1 hb1
 go_wp2_with fail
 refine (wait_ok a cap ls per (T - 1) _ (HL.out.below HB1.out) HK.out Hc.out.1 Hc.out.2 p1 p2 (by omega) (by omega) HK1.out).mono ?_
 rintro e w2 ⟨rfl,hb2⟩
 have HB2:Hid (Below W.heap.size W w2):=HB1.out.trans (hb2.mono HB1.out.size)
 have e1:=cell_later HB2.out H1.out
 have e2:=cell_later HB2.out H2.out
 clear hb2 d1 d2
 go_wp2_with fail
 refine (last_ok a cap ls T _ (HL.out.below HB2.out) HK.out Hc.out.1 Hc.out.2 (by omega) (by omega)).mono ?_
 rintro e w3 ⟨rfl,hb3⟩
 have HB3:Hid (Below W.heap.size W w3):=HB2.out.trans (hb3.mono HB2.out.size)
 have f1:=cell_later HB3.out H1.out
 have f2:=cell_later HB3.out H2.out
 clear hb3 e1 e2
 by_cases hr:0 < (lastC T ls).2
 ·
  have hw2:=wait_bd (n:=T) HK.out p1 p2 (by omega) (by omega) (.inr hr)
  have HR:Hid (0 < (lastC T ls).2):=hr
  go_wp2_with fail
  refine (wait_ok a cap ls per T _ (HL.out.below HB3.out) HK.out Hc.out.1 Hc.out.2 p1 p2 (by omega) (by omega) (.inr HR.out)).mono ?_
  rintro e w4 ⟨rfl,hb4⟩
  have HB4:Hid (Below W.heap.size W w4):=HB3.out.trans (hb4.mono HB3.out.size)
  clear hb4 f1 f2
  have HX:Hid (DelayIs per ls (max (waitOf per ls (T - 1)) (waitOf per ls T))):=delay_two HK.out p1 hT1 hT2 HP.out HQ.out HR.out
  go_wp2_with fail
  all_goals
   go_ret
   refine ⟨_,congrArg (fun z=>Ending.returned (.int .i64 z)) ?_,HX.out,HBW.out.trans (HB4.out.mono HBW.out.size)⟩
   first | exact max_if _ _ | omega
 ·
  have HX:Hid (DelayIs per ls (waitOf per ls (T - 1))):=delay_one HK.out p1 hT1 hT2 HP.out HQ.out hr
  go_wp2_with fail
  go_ret
  exact ⟨_,rfl,HX.out,HBW.out.trans (HB3.out.mono HBW.out.size)⟩
def LinkFault (ls:List (Int × Int)) (per c p:Int):Prop:=(FaultIs ls c p ∧ c ≠ 0) ∨ (okCurve ls ∧ (per < 1 ∨ 1000 < per) ∧ c=2 ∧ p = -1)
def LinkOk (ls:List (Int × Int)) (per:Int):Prop:=okCurve ls ∧ 1 ≤ per ∧ per ≤ 1000
theorem link_is (ls:List (Int × Int)) (per:Int):LinkOk ls per ∨ ∃ c p,LinkFault ls per c p:=by
 obtain ⟨c,p,hf⟩:=fault_is ls
 by_cases hc:c=0
 ·
  subst hc
  obtain ⟨hk,_⟩:=hf.ok
  by_cases hp:per < 1 ∨ 1000 < per
  · exact .inr ⟨2,-1,.inr ⟨hk,hp,rfl,rfl⟩⟩
  · exact .inl ⟨hk,by omega,by omega⟩
 · exact .inr ⟨c,p,.inl ⟨hf,hc⟩⟩
theorem LinkFault.ne {ls:List (Int × Int)} {per c p:Int} (h:LinkFault ls per c p):c=2 ∨ c=3:=by
 rcases h with ⟨h,h0⟩ | ⟨_,_,h,_⟩
 ·
  rcases h.num with h | h
  · exact absurd h h0
  · exact h
 · exact .inl h
theorem link_ok (a:Option Addr) (cap:Nat) (ls:List (Int × Int)) (per:Int) (w:World) (hl:Lies w a ls) (h:LinkOk ls per) :
  Calls Tryd.prog 17 #[.slice a ls.length cap,.int .i64 per] w fun e w'=>e=.returned .nilIface ∧ Below w.heap.size w w':=by
 obtain ⟨hk,p1,p2⟩:=h
 have HL:Hid (Lies w a ls):=hl
 have HK:Hid (okCurve ls):=hk
 clear hl hk
 go_enter Tryd.func17,Tryd.ntmps17
 go_wp2_with fail
 refine (check_ok a cap ls _ HL.out HK.out).mono ?_
 rintro e w1 ⟨rfl,hb⟩
 have HB:Hid (Below w.heap.size w w1):=hb
 clear hb
 go_wp2_with fail
 go_ret
 exact ⟨rfl,HB.out⟩
theorem link_bad (a:Option Addr) (cap:Nat) (ls:List (Int × Int)) (per:Int) (w:World) (ad:Nat → Addr) (he:Errs9 w ad) (hl:Lies w a ls) (hcap:ls.length ≤ cap) (hm:cap ≤ maxLen) (c p:Int) (h:LinkFault ls per c p) :
  Calls Tryd.prog 17 #[.slice a ls.length cap,.int .i64 per] w fun e w'=>∃ ty v,e=.returned (.iface ty v) ∧ ErrIs w' (.iface ty v) c p ∧ Below w.heap.size w w':=by
 rcases h with ⟨hf,hc⟩ | ⟨hk,hp,rfl,rfl⟩
 ·
  have HC:=(show Hid (Calls Tryd.prog 28 #[.slice a ls.length cap] w fun e w'=>∃ E,e=.returned E ∧ ErrIs w' E c p ∧ Below w.heap.size w w') from check_is a cap ls w ad he hl hcap hm c p hf)
  have Hc:Hid (c ≠ 0):=hc
  clear he hl hcap hm hf hc
  go_enter Tryd.func17,Tryd.ntmps17
  go_wp2_with fail
  refine HC.out.mono ?_
  rintro e w1 ⟨E,rfl,hE,hb⟩
  obtain ⟨ty,v,rfl⟩:=hE.some_ Hc.out
  have HB:Hid (ErrIs w1 (.iface ty v) c p ∧ Below w.heap.size w w1):=⟨hE,hb⟩
  clear hb hE
  go_wp2_with fail
  go_ret
  exact ⟨ty,v,rfl,HB.out.1,HB.out.2⟩
 ·
  have HL:Hid (Lies w a ls):=hl
  have HK:Hid (okCurve ls):=hk
  have HE:Hid (Errs9 w ad):=he
  clear hl hk he hcap hm
  rcases hp with hp | hp
  ·
   go_enter Tryd.func17,Tryd.ntmps17
   go_wp2_with fail
   refine (check_ok a cap ls _ HL.out HK.out).mono ?_
   rintro e w1 ⟨rfl,hb⟩
   have HB:Hid (Below w.heap.size w w1):=hb
   have g1:=(HE.out.below hb).c1
   clear hb
   go_wp2_with fail
   go_ret
   exact ⟨_,_,rfl,errIs_sent (HE.out.below HB.out) 1 (by decide),HB.out⟩
  ·
   have hp':¬ per < 1:=by omega
   go_enter Tryd.func17,Tryd.ntmps17
   go_wp2_with fail
   refine (check_ok a cap ls _ HL.out HK.out).mono ?_
   rintro e w1 ⟨rfl,hb⟩
   have HB:Hid (Below w.heap.size w w1):=hb
   have g1:=(HE.out.below hb).c1
   clear hb
   go_wp2_with fail
   go_ret
   exact ⟨_,_,rfl,errIs_sent (HE.out.below HB.out) 1 (by decide),HB.out⟩
theorem delay_bad (a:Option Addr) (cap:Nat) (ls:List (Int × Int)) (per:Int) (w:World) (ad:Nat → Addr) (he:Errs9 w ad) (hl:Lies w a ls) (hcap:ls.length ≤ cap) (hm:cap ≤ maxLen) (c p:Int) (h:LinkFault ls per c p) :
  Calls Tryd.prog 8 #[.slice a ls.length cap,.int .i64 per] w fun e w'=>∃ ty v,e=.returned (.tuple #[.int .i64 0,.iface ty v]) ∧ ErrIs w' (.iface ty v) c p ∧ Below w.heap.size w w':=by
 have HC:=(show Hid (Calls Tryd.prog 17 #[.slice a ls.length cap,.int .i64 per] w fun e w'=>∃ ty v,e=.returned (.iface ty v) ∧ ErrIs w' (.iface ty v) c p ∧ Below w.heap.size w w') from link_bad a cap ls per w ad he hl hcap hm c p h)
 clear he hl hcap hm h
 go_enter Tryd.func8,Tryd.ntmps8
 go_wp2_with fail
 refine HC.out.mono ?_
 rintro e w1 ⟨ty,v,rfl,hE,hb⟩
 have HB:Hid (ErrIs w1 (.iface ty v) c p ∧ Below w.heap.size w w1):=⟨hE,hb⟩
 clear hb hE
 go_wp2_with fail
 go_ret2
 exact ⟨ty,v,rfl,HB.out.1,HB.out.2⟩
theorem rate_bd {ls:List (Int × Int)} {per:Int} (h:LinkOk ls per):0 ≤ leastR ls * per ∧ leastR ls * per ≤ 100000000:=by
 obtain ⟨q,hq,e⟩:=leastR_is ls h.1.1
 have hok:=okLine_true (h.1.2.2 q hq)
 rw [e]
 refine ⟨Int.mul_nonneg hok.2.2.1 (by have:=h.2.1;omega),?_⟩
 have a1:=Int.mul_le_mul_of_nonneg_left h.2.2 hok.2.2.1
 omega
theorem delay_none (a:Option Addr) (cap:Nat) (ls:List (Int × Int)) (per:Int) (w:World) (ad:Nat → Addr) (he:Errs9 w ad) (hl:Lies w a ls) (hcap:ls.length ≤ cap) (hm:cap ≤ maxLen) (h:LinkOk ls per) (hn:1000 < leastR ls * per) :
  Calls Tryd.prog 8 #[.slice a ls.length cap,.int .i64 per] w fun e w'=>e=.returned (.tuple #[.int .i64 0,.iface 139 (.pointer (some (ad 3)))]) ∧ Below w.heap.size w w':=by
 have HL:Hid (Lies w a ls):=hl
 have HK:Hid (LinkOk ls per):=h
 have Hc:Hid (ls.length ≤ cap ∧ cap ≤ maxLen):=⟨hcap,hm⟩
 have HE:Hid (Errs9 w ad):=he
 obtain ⟨r1,r2⟩:=rate_bd h
 clear hl hcap hm he h
 go_enter Tryd.func8,Tryd.ntmps8
 go_wp2_with fail
 refine (link_ok a cap ls per _ HL.out HK.out).mono ?_
 rintro e w1 ⟨rfl,hb⟩
 have HB:Hid (Below w.heap.size w w1):=hb
 clear hb
 go_wp2_with fail
 refine (leastRate_ok a cap ls _ (HL.out.below HB.out) HK.out.1 Hc.out.1 Hc.out.2).mono ?_
 rintro e w2 ⟨rfl,hb2⟩
 have HB2:Hid (Below w.heap.size w w2):=HB.out.trans (hb2.mono HB.out.size)
 have g3:=(HE.out.below HB2.out).c3
 clear hb2
 go_wp2_with fail
 go_quiet (fail)
 go_wp2_with fail
 go_ret2
 exact ⟨rfl,below_drewN HB2.out _⟩
theorem delay_ok (a:Option Addr) (cap:Nat) (ls:List (Int × Int)) (per:Int) (w:World) (hl:Lies w a ls) (hcap:ls.length ≤ cap) (hm:cap ≤ maxLen) (h:LinkOk ls per) (hn:leastR ls * per ≤ 1000) :
  Calls Tryd.prog 8 #[.slice a ls.length cap,.int .i64 per] w fun e w'=>∃ d,e=.returned (.tuple #[.int .i64 d,.nilIface]) ∧ DelayIs per ls d ∧ Below w.heap.size w w':=by
 have HL:Hid (Lies w a ls):=hl
 have HK:Hid (LinkOk ls per):=h
 have Hc:Hid (ls.length ≤ cap ∧ cap ≤ maxLen):=⟨hcap,hm⟩
 obtain ⟨r1,r2⟩:=rate_bd h
 have HN:Hid (leastR ls * per ≤ 1000):=hn
 clear hl hcap hm h
 go_enter Tryd.func8,Tryd.ntmps8
 go_wp2_with fail
 refine (link_ok a cap ls per _ HL.out HK.out).mono ?_
 rintro e w1 ⟨rfl,hb⟩
 have HB:Hid (Below w.heap.size w w1):=hb
 clear hb
 go_wp2_with fail
 refine (leastRate_ok a cap ls _ (HL.out.below HB.out) HK.out.1 Hc.out.1 Hc.out.2).mono ?_
 rintro e w2 ⟨rfl,hb2⟩
 have HB2:Hid (Below w.heap.size w w2):=HB.out.trans (hb2.mono HB.out.size)
 clear hb2
 go_wp2_with fail
 refine (longest_ok a cap ls per _ (HL.out.below HB2.out) HK.out.1 Hc.out.1 Hc.out.2 HK.out.2.1 HK.out.2.2 HN.out).mono ?_
 rintro e w3 ⟨d,rfl,hd,hb3⟩
 have HB3:Hid (DelayIs per ls d ∧ Below w.heap.size w w3):=⟨hd,HB2.out.trans (hb3.mono HB2.out.size)⟩
 clear hb3 hd
 go_wp2_with fail
 go_ret2
 exact ⟨d,rfl,HB3.out.1,HB3.out.2⟩
def askCode (n wks:Int):Int:=if wks < 1 ∨ 16 < wks then 3 else if 100 < n then 2 else 0
def GoodD (per:Int) (ls:List (Int × Int)) (d:Int):Prop:=LinkOk ls per ∧ leastR ls * per ≤ 1000 ∧ DelayIs per ls d
def BadD (per:Int) (ls:List (Int × Int)) (c:Int):Prop:=(∃ p,LinkFault ls per c p) ∨ (LinkOk ls per ∧ 1000 < leastR ls * per ∧ c=4)
end Go.Proofs.YtbokomeejmnnoaaDoor

set_option maxRecDepth 100000
set_option linter.unusedSimpArgs false
namespace Go.Proofs.YtbokomeejmnnoaaDoor
open Go.RowKit
theorem ask_cases (n wks:Int):(wks < 1 ∧ askCode n wks=3) ∨ (¬ wks < 1 ∧ 16 < wks ∧ askCode n wks=3) ∨ (¬ wks < 1 ∧ ¬ 16 < wks ∧ 100 < n ∧ askCode n wks=2) ∨ (¬ wks < 1 ∧ ¬ 16 < wks ∧ ¬ 100 < n ∧ askCode n wks=0):=by
 unfold askCode
 split
 · omega
 · split <;> omega
theorem workersFault_is (wks n:Int) (w:World):Calls Tryd.prog 7 #[.int .i64 wks,.int .i64 n] w fun e w'=>e=.returned (.agg #[.int .i64 (askCode n wks),.int .i64 (-1)]) ∧ Below w.heap.size w w':=by
 have hb0:Below w.heap.size w (w.alloc (.cells #[.int .i64 0,.int .i64 0] 32)):=(Below.refl _ _).alloc (Nat.le_refl _) _
 rcases ask_cases n wks with ⟨h1,h⟩ | ⟨h1,h2,h⟩ | ⟨h1,h2,h3,h⟩ | ⟨h1,h2,h3,h⟩ <;> rw [h] <;> clear h
 ·
  go_enter Tryd.func7,Tryd.ntmps7
  go_wp2_with fail
  refine (bare_any 3 _).mono ?_
  rintro e w1 ⟨rfl,hb⟩
  obtain ⟨hc,hc',hf,hf'⟩:=(two_new w _ _ _).later hb
  have HB:Hid (Below w.heap.size w w1):=hb0.trans (hb.mono hb0.size)
  clear hb hb0
  go_wp2_with fail
  exact bodyPost_ret (v:=.agg #[.int .i64 3,.int .i64 (-1)]) (by simp [results,Tryd.results7,go_sem,hc,hc']) rfl ⟨rfl,(HB.out.setCell (Nat.le_refl _) _).setCell (Nat.le_refl _) _⟩
 ·
  go_enter Tryd.func7,Tryd.ntmps7
  go_wp2_with fail
  refine (bare_any 3 _).mono ?_
  rintro e w1 ⟨rfl,hb⟩
  obtain ⟨hc,hc',hf,hf'⟩:=(two_new w _ _ _).later hb
  have HB:Hid (Below w.heap.size w w1):=hb0.trans (hb.mono hb0.size)
  clear hb hb0
  go_wp2_with fail
  exact bodyPost_ret (v:=.agg #[.int .i64 3,.int .i64 (-1)]) (by simp [results,Tryd.results7,go_sem,hc,hc']) rfl ⟨rfl,(HB.out.setCell (Nat.le_refl _) _).setCell (Nat.le_refl _) _⟩
 ·
  go_enter Tryd.func7,Tryd.ntmps7
  go_wp2_with fail
  refine (bare_any 2 _).mono ?_
  rintro e w1 ⟨rfl,hb⟩
  obtain ⟨hc,hc',hf,hf'⟩:=(two_new w _ _ _).later hb
  have HB:Hid (Below w.heap.size w w1):=hb0.trans (hb.mono hb0.size)
  clear hb hb0
  go_wp2_with fail
  exact bodyPost_ret (v:=.agg #[.int .i64 2,.int .i64 (-1)]) (by simp [results,Tryd.results7,go_sem,hc,hc']) rfl ⟨rfl,(HB.out.setCell (Nat.le_refl _) _).setCell (Nat.le_refl _) _⟩
 ·
  go_enter Tryd.func7,Tryd.ntmps7
  go_wp2_with fail
  refine (fine_any _).mono ?_
  rintro e w1 ⟨rfl,hb⟩
  obtain ⟨hc,hc',hf,hf'⟩:=(two_new w _ _ _).later hb
  have HB:Hid (Below w.heap.size w w1):=hb0.trans (hb.mono hb0.size)
  clear hb hb0
  go_wp2_with fail
  exact bodyPost_ret (v:=.agg #[.int .i64 0,.int .i64 (-1)]) (by simp [results,Tryd.results7,go_sem,hc,hc']) rfl ⟨rfl,(HB.out.setCell (Nat.le_refl _) _).setCell (Nat.le_refl _) _⟩
theorem sameInts_empty (a b:Option Addr) (c1 c2:Nat) (w:World):Calls Tryd.prog 12 #[.slice a 0 c1,.slice b 0 c2] w fun e w'=>e=.returned (.bool true) ∧ Below w.heap.size w w':=by
 go_enter Tryd.func12,Tryd.ntmps12
 go_wp2_with fail
 go_loopw [5] (fun iv wr=>iv=.int .i64 0 ∧ wr=w) (fun _ _=>0)
 case atStart=>exact ⟨rfl,rfl⟩
 case round=>
  obtain ⟨rfl,rfl⟩:=hrel
  go_wp2_with fail
  go_ret
  exact ⟨rfl,Below.refl _ _⟩
end Go.Proofs.YtbokomeejmnnoaaDoor

set_option maxRecDepth 100000
set_option linter.unusedSimpArgs false
namespace Go.Proofs.YtbokomeejmnnoaaDoor
open Go.RowKit
def lwRest (f:Func):Code:=secondC (secondC (secondC (secondC (lwRest1 f))))
theorem Two.block {w w1 w2:World} {x y:Value} (h:Two w w1 x y) (hb:w2.heap[w.heap.size]? = w1.heap[w.heap.size]?):Two w w2 x y:=by
 obtain ⟨h1,h2,h3,h4⟩:=h
 unfold World.cell? at h1 h2
 unfold World.frozen? at h3 h4
 refine ⟨?_,?_,?_,?_⟩
 ·
  unfold World.cell?
  dsimp only at h1 ⊢
  rw [hb]
  exact h1
 ·
  unfold World.cell?
  dsimp only at h2 ⊢
  rw [hb]
  exact h2
 ·
  unfold World.frozen?
  dsimp only at h3 ⊢
  rw [hb]
  exact h3
 ·
  unfold World.frozen?
  dsimp only at h4 ⊢
  rw [hb]
  exact h4
structure RestAt (cs:List (List (Int × Int))) (per wks:Int) (n:Nat) (v w1:World) (i:Nat) (v14:Value) (c p:Int) (ds:List Int) (wr:World):Prop where
 below:Below v.heap.size v wr
 low:v.heap.size ≤ w1.heap.size
 lt:w1.heap.size < wr.heap.size
 two:Two w1 wr (.int .i64 c) (.int .i64 p)
 len:ds.length=i
 own:wr.ownsRow (w1.heap.size+1) 3 1 v14 i (ints ds)
 none_:c=0 → askCode n wks=0 ∧ ∀ (j:Nat) d,ds[j]? = some d → GoodD per (cs.getD j []) d
 some_:c ≠ 0 → 0 < c ∧ ((askCode n wks=c ∧ p = -1) ∨ (askCode n wks=0 ∧ ∃ k:Nat,k < n ∧ p=k ∧ (∀ j,j < k → ∃ d,GoodD per (cs.getD j []) d) ∧ BadD per (cs.getD k []) c))
section
variable {cs:List (List (Int × Int))} {per wks:Int} {n:Nat} {v w1 wr w':World} {i:Nat} {v14:Value} {c p:Int} {ds:List Int}
theorem RestAt.later (h:RestAt cs per wks n v w1 i v14 c p ds wr) (hb:Below wr.heap.size wr w'):RestAt cs per wks n v w1 i v14 c p ds w':=
 ⟨h.below.trans (hb.mono h.below.size),h.low,Nat.lt_of_lt_of_le h.lt hb.size,h.two.later hb,h.len,ownsRow_of_block h.own fun g _ hlt=>hb.block g hlt,h.none_,h.some_⟩
theorem RestAt.grown (h:RestAt cs per wks n v w1 i v14 c p ds wr) {d:Int} {g cap:Nat} (ho:w'.ownsRow (w1.heap.size+1) 3 1 (.slice (some ⟨g,0,none⟩) (i+1) cap) (i+1) (ints ds ++ ints [d])) (hg:wr.grownBy w' v14.ownBlock) (hd:c=0 → GoodD per (cs.getD i []) d):RestAt cs per wks n v w1 (i+1) (.slice (some ⟨g,0,none⟩) (i+1) cap) c p (ds ++ [d]) w':=by
 have hne:∀ k,k ≤ w1.heap.size → v14.ownBlock ≠ some k:=fun k hk e=>by
  have:=(ownsRow_lt h.own e).1
  omega
 refine ⟨h.below.grown hg h.below.size (fun k hk=>?_),h.low,Nat.lt_of_lt_of_le h.lt hg.size,h.two.block (hg.block _ h.lt fun e=>hne _ (Nat.le_refl _) e.symm),by simp [h.len],by rw [ints_append];exact ho,fun h0=>⟨(h.none_ h0).1,fun j d' hj=>?_⟩,h.some_⟩
 ·
  have:=(ownsRow_lt h.own hk).1
  have:=h.low
  omega
 ·
  rcases Nat.lt_or_ge j ds.length with hlt | hge
  ·
   rw [List.getElem?_append_left hlt] at hj
   exact (h.none_ h0).2 j d' hj
  ·
   rw [List.getElem?_append_right hge] at hj
   have hj0:j - ds.length=0:=by
    have:=lt_of_get hj
    simp at this
    omega
   rw [hj0] at hj
   cases hj
   obtain rfl:j=i:=by have:=h.len;omega
   exact hd h0
theorem RestAt.fails (h:RestAt cs per wks n v w1 i v14 0 p ds wr) {c':Int} (hi:i < n) (hc:0 < c') (hb:BadD per (cs.getD i []) c'):RestAt cs per wks n v w1 i v14 c' i ds ((wr.setCell ⟨w1.heap.size,0,none⟩ (.int .i64 c')).setCell ⟨w1.heap.size,1,none⟩ (.int .i64 i)):=by
 have h1:=h.two
 have e1:(wr.setCell ⟨w1.heap.size,0,none⟩ (.int .i64 c')).cell? ⟨w1.heap.size,1,none⟩=some (.int .i64 p):=by
  rw [World.cell?_setCell_other _ _ _ _ (by intro e;injection e with _ e2;cases e2)]
  exact h1.c1
 refine ⟨(h.below.setCell h.low _).setCell h.low _,h.low,by simpa using h.lt,⟨?_,?_,?_,?_⟩,h.len,?_,fun h0=>by omega,fun _=>⟨hc,.inr ⟨(h.none_ rfl).1,i,hi,rfl,fun j hj=>?_,hb⟩⟩⟩
 ·
  rw [World.cell?_setCell_other _ _ _ _ (by intro e;injection e with _ e2;cases e2)]
  exact World.cell?_setCell_same' _ _ _ (by rw [h1.c0];rfl)
 · exact World.cell?_setCell_same' _ _ _ (by rw [e1];rfl)
 · rw [World.frozen?_setCell,World.frozen?_setCell];exact h1.f0
 · rw [World.frozen?_setCell,World.frozen?_setCell];exact h1.f1
 ·
  have hbut:But (fun k=>k=w1.heap.size) wr ((wr.setCell ⟨w1.heap.size,0,none⟩ (.int .i64 c')).setCell ⟨w1.heap.size,1,none⟩ (.int .i64 i)):=But.setCell (S:=fun k=>k=w1.heap.size) (But.setCell (S:=fun k=>k=w1.heap.size) (But.refl _ wr) (p:=⟨w1.heap.size,0,none⟩) rfl _) (p:=⟨w1.heap.size,1,none⟩) rfl _
  refine ownsRow_of_block h.own fun g hg hlt=>hbut.block g hlt fun e=>?_
  have:=(ownsRow_lt h.own hg).1
  omega
 ·
  obtain ⟨d,hd,-⟩:=get_some ds j (by rw [h.len];exact hj)
  exact ⟨d,(h.none_ rfl).2 j d hd⟩
end
end Go.Proofs.YtbokomeejmnnoaaDoor
