/- Own facts, put together: no statement of its own. -/
import Derived.Test.YtipdclphpkgceaaGreatDoorA14
import Derived.Test.YtipdclphpkgceaaGreatDoorA12
import Derived.BigRegion
import Derived.Test.YtipdclphpkgceaaGreatDoorA10
import Derived.Test.YtipdclphpkgceaaGreatDoorA05
import Derived.Test.YtipdclphpkgceaaGreatDoorA08
import Derived.Deep.LoopGhost
import Derived.Test.YtipdclphpkgceaaGreatDoorA07
set_option maxHeartbeats 2000000
set_option maxRecDepth 100000

namespace Go.Proofs.YtipdclphpkgceaaGreatDoor
open Go.RowKit
structure Ey (per:Int) (ls:List (Int × Int)) (d:Int):Prop where
 upper:∀ t,0 ≤ t → per * Bt t ls - t ≤ d
 at_:∃ k,d=Da per ls k ∧ (miss (A8 k ls).1 k=0 ∨ 0 < (A8 k ls).2) ∧ 1 ≤ k ∧ k ≤ 20019999 ∧ (turns per ls k=false ∨ turns per ls (k - 1)=false)
theorem KP {per k:Int} {ls:List (Int × Int)} (h:Ag ls) (hk:turns per ls k=false):miss (A8 k ls).1 k=0 ∨ 0 < (A8 k ls).2:=by
 have hk':¬ (0 < miss (A8 k ls).1 k ∧ (A8 k ls).2 * per ≤ 1000):=of_decide_eq_false hk
 have hok:=Ap (h.2.2 _ (Es k ls h.1))
 have mn:=Em (A8 k ls).1 k
 by_cases hz:miss (A8 k ls).1 k=0
 · exact .inl hz
 ·
  rcases Int.lt_or_le 0 (A8 k ls).2 with h | h
  · exact .inr h
  ·
   have e:(A8 k ls).2=0:=by omega
   exact absurd ⟨by omega,by rw [e,Int.zero_mul];omega⟩ hk'
theorem Wn {per T:Int} {ls:List (Int × Int)} (h:Ag ls) (hper:1 ≤ per) (hT1:2 ≤ T) (hT2:T ≤ 20019999) (hp:turns per ls T=true) (hq:turns per ls (T - 1)=false) (hz:¬ 0 < (A8 T ls).2):Ey per ls (Da per ls (T - 1)):=by
 refine ⟨fun t ht=>?_,T - 1,rfl,KP h hq,by omega,by omega,.inl hq⟩
 rcases Int.lt_or_le (Bt t ls) T with hlt | hge
 · exact (NV h hper ht hq (by omega) (Int.le_refl _)).2
 · exact absurd (LM h hp hge (Int.le_refl _)).1 hz
theorem Ww {per T:Int} {ls:List (Int × Int)} (h:Ag ls) (hper:1 ≤ per) (hT1:2 ≤ T) (hT2:T ≤ 20019999) (hp:turns per ls T=true) (hq:turns per ls (T - 1)=false) (hz:0 < (A8 T ls).2):Ey per ls (max (Da per ls (T - 1)) (Da per ls T)):=by
 refine ⟨fun t ht=>?_,?_⟩
 ·
  rcases Int.lt_or_le (Bt t ls) T with hlt | hge
  ·
   have:=(NV h hper ht hq (n:=Bt t ls) (by omega) (Int.le_refl _)).2
   show per * Bt t ls - t ≤ max (Da per ls (T - 1)) (Da per ls T)
   unfold Da
   omega
  ·
   have:=(LM h hp hge (Int.le_refl _) (t:=t)).2
   unfold Da
   omega
 ·
  by_cases hm:Da per ls (T - 1) ≤ Da per ls T
  · exact ⟨T,by omega,.inr hz,by omega,by omega,.inr hq⟩
  · exact ⟨T - 1,by omega,KP h hq,by omega,by omega,.inl hq⟩
theorem VJ {per n:Int} {ls:List (Int × Int)} (h:Ag ls) (p1:1 ≤ per) (p2:per ≤ 1000) (n0:0 ≤ n) (n1:n ≤ 20020000) (hk:miss (A8 n ls).1 n=0 ∨ 0 < (A8 n ls).2) : -20020100000 ≤ Da per ls n ∧ Da per ls n ≤ 20020000000:=by
 obtain ⟨b1,b2⟩:=Y5 p1 p2 n0 n1
 have hok:=Ap (h.2.2 _ (Es n ls h.1))
 have:=Rs (x:=(A8 n ls).1) (y:=(A8 n ls).2) hok.1 hok.2.2.1 hok.2.2.2 n0 n1 hk
 have e:((A8 n ls).1,(A8 n ls).2)=A8 n ls:=rfl
 rw [e] at this
 unfold Da
 omega
theorem Tryz.fieldRate (x y:Value) (w:World):(Instr.field 83 (.agg #[x,y]) 1).run Tryz.prog w=.ok y w:=by kernel_rfl
theorem TL (a:Option Addr) (cap:Nat) (ls:List (Int × Int)) (per:Int) (w:World) (hl:AL w a ls) (h:Ag ls) (hcap:ls.length ≤ cap) (hm:cap ≤ maxLen) (p1:1 ≤ per) (p2:per ≤ 1000) (hs:EX ls * per ≤ 1000) :
  Calls Tryz.prog 61 #[.slice a ls.length cap,.int .i64 per] w fun e w'=>∃ d,e=.returned (.int .i64 d) ∧ Ey per ls d ∧ Below w.heap.size w w':=by
 have HK:Hid (Ag ls):=h
 have Hc:Hid (ls.length ≤ cap ∧ cap ≤ maxLen):=⟨hcap,hm⟩
 have hbW:Below w.heap.size w ((w.alloc (.cells #[.slice a ls.length cap] 62)).alloc (.cells #[.int .i64 per] 3)):=((Below.refl _ _).alloc (Nat.le_refl _) _).alloc (by simp) _
 have c1:((w.alloc (.cells #[.slice a ls.length cap] 62)).alloc (.cells #[.int .i64 per] 3)).cell? ⟨w.heap.size,0,none⟩=some (.slice a ls.length cap):=by simp
 have c2:((w.alloc (.cells #[.slice a ls.length cap] 62)).alloc (.cells #[.int .i64 per] 3)).cell? ⟨w.heap.size+1,0,none⟩=some (.int .i64 per):=by simp
 have HF:Hid (turns per ls 20019999=true):=Xc h p1 hs
 have HO:Hid (turns per ls 1=false):=WM h
 have HL0:=hl.below hbW
 have fl:=Tryz.fieldRate
 go_enter Tryz.func61,Tryz.ntmps61
 go_wp2_with fail
 generalize (w.alloc (.cells #[.slice a ls.length cap] 62)).alloc (.cells #[.int .i64 per] 3)=W at *
 have HBW:Hid (Below w.heap.size w W):=hbW
 have HL:Hid (AL W a ls):=HL0
 have H1:Hid (W.cell? ⟨w.heap.size,0,none⟩=some (.slice a ls.length cap)):=c1
 have H2:Hid (W.cell? ⟨w.heap.size+1,0,none⟩=some (.int .i64 per)):=c2
 clear hbW HL0 c1 c2 hl h hcap hm hs
 refine (Vl 1 20020000 (.pointer (some ⟨w.heap.size,0,none⟩)) (.pointer (some ⟨w.heap.size+1,0,none⟩)) (turns per ls) W W (Below.refl _ _) (by decide) (by decide) (by decide)
  (fun n W' h1 h2 hb=>WC a cap ls per n W' w.heap.size (w.heap.size+1) (cell_later hb H1.out) (cell_later hb H2.out) (HL.out.below hb) HK.out Hc.out.1 Hc.out.2 p1 p2 (by omega) (by omega))).mono ?_
 rintro e w1 ⟨T,rfl,t1,t2,t3,t4,hb1⟩
 have hT1:2 ≤ T:=by
  rcases Int.lt_or_le T 2 with h | h
  ·
   have e1:T=1:=by omega
   subst e1
   rcases t3 with t3 | t3
   · omega
   · rw [HO.out] at t3;cases t3
  · exact h
 have t4':turns per ls (T - 1)=false:=by
  rcases t4 with t4 | t4
  · omega
  · exact t4
 have hT2:T ≤ 20019999:=by
  rcases Int.lt_or_le 20019999 T with h | h
  ·
   have e1:T=20020000:=by omega
   subst e1
   rw [show (20020000:Int) - 1=20019999 from rfl,HF.out] at t4'
   cases t4'
  · exact h
 have t3':turns per ls T=true:=by
  rcases t3 with t3 | t3
  · omega
  · exact t3
 have HP:Hid (turns per ls T=true):=t3'
 have HQ:Hid (turns per ls (T - 1)=false):=t4'
 have HB1:Hid (Below W.heap.size W w1):=hb1
 have hk1:=KP HK.out t4'
 have hw1:=VJ (n:=T - 1) HK.out p1 p2 (by omega) (by omega) hk1
 have HK1:Hid (miss (A8 (T - 1) ls).1 (T - 1)=0 ∨ 0 < (A8 (T - 1) ls).2):=hk1
 have d1:=cell_later hb1 H1.out
 have d2:=cell_later hb1 H2.out
 clear t3 t4 t3' t4' hk1 hb1
 go_wp2_with fail
 refine (V4 a cap ls per (T - 1) _ (HL.out.below HB1.out) HK.out Hc.out.1 Hc.out.2 p1 p2 (by omega) (by omega) HK1.out).mono ?_
 rintro e w2 ⟨rfl,hb2⟩
 have HB2:Hid (Below W.heap.size W w2):=HB1.out.trans (hb2.mono HB1.out.size)
 have e1:=cell_later HB2.out H1.out
 have e2:=cell_later HB2.out H2.out
 clear hb2 d1 d2
 go_wp2_with fail
 refine (QD a cap ls T _ (HL.out.below HB2.out) HK.out Hc.out.1 Hc.out.2 (by omega) (by omega)).mono ?_
 rintro e w3 ⟨rfl,hb3⟩
 have HB3:Hid (Below W.heap.size W w3):=HB2.out.trans (hb3.mono HB2.out.size)
 have f1:=cell_later HB3.out H1.out
 have f2:=cell_later HB3.out H2.out
 clear hb3 e1 e2
 by_cases hr:0 < (A8 T ls).2
 ·
  have hw2:=VJ (n:=T) HK.out p1 p2 (by omega) (by omega) (.inr hr)
  have HR:Hid (0 < (A8 T ls).2):=hr
  go_wp2_with fail
  refine (V4 a cap ls per T _ (HL.out.below HB3.out) HK.out Hc.out.1 Hc.out.2 p1 p2 (by omega) (by omega) (.inr HR.out)).mono ?_
  rintro e w4 ⟨rfl,hb4⟩
  have HB4:Hid (Below W.heap.size W w4):=HB3.out.trans (hb4.mono HB3.out.size)
  clear hb4 f1 f2
  have HX:Hid (Ey per ls (max (Da per ls (T - 1)) (Da per ls T))):=Ww HK.out p1 hT1 hT2 HP.out HQ.out HR.out
  go_wp2_with fail
  all_goals
   go_ret
   refine ⟨_,congrArg (fun z=>Ending.returned (.int .i64 z)) ?_,HX.out,HBW.out.trans (HB4.out.mono HBW.out.size)⟩
   first | exact max_if _ _ | omega
 ·
  have HX:Hid (Ey per ls (Da per ls (T - 1))):=Wn HK.out p1 hT1 hT2 HP.out HQ.out hr
  go_wp2_with fail
  go_ret
  exact ⟨_,rfl,HX.out,HBW.out.trans (HB3.out.mono HBW.out.size)⟩
def PK (ls:List (Int × Int)) (per c p:Int):Prop:=(CW ls c p ∧ c ≠ 0) ∨ (Ag ls ∧ (per < 1 ∨ 1000 < per) ∧ c=2 ∧ p = -1)
def IU (ls:List (Int × Int)) (per:Int):Prop:=Ag ls ∧ 1 ≤ per ∧ per ≤ 1000
theorem PK.ne {ls:List (Int × Int)} {per c p:Int} (h:PK ls per c p):c=2 ∨ c=3:=by
 rcases h with ⟨h,h0⟩ | ⟨_,_,h,_⟩
 ·
  rcases h.num with h | h
  · exact absurd h h0
  · exact h
 · exact .inl h
theorem Qe (a:Option Addr) (cap:Nat) (ls:List (Int × Int)) (per:Int) (w:World) (hl:AL w a ls) (h:IU ls per) :
  Calls Tryz.prog 59 #[.slice a ls.length cap,.int .i64 per] w fun e w'=>e=.returned .nilIface ∧ Below w.heap.size w w':=by
 obtain ⟨hk,p1,p2⟩:=h
 have HL:Hid (AL w a ls):=hl
 have HK:Hid (Ag ls):=hk
 clear hl hk
 go_enter Tryz.func59,Tryz.ntmps59
 go_wp2_with fail
 refine (EE a cap ls _ HL.out HK.out).mono ?_
 rintro e w1 ⟨rfl,hb⟩
 have HB:Hid (Below w.heap.size w w1):=hb
 clear hb
 go_wp2_with fail
 go_ret
 exact ⟨rfl,HB.out⟩
theorem VM {ls:List (Int × Int)} {per:Int} (h:IU ls per):0 ≤ EX ls * per ∧ EX ls * per ≤ 100000000:=by
 obtain ⟨q,hq,e⟩:=Pw ls h.1.1
 have hok:=Ap (h.1.2.2 q hq)
 rw [e]
 refine ⟨Int.mul_nonneg hok.2.2.1 (by have:=h.2.1;omega),?_⟩
 have a1:=Int.mul_le_mul_of_nonneg_left h.2.2 hok.2.2.1
 omega
theorem Ud (a:Option Addr) (cap:Nat) (ls:List (Int × Int)) (per:Int) (w:World) (ad:Nat → Addr) (he:AP w ad) (hl:AL w a ls) (hcap:ls.length ≤ cap) (hm:cap ≤ maxLen) (h:IU ls per) (hn:1000 < EX ls * per) :
  Calls Tryz.prog 35 #[.slice a ls.length cap,.int .i64 per] w fun e w'=>e=.returned (.tuple #[.int .i64 0,.iface 312 (.pointer (some (ad 3)))]) ∧ Below w.heap.size w w':=by
 have HL:Hid (AL w a ls):=hl
 have HK:Hid (IU ls per):=h
 have Hc:Hid (ls.length ≤ cap ∧ cap ≤ maxLen):=⟨hcap,hm⟩
 have HE:Hid (AP w ad):=he
 obtain ⟨r1,r2⟩:=VM h
 clear hl hcap hm he h
 go_enter Tryz.func35,Tryz.ntmps35
 go_wp2_with fail
 refine (Qe a cap ls per _ HL.out HK.out).mono ?_
 rintro e w1 ⟨rfl,hb⟩
 have HB:Hid (Below w.heap.size w w1):=hb
 clear hb
 go_wp2_with fail
 refine (Kj a cap ls _ (HL.out.below HB.out) HK.out.1 Hc.out.1 Hc.out.2).mono ?_
 rintro e w2 ⟨rfl,hb2⟩
 have HB2:Hid (Below w.heap.size w w2):=HB.out.trans (hb2.mono HB.out.size)
 have g3:=(HE.out.below HB2.out).c3
 clear hb2
 go_wp2_with fail
 go_quiet (fail)
 go_wp2_with fail
 go_ret2
 exact ⟨rfl,below_drewN HB2.out _⟩
theorem Zc (a:Option Addr) (cap:Nat) (ls:List (Int × Int)) (per:Int) (w:World) (hl:AL w a ls) (hcap:ls.length ≤ cap) (hm:cap ≤ maxLen) (h:IU ls per) (hn:EX ls * per ≤ 1000) :
  Calls Tryz.prog 35 #[.slice a ls.length cap,.int .i64 per] w fun e w'=>∃ d,e=.returned (.tuple #[.int .i64 d,.nilIface]) ∧ Ey per ls d ∧ Below w.heap.size w w':=by
 have HL:Hid (AL w a ls):=hl
 have HK:Hid (IU ls per):=h
 have Hc:Hid (ls.length ≤ cap ∧ cap ≤ maxLen):=⟨hcap,hm⟩
 obtain ⟨r1,r2⟩:=VM h
 have HN:Hid (EX ls * per ≤ 1000):=hn
 clear hl hcap hm h
 go_enter Tryz.func35,Tryz.ntmps35
 go_wp2_with fail
 refine (Qe a cap ls per _ HL.out HK.out).mono ?_
 rintro e w1 ⟨rfl,hb⟩
 have HB:Hid (Below w.heap.size w w1):=hb
 clear hb
 go_wp2_with fail
 refine (Kj a cap ls _ (HL.out.below HB.out) HK.out.1 Hc.out.1 Hc.out.2).mono ?_
 rintro e w2 ⟨rfl,hb2⟩
 have HB2:Hid (Below w.heap.size w w2):=HB.out.trans (hb2.mono HB.out.size)
 clear hb2
 go_wp2_with fail
 refine (TL a cap ls per _ (HL.out.below HB2.out) HK.out.1 Hc.out.1 Hc.out.2 HK.out.2.1 HK.out.2.2 HN.out).mono ?_
 rintro e w3 ⟨d,rfl,hd,hb3⟩
 have HB3:Hid (Ey per ls d ∧ Below w.heap.size w w3):=⟨hd,HB2.out.trans (hb3.mono HB2.out.size)⟩
 clear hb3 hd
 go_wp2_with fail
 go_ret2
 exact ⟨d,rfl,HB3.out.1,HB3.out.2⟩
theorem Wd (a:Option Addr) (cap:Nat) (ls:List (Int × Int)) (per n:Int) (w:World) (k1 k2:Nat) (c1:w.cell? ⟨k1,0,none⟩=some (.slice a ls.length cap)) (c2:w.cell? ⟨k2,0,none⟩=some (.int .i64 per))
  (hl:AL w a ls) (h:Ag ls) (hcap:ls.length ≤ cap) (hm:cap ≤ maxLen) (m0:0 ≤ per * n) (m1:per * n ≤ 1099511627776) :
  Calls Tryz.prog 63 #[.int .i64 n,.pointer (some ⟨k1,0,none⟩),.pointer (some ⟨k2,0,none⟩)] w fun e w'=>e=.returned (.bool (Gj per ls n)) ∧ Below w.heap.size w w':=by
 have HL:Hid (AL w a ls):=hl
 have HK:Hid (Ag ls):=h
 have Hc:Hid (ls.length ≤ cap ∧ cap ≤ maxLen):=⟨hcap,hm⟩
 clear hl h hcap hm
 go_enter Tryz.func63,Tryz.ntmps63
 go_wp2_with fail
 refine (M0 a cap ls (per * n) _ HL.out HK.out Hc.out.1 Hc.out.2 m0 m1).mono ?_
 rintro e w1 ⟨rfl,hb⟩
 have HB:Hid (Below w.heap.size w w1):=hb
 clear hb
 go_wp2_with fail
 go_ret
 exact ⟨rfl,HB.out⟩
structure JK (per:Int) (ls:List (Int × Int)) (n:Int):Prop where
 one:1 ≤ n
 most:per * n ≤ 1099511627776
 is_:Gj per ls n=true
 least:n=1 ∨ Gj per ls (n - 1)=false
def Me (per:Int) (ls:List (Int × Int)):Prop:=∀ n,1 ≤ n → per * n ≤ 1099511627776 → Gj per ls n=false
theorem Yy {per:Int} (p1:1 ≤ per) (p2:per ≤ 1000):1099511627 ≤ (1099511627776:Int) / per ∧ (1099511627776:Int) / per ≤ 1099511627776 ∧ per * ((1099511627776:Int) / per) ≤ 1099511627776 ∧ (1099511627776:Int) < per * ((1099511627776:Int) / per)+per:=by
 have h1:=Int.mul_ediv_self_le (x:=1099511627776) (k:=per) (by omega)
 have h2:=Int.lt_mul_ediv_self_add (x:=1099511627776) (k:=per) (by omega)
 have h3:=Int.ediv_le_self (a:=1099511627776) per (by omega)
 refine ⟨?_,h3,h1,h2⟩
 rcases Int.lt_or_le ((1099511627776:Int) / per) 1099511627 with h | h
 ·
  exfalso
  generalize (1099511627776:Int) / per=q at *
  have a1:=Int.mul_le_mul_of_nonneg_left (show q+1 ≤ 1099511627 by omega) (show 0 ≤ per by omega)
  rw [Int.mul_add] at a1
  omega
 · exact h
theorem Uq {per r:Int} {ls:List (Int × Int)} (h:Ag ls) (p1:1 ≤ per) (p2:per ≤ 1000) (r1:1 ≤ r) (_r2:r ≤ 1099511627776 / per+1) (h3:r=1099511627776 / per+1 ∨ Gj per ls r=true) (h4:r=1 ∨ Gj per ls (r - 1)=false) :
  (r ≤ 1099511627776 / per ∧ JK per ls r) ∨ (1099511627776 / per < r ∧ Me per ls):=by
 obtain ⟨q1,q2,q3,q4⟩:=Yy p1 p2
 generalize (1099511627776:Int) / per=q at *
 by_cases hr:r ≤ q
 ·
  refine .inl ⟨hr,r1,?_,?_,h4⟩
  ·
   have:=Int.mul_le_mul_of_nonneg_left hr (show 0 ≤ per by omega)
   omega
  ·
   rcases h3 with h3 | h3
   · omega
   · exact h3
 ·
  refine .inr ⟨by omega,fun n n1 n2=>?_⟩
  have er:r=q+1:=by omega
  subst er
  rcases h4 with h4 | h4
  · omega
  ·
   rw [show q+1 - 1=q by omega] at h4
   cases hq:Gj per ls n with
   | false=>rfl
   | true=>
    have hnq:n ≤ q:=by
     rcases Int.lt_or_le q n with h | h
     ·
      have:=Int.mul_le_mul_of_nonneg_left (show q+1 ≤ n by omega) (show 0 ≤ per by omega)
      rw [Int.mul_add] at this
      omega
     · exact h
    have:=VL (n:=q) h p1 n1 hnq hq
    rw [h4] at this
    cases this
theorem X7 (a:Option Addr) (cap:Nat) (ls:List (Int × Int)) (per:Int) (w:World) (ad:Nat → Addr) (he:AP w ad) (hl:AL w a ls) (hcap:ls.length ≤ cap) (hm:cap ≤ maxLen) (h:IU ls per) :
  Calls Tryz.prog 36 #[.slice a ls.length cap,.int .i64 per] w fun e w'=>Below w.heap.size w w' ∧ ((∃ n,JK per ls n ∧ e=.returned (.tuple #[.int .i64 (per * n),.nilIface])) ∨ (Me per ls ∧ e=.returned (.tuple #[.int .i64 0,.iface 312 (.pointer (some (ad 3)))]))):=by
 have hbW:Below w.heap.size w ((w.alloc (.cells #[.slice a ls.length cap] 62)).alloc (.cells #[.int .i64 per] 3)):=((Below.refl _ _).alloc (Nat.le_refl _) _).alloc (by simp) _
 have c1:((w.alloc (.cells #[.slice a ls.length cap] 62)).alloc (.cells #[.int .i64 per] 3)).cell? ⟨w.heap.size,0,none⟩=some (.slice a ls.length cap):=by simp
 have c2:((w.alloc (.cells #[.slice a ls.length cap] 62)).alloc (.cells #[.int .i64 per] 3)).cell? ⟨w.heap.size+1,0,none⟩=some (.int .i64 per):=by simp
 have HL0:=hl.below hbW
 have HE0:=he.below hbW
 have HK:Hid (IU ls per):=h
 have Hc:Hid (ls.length ≤ cap ∧ cap ≤ maxLen):=⟨hcap,hm⟩
 obtain ⟨hk,p1,p2⟩:=h
 obtain ⟨q1,q2,q3,q4⟩:=Yy p1 p2
 have hp0:(per == 0)=false:=by simp;omega
 go_enter Tryz.func36,Tryz.ntmps36
 go_wp2_with fail
 generalize (w.alloc (.cells #[.slice a ls.length cap] 62)).alloc (.cells #[.int .i64 per] 3)=W at *
 have HBW:Hid (Below w.heap.size w W):=hbW
 have HL:Hid (AL W a ls):=HL0
 have HE:Hid (AP W ad):=HE0
 have H1:Hid (W.cell? ⟨w.heap.size,0,none⟩=some (.slice a ls.length cap)):=c1
 have H2:Hid (W.cell? ⟨w.heap.size+1,0,none⟩=some (.int .i64 per)):=c2
 clear hbW HL0 HE0 c1 c2 hl he hk hcap hm
 refine (Qe a cap ls per _ HL.out HK.out).mono ?_
 rintro e w1 ⟨rfl,hb1⟩
 have HB1:Hid (Below W.heap.size W w1):=hb1
 have d1:=cell_later hb1 H1.out
 have d2:=cell_later hb1 H2.out
 clear hb1
 go_wp2_with fail
 have HQ:Hid (per * (1099511627776 / per) ≤ 1099511627776):=q3
 refine (Um 1 (1099511627776 / per+1) (.pointer (some ⟨w.heap.size,0,none⟩)) (.pointer (some ⟨w.heap.size+1,0,none⟩)) (Gj per ls) W w1 HB1.out (by decide) (by omega) (by omega)
  (fun n W' h1 h2 hb=>Wd a cap ls per n W' w.heap.size (w.heap.size+1) (cell_later hb H1.out) (cell_later hb H2.out) (HL.out.below hb) HK.out.1 Hc.out.1 Hc.out.2 (Int.mul_nonneg (by omega) (by omega))
   (Int.le_trans (Int.mul_le_mul_of_nonneg_left (show n ≤ 1099511627776 / per by omega) (show 0 ≤ per by omega)) HQ.out))).mono ?_
 rintro e w2 ⟨r,rfl,r1,r2,r3,r4,hb2⟩
 have HB2:Hid (Below W.heap.size W w2):=hb2
 have e2:=cell_later hb2 H2.out
 have g3:=(HE.out.below hb2).c3
 clear hb2 d1 d2
 rcases Uq HK.out.1 p1 p2 r1 r2 r3 r4 with ⟨hr,hB⟩ | ⟨hr,hB⟩
 ·
  have HX:Hid (JK per ls r):=hB
  have m1:=hB.most
  have m0:0 ≤ per * r:=Int.mul_nonneg (by omega) (by omega)
  clear r3 r4 hB
  go_wp2_with fail
  go_ret2
  exact ⟨HBW.out.trans (HB2.out.mono HBW.out.size),.inl ⟨r,HX.out,rfl⟩⟩
 ·
  have HX:Hid (Me per ls):=hB
  clear r3 r4 hB
  go_wp2_with fail
  go_quiet (fail)
  go_wp2_with fail
  go_ret2
  exact ⟨below_drewN (HBW.out.trans (HB2.out.mono HBW.out.size)) _,.inr ⟨HX.out,rfl⟩⟩
theorem Eg {S:Nat → Prop} {w w':World} {a:Option Addr} {ns:List Int} (h:AV w a ns) (hb:But S w w') (hs:∀ ad,a=some ad → ¬ S ad.block):AV w' a ns:=by
 rcases h with rfl | ⟨b,off,rfl,hlt,hc⟩
 · exact .inl rfl
 ·
  have hn:¬ S b:=hs _ rfl
  exact .inr ⟨b,off,rfl,Nat.lt_of_lt_of_le hlt hb.size,fun i x hi=>by rw [hb.cell (p:=⟨b,off+i,none⟩) hlt hn];exact hc i x hi⟩
def Ga (ds:List (Int × Int)) (j:Nat):Value:=.int .i64 (if j % 2=0 then (ds.getD (j / 2) (0,0)).1 else (ds.getD (j / 2) (0,0)).2)
theorem Uz (ds:List (Int × Int)) (x y:Int):OW (OW (Ga ds) (2 * ds.length) (.int .i64 x)) (2 * ds.length+1) (.int .i64 y)=Ga (ds ++ [(x,y)]):=by
 funext i
 unfold OW Ga
 by_cases h1:i=2 * ds.length+1
 ·
  subst h1
  rw [if_pos rfl,if_neg (by omega),show (2 * ds.length+1) / 2=ds.length by omega]
  simp
 ·
  rw [if_neg h1]
  by_cases h2:i=2 * ds.length
  ·
   subst h2
   rw [if_pos rfl,if_pos (by omega),show (2 * ds.length) / 2=ds.length by omega]
   simp
  ·
   rw [if_neg h2]
   rcases Nat.lt_or_ge (i / 2) ds.length with h' | h'
   · simp [List.getElem?_append_left h']
   · simp [List.getElem?_eq_none h',List.getElem?_eq_none (show (ds ++ [(x,y)]).length ≤ i / 2 by simp;omega)]
theorem QW {w:World} {g:Nat} {ds:List (Int × Int)} (h:Bj w g (2 * ds.length) (Ga ds)):AL w (some ⟨g,0,none⟩) ds:=by
 refine .inr ⟨g,0,rfl,h.lt,fun i x y hi=>?_⟩
 have hl:=Ad hi
 rw [Nat.zero_add,h.cell (i * 2) (by omega),h.cell (i * 2+1) (by omega)]
 unfold Ga
 rw [if_pos (by omega),if_neg (by omega),show i * 2 / 2=i by omega,show (i * 2+1) / 2=i by omega]
 simp [hi]
theorem TU (n:Nat) (hn:n ≤ 1000) (w':World):(Instr.makeSlice 62 (.int .i64 n) (.int .i64 n)).run Tryz.prog w'=.ok (.slice (some ⟨w'.heap.size,0,none⟩) n n) (w'.alloc (.cells (madeCells #[.int .i64 0,.int .i64 0] (n * 2)) 83)):=by
 obtain ⟨i0,hi,hz0,hz1,hz2⟩:=info_parts Tryz.infoLine
 have:=run_make (P:=Tryz.prog) w' 62 83 i0 (.agg #[.int .i64 0,.int .i64 0]) Tryz.underlying62 hi hz0 .i64 .i64 n n (by omega) (by omega) (by rw [hz2];omega) (by omega)
 simpa [hz1,Value.cells] using this
theorem Zn (n j:Nat) (h:j < n):(madeCells #[.int .i64 0,.int .i64 0] n)[j]? = some (.int .i64 0):=by
 unfold madeCells
 rcases (show j % 2=0 ∨ j % 2=1 by omega) with e | e <;> simp [h,e]
theorem UV (w:World) (n:Nat) (t:TypeId):Bj (w.alloc (.cells (madeCells #[.int .i64 0,.int .i64 0] (n * 2)) t)) w.heap.size (2 * n) (Ga []):=by
 refine ⟨fun i hi=>?_,fun i=>World.frozen?_alloc_new w _ _ i,by simp⟩
 rw [World.cell?_alloc_at _ _ _ _ rfl,Zn _ _ (by omega)]
 unfold Ga
 simp
def IQ (a0:Addr) (o:Option (List (Int × Int))) (w:World) (e:Ending) (w':World):Prop:=
 Below w.heap.size w w' ∧ ((o=none ∧ e=.returned (.tuple #[.slice none 0 0,.iface 312 (.pointer (some a0))])) ∨
  ∃ ls g,o=some ls ∧ e=.returned (.tuple #[.slice (some ⟨g,0,none⟩) ls.length ls.length,.nilIface]) ∧ w.heap.size ≤ g ∧ g < w'.heap.size ∧ AL w' (some ⟨g,0,none⟩) ls)
section
variable (a:Option Addr) (cap:Nat) (ws:List (List UInt8)) (w:World) (a0:Addr) (h0:w.cell? ⟨1,0,none⟩=some (.iface 312 (.pointer (some a0)))) (hl:Bp w a ws) (hs:DU ws)
theorem QL (a:Option Addr) (cap:Nat) (ws:List (List UInt8)) (w:World) (a0:Addr) (h0:w.cell? ⟨1,0,none⟩=some (.iface 312 (.pointer (some a0)))) (hl:Bp w a ws) (hs:DU ws) :
  Calls Tryz.prog 99 #[.slice a ws.length cap] w fun e w'=>IQ a0 (DV ws) w e w':=by
 have HC:=(show Hid (Calls Tryz.prog 103 #[.slice a ws.length cap] w fun e w'=>GX a0 (Du ws) w e w') from F4 a cap ws w a0 h0 hl hs)
 obtain ⟨n,hn⟩:∃ n,ws.length=n:=⟨_,rfl⟩
 have HN:Hid (ws.length=n):=hn
 have hn1:n ≤ 1000:=by rw [← hn];exact hs.1
 rw [hn] at HC ⊢
 have r0:(0:Int) ≤ n:=by omega
 by_cases hodd:n % 2=0
 ·
  have hm2:(n:Int) % 2=0:=by omega
  obtain ⟨h,hh⟩:∃ h,n=2 * h:=⟨n / 2,by omega⟩
  have hd2:(n:Int) / 2=h:=by omega
  have hh1:h ≤ 500:=by omega
  have hmk:=TU h (by omega)
  have HH:Hid (n=2 * h):=hh
  clear hl hs hn h0 hodd hh
  go_enter Tryz.func99,Tryz.ntmps99
  go_wp2_with fail
  refine HC.out.mono ?_
  rintro e w1 ⟨hb1,⟨ho,rfl⟩ | ⟨ns,g,ho,rfl,hg,-,hns⟩⟩
  ·
   have HE:Hid (IQ a0 (DV ws) w (.returned (.tuple #[.slice none 0 0,.iface 312 (.pointer (some a0))])) w1):=⟨hb1,.inl ⟨by unfold DV;rw [ho,if_neg (by rw [HN.out];omega)];rfl,rfl⟩⟩
   clear ho hb1
   go_wp2_with fail
   go_ret2
   exact HE.out
  ·
   have hnl:ns.length=n:=by rw [DI ho,HN.out]
   obtain ⟨r,hr⟩:∃ r,ns.length=r:=⟨_,rfl⟩
   have HNL:Hid (ns.length=2 * h):=by rw [hnl];exact HH.out
   have HR:Hid (r=2 * h):=by rw [← hr];exact HNL.out
   have HO:Hid (Du ws=some ns ∧ Below w.heap.size w w1 ∧ w.heap.size ≤ g ∧ AV w1 (some ⟨g,0,none⟩) ns):=⟨ho,hb1,hg,hns⟩
   have hb2:Below w.heap.size w (w1.alloc (.cells (madeCells #[.int .i64 0,.int .i64 0] (h * 2)) 83)):=hb1.alloc hb1.size _
   have hv2:Bj (w1.alloc (.cells (madeCells #[.int .i64 0,.int .i64 0] (h * 2)) 83)) w1.heap.size (2 * h) (Ga []):=UV w1 h 83
   have hn2:AV (w1.alloc (.cells (madeCells #[.int .i64 0,.int .i64 0] (h * 2)) 83)) (some ⟨g,0,none⟩) ns:=hns.below ((Below.refl _ _).alloc (Nat.le_refl _) _)
   obtain ⟨V,hV⟩:∃ V,w1.alloc (.cells (madeCells #[.int .i64 0,.int .i64 0] (h * 2)) 83)=V:=⟨_,rfl⟩
   obtain ⟨G,hG⟩:∃ G,w1.heap.size=G:=⟨_,rfl⟩
   rw [hV] at hb2 hv2 hn2
   have hmk1:(Instr.makeSlice 62 (.int .i64 h) (.int .i64 h)).run Tryz.prog w1=.ok (.slice (some ⟨G,0,none⟩) h h) V:=by rw [hmk w1,hV,hG]
   rw [hG] at hv2
   have hgG:0 < h → g < G:=fun hpos=>by
    rw [← hG]
    rcases hns with h' | ⟨b,off,hb,hlt,-⟩
    ·
     subst h'
     have:=HNL.out
     simp at this
     omega
    · cases hb;exact hlt
   have HV:Hid (Below w.heap.size w V ∧ Bj V G (2 * h) (Ga []) ∧ AV V (some ⟨g,0,none⟩) ns):=⟨hb2,hv2,hn2⟩
   have HG:Hid (w.heap.size ≤ G ∧ (0 < h → g < G)):=⟨by rw [← hG];exact hb1.size,hgG⟩
   rw [hr]
   clear ho hb1 hg hns hb2 hv2 hn2 hV hG hmk hgG hnl hr HC
   go_wp2_with fail
   go_loopw [27] (fun i wr=>∃ k:Nat,∃ ds:List (Int × Int),k ≤ h ∧ i=.int .i64 k ∧ ds.length=k ∧ Below w.heap.size w wr ∧ Bj wr G (2 * h) (Ga ds) ∧ AV wr (some ⟨g,0,none⟩) ns ∧ ∀ (j:Nat) x y,ds[j]? = some (x,y) → ns[2 * j]? = some x ∧ ns[2 * j+1]? = some y) (fun i _=>h - (intOf i).toNat)
   case atStart=>exact ⟨0,[],Nat.zero_le _,rfl,rfl,HV.out.1,HV.out.2.1,HV.out.2.2,fun j x y h=>by simp at h⟩
   case round=>
    obtain ⟨k,ds,hk,rfl,hds,hb,hv,hn,hd⟩:=hrel
    by_cases hkh:k < h
    ·
     obtain ⟨p,hp⟩:∃ p,2 * k=p:=⟨_,rfl⟩
     obtain ⟨q,hq⟩:∃ q,p+1=q:=⟨_,rfl⟩
     have hpz:(2:Int) * (k:Int)=(p:Int):=by omega
     have hqz:(p:Int)+1=(q:Int):=by omega
     have hpn:p < r:=by rw [HR.out];omega
     have hqn:q < r:=by rw [HR.out];omega
     obtain ⟨x,hx,-⟩:=Ai ns p (by rw [HNL.out];omega)
     obtain ⟨y,hy,-⟩:=Ai ns q (by rw [HNL.out];omega)
     have hcx:wr.cell? ⟨g,p,none⟩=some (.int .i64 x):=by
      rcases hn with h' | ⟨b,off,hb',-,hc⟩
      · rw [h'] at hx;simp at hx
      ·
       cases hb'
       have:=hc p x hx
       rwa [Nat.zero_add] at this
     have hcy:wr.cell? ⟨g,q,none⟩=some (.int .i64 y):=by
      rcases hn with h' | ⟨b,off,hb',-,hc⟩
      · rw [h'] at hx;simp at hx
      ·
       cases hb'
       have:=hc q y hy
       rwa [Nat.zero_add] at this
     have f0:=hv.frozen (k * 2)
     have f1:=hv.frozen (k * 2+1)
     have c0:=hv.cell (k * 2) (by omega)
     have c1:=hv.cell (k * 2+1) (by omega)
     have HNx:Hid (∀ V,((wr.setCell ⟨G,k * 2,none⟩ (.int .i64 x)).setCell ⟨G,k * 2+1,none⟩ (.int .i64 y))=V → Below w.heap.size w V ∧ Bj V G (2 * h) (Ga (ds ++ [(x,y)])) ∧ AV V (some ⟨g,0,none⟩) ns ∧ (ds ++ [(x,y)]).length=k+1 ∧ ∀ (j:Nat) x' y',(ds ++ [(x,y)])[j]? = some (x',y') → ns[2 * j]? = some x' ∧ ns[2 * j+1]? = some y'):=by
      intro V hV
      subst hV
      refine ⟨Dc (Dc hb HG.out.1 _) HG.out.1 _,?_,?_,by simp [hds],?_⟩
      ·
       rw [← Uz,hds,show 2 * k=k * 2 by omega]
       exact (hv.put (by omega) _).put (by omega) _
      ·
       refine Eg (S:=fun b=>b=G) hn (But.setCell (p:=⟨G,k * 2+1,none⟩) (But.setCell (p:=⟨G,k * 2,none⟩) (But.refl (fun b=>b=G) wr) rfl _) rfl _) fun ad e=>?_
       cases e
       have:=HG.out.2 (by omega)
       show ¬ g=G
       omega
      ·
       intro j x' y' hj
       rcases EG hj with ⟨-,h2⟩ | ⟨h1,h2⟩
       · exact hd j x' y' h2
       ·
        cases h2
        rw [h1,hds,hp,hq]
        exact ⟨hx,hy⟩
     clear hb hv hn hd hds hx hy hp hq
     go_wp2_with fail
     go_region
     obtain ⟨V,hV⟩:∃ V,((wr.setCell ⟨G,k * 2,none⟩ (.int .i64 x)).setCell ⟨G,k * 2+1,none⟩ (.int .i64 y))=V:=⟨_,rfl⟩
     have HF:=(show Hid _ from HNx.out V hV)
     rw [hV]
     clear hV HNx hcx hcy f0 f1 c0 c1
     go_wp2_with fail
     go_roundw
     case rel=>exact ⟨k+1,ds ++ [(x,y)],by omega,by go_num,HF.out.2.2.2.1,HF.out.1.drew,HF.out.2.1.drew,HF.out.2.2.1.below ((Below.refl _ _).drew),HF.out.2.2.2.2⟩
     case measure=>simp [intOf];omega
    ·
     obtain rfl:k=h:=by omega
     have e:ds=Jf ns:=by
      apply List.ext_getElem?
      intro i
      rcases Nat.lt_or_ge i ds.length with h' | h'
      ·
       obtain ⟨⟨x,y⟩,hi,-⟩:=Ai ds i h'
       obtain ⟨h1,h2⟩:=hd i x y hi
       rw [hi,MQ ns i x y h1 h2]
      · rw [List.getElem?_eq_none h',List.getElem?_eq_none (by rw [Gv,HNL.out];omega)]
     have HE:Hid (IQ a0 (DV ws) w (.returned (.tuple #[.slice (some ⟨G,0,none⟩) k k,.nilIface])) wr):=by
      refine ⟨hb,.inr ⟨ds,G,by unfold DV;rw [if_neg (by rw [HN.out,HH.out];omega),HO.out.1,e];rfl,by rw [hds],HG.out.1,hv.lt,QW (by rw [hds];exact hv)⟩⟩
     clear hb hv hn hd hds e
     go_wp2_with fail
     go_ret2
     exact HE.out
 ·
  have hm2:(n:Int) % 2=1:=by omega
  have HE:Hid (∀ q,IQ a0 (DV ws) w (.returned (.tuple #[.slice none 0 0,.iface 312 (.pointer (some a0))])) (w.drewN q)):=fun q=>⟨below_drewN (Below.refl _ _) q,.inl ⟨by unfold DV;rw [if_pos];rw [hn];omega,rfl⟩⟩
  clear hl hs hn HC hodd
  go_enter Tryz.func99,Tryz.ntmps99
  go_wp2_with fail
  go_quiet (fail)
  go_wp2_with fail
  go_ret2
  exact HE.out nq
end
def AtEnd (p:Int) (v:Value) (w:World) (e:Ending) (w':World):Prop:=∃ B,e=.returned (.iface 75 (.pointer (some ⟨B,0,none⟩))) ∧ w'.cell? ⟨B,0,none⟩=some (.int .i64 p) ∧ w'.cell? ⟨B,1,none⟩=some v ∧ w.heap.size ≤ B ∧ Below w.heap.size w w'
theorem NJ {p:Int} {v:Value} {w W:World} {t:TypeId} (h:Below w.heap.size w W):AtEnd p v w (.returned (.iface 75 (.pointer (some ⟨W.heap.size,0,none⟩)))) (W.alloc (.cells #[.int .i64 p,v] t)):=
 ⟨W.heap.size,rfl,by simp,by simp,h.size,h.alloc h.size _⟩
theorem OL (p:Int) (pb:Nat) (ty:TypeId) (x:Value) (w:World) (ad:Nat → Addr) (he:AP w ad) (hp1:w.cell? ⟨pb,1,none⟩=some (.iface ty x)) :
  Calls Tryz.prog 148 #[.int .i64 p,.iface 75 (.pointer (some ⟨pb,0,none⟩))] w (AtEnd p (.iface ty x) w):=by
 have HB0:Hid (Below w.heap.size w (w.alloc (.cells #[.pointer none] 75))):=(Below.refl _ _).alloc (Nat.le_refl _) _
 have HE:Hid (AP w ad):=he
 have HP1:Hid (w.cell? ⟨pb,1,none⟩=some (.iface ty x)):=hp1
 clear he hp1
 go_enter Tryz.func148,Tryz.ntmps148
 go_wp2_with fail
 refine (YF ⟨pb,0,none⟩ ⟨w.heap.size,0,none⟩ (.pointer none) _ (HE.out.below HB0.out).typ (by simp) (by simp)).mono ?_
 rintro e w1 ⟨rfl,hw1⟩
 have hb1:Below w.heap.size w w1:=by
  rw [hw1]
  exact ((((HB0.out.alloc (by simp) _).alloc (by simp;omega) _).alloc (by simp;omega) _).alloc (by simp;omega) _).setCell (Nat.le_refl _) _
 have ht1:w1.cell? ⟨w.heap.size,0,none⟩=some (.pointer (some ⟨pb,0,none⟩)):=by
  rw [hw1]
  exact Y1 w _ _ _ _ _
 have HB1:Hid (Below w.heap.size w w1):=hb1
 have hq1:w1.cell? ⟨pb,1,none⟩=some (.iface ty x):=cell_later hb1 HP1.out
 clear hw1 hb1
 go_wp2_with fail
 go_ret
 exact NJ HB1.out
theorem Qv (p:Int) (e:Addr) (w:World) (ad:Nat → Addr) (he:AP w ad) :
  Calls Tryz.prog 148 #[.int .i64 p,.iface 312 (.pointer (some e))] w (AtEnd p (.iface 312 (.pointer (some e))) w):=by
 have HB0:Hid (Below w.heap.size w (w.alloc (.cells #[.pointer none] 75))):=(Below.refl _ _).alloc (Nat.le_refl _) _
 have HE:Hid (AP w ad):=he
 clear he
 go_enter Tryz.func148,Tryz.ntmps148
 go_wp2_with fail
 refine (Z4 e ⟨w.heap.size,0,none⟩ _ (HE.out.below HB0.out).typ).mono ?_
 rintro e w1 ⟨rfl,hw1⟩
 have HB1:Hid (Below w.heap.size w w1):=by
  show Below _ _ _
  rw [hw1]
  exact ((HB0.out.alloc (by simp) _).alloc (by simp;omega) _).alloc (by simp;omega) _
 clear hw1
 go_wp2_with fail
 go_ret
 exact NJ HB1.out
theorem De (a:Option Addr) (n cap:Nat) (w:World) (b:Bool) (hb:((n:Int) == 0)=b) :
  Calls Tryz.prog 118 #[.slice a n cap] w fun e w'=>e=.returned (.bool b) ∧ w'=w:=by
 go_enter Tryz.func118,Tryz.ntmps118
 go_wp2_with fail
 go_ret
 exact ⟨rfl,rfl⟩
def Yv (ad:Nat → Addr) (c:Int) (w:World) (e:Ending) (w':World):Prop:=∃ ty v,e=.returned (.iface ty v) ∧ Below w.heap.size w w' ∧ ∃ k:Nat,k < 9 ∧ c=((k+1:Nat):Int) ∧ ∀ W (p:Int),Below w'.heap.size w' W → Calls Tryz.prog 148 #[.int .i64 p,.iface ty v] W (AtEnd p (.iface 312 (.pointer (some (ad k)))) W)
theorem Ue (a:Option Addr) (cap:Nat) (ls:List (Int × Int)) (w:World) (ad:Nat → Addr) (he:AP w ad) (hl:AL w a ls) (hcap:ls.length ≤ cap) (hm:cap ≤ maxLen) (c p:Int) (h:CW ls c p) (hc:0 < c) :
  Calls Tryz.prog 89 #[.slice a ls.length cap] w fun e w'=>Yv ad c w e w':=by
 rcases h with ⟨h1,rfl,rfl⟩ | ⟨h1,h6,j,hj,hg,hb,rfl,rfl⟩ | ⟨h,rfl,rfl⟩
 ·
  refine (Lr a ls.length cap w _ he.c2 (by omega) h1).mono ?_
  rintro e w' ⟨rfl,rfl⟩
  exact ⟨_,_,rfl,Below.refl _ _,2,by omega,rfl,fun W p hW=>Qv p (ad 2) W ad (he.below hW)⟩
 ·
  refine (Pz a cap ls w (ad 1) he.c1 hl h1 h6 j hj hg hb).mono ?_
  rintro e w' ⟨hbel,B,rfl,h7,h8,h9,h10⟩
  exact ⟨_,_,rfl,hbel,1,by omega,rfl,fun W p hW=>OL p B _ _ W ad ((he.below hbel).below hW) (cell_later hW h10)⟩
 · exact absurd hc (by omega)
theorem Ki (ca:Option Addr) (m ccap:Nat) (w:World) (ad:Nat → Addr) (he:AP w ad) (h:m ≠ 8) :
  Calls Tryz.prog 116 #[.slice ca m ccap] w fun e w'=>∃ E,e=.returned E ∧ AR w' E 3 (-1) ∧ Below w.heap.size w w':=by
 have c2:=he.c2
 have HE:Hid (AP w ad):=he
 have hz:((m:Int) == 8)=false:=by simp;omega
 have hz2:¬ (m:Int)=8:=by omega
 clear he
 go_enter Tryz.func116,Tryz.ntmps116
 go_wp2_with fail
 go_ret
 exact ⟨_,rfl,AY HE.out 2 (by omega),Below.refl _ _⟩
def XF (c p:Int) (w:World) (e:Ending) (w':World):Prop:=∃ E,e=.returned E ∧ AR w' E c p ∧ Below w.heap.size w w'
theorem IM (ca:Option Addr) (ccap:Nat) (cs:List (List (Int × Int))) (w:World) (ad:Nat → Addr) (he:AP w ad) (hl:IB w ca cs) (h8:cs.length=8) (i:Nat) (hi:i ≤ 8) (hto:Ci cs i) (c p:Int) (hbad:(i=8 ∧ c=0 ∧ p = -1) ∨ (Jd cs i c ∧ p=i)) :
  Calls Tryz.prog 116 #[.slice ca cs.length ccap] w fun e w'=>XF c p w e w':=by
 have HE:Hid (AP w ad):=he
 have HTo:Hid (Ci cs i):=hto
 have HBad:Hid ((i=8 ∧ c=0 ∧ p = -1) ∨ (Jd cs i c ∧ p=i)):=hbad
 obtain ⟨b,off,rfl,-,hcc⟩:=hl.place (by omega)
 have HC:Hid (∀ (i:Nat) ls,cs[i]? = some ls → ∃ a' cap,w.cell? ⟨b,off+i,none⟩=some (.slice a' ls.length cap) ∧ AL w a' ls ∧ ls.length ≤ cap ∧ cap ≤ maxLen ∧ (a'=none → ls=[] ∧ cap=0)):=hcc
 have H8:Hid (cs.length=8):=h8
 rw [h8]
 clear he hto hbad hl hcc h8
 go_enter Tryz.func116,Tryz.ntmps116
 go_wp2_with fail
 go_loopg [12] 8 (fun gk iv wr=>∃ k:Nat,iv=.int .i64 (k:Int) ∧ k ≤ i ∧ 8 - k ≤ gk ∧ Hid (Below w.heap.size w wr))
 case atStart=>exact ⟨0,rfl,Nat.zero_le _,by omega,Below.refl _ _⟩
 case round=>
  obtain ⟨k,rfl,hki,hgk,HB⟩:=hrel
  by_cases hk8:k < 8
  ·
   have hkz:(k:Int) < 8:=by omega
   obtain ⟨ls,hls,-⟩:=Ai cs k (by rw [H8.out];exact hk8)
   obtain ⟨a',cap,cj0,hlies,hlc,hlm,-⟩:=HC.out k ls hls
   have cj:=cell_later HB.out cj0
   have HG:Hid (cs[k]? = some ls):=hls
   obtain ⟨n,hn⟩:∃ n,ls.length=n:=⟨_,rfl⟩
   have HN:Hid (ls.length=n):=hn
   have HL:Hid (AL w a' ls ∧ ls.length ≤ cap ∧ cap ≤ maxLen):=⟨hlies,hlc,hlm⟩
   rw [hn] at cj
   clear hls cj0 hlies hlc hlm hn
   by_cases hn0:n=0
   ·
    have HEm:Hid (Calls Tryz.prog 118 #[.slice a' n cap] wr fun e w'=>e=.returned (.bool true) ∧ w'=wr):=De a' n cap wr true (by simp;exact hn0)
    have HNe:Hid (k < i):=by
     show k < i
     rcases Nat.lt_or_ge k i with h | h
     · exact h
     ·
      obtain rfl:k=i:=by omega
      rcases HBad.out with ⟨h1,-⟩ | ⟨⟨ls',p',h1,h2,-⟩,-⟩
      · omega
      ·
       rw [HG.out] at h1
       obtain rfl:=Option.some.inj h1
       exact absurd (List.length_eq_zero_iff.1 (HN.out.trans hn0)) h2
    clear hn0
    go_wp2_with fail
    refine HEm.out.mono ?_
    rintro e w1 ⟨rfl,rfl⟩
    go_wp2_with fail
    go_roundg (8 - (k+1))
    case measure=>omega
    case rel=>exact ⟨k+1,by go_num,HNe.out,Nat.le_refl _,HB⟩
   ·
    have HEm:Hid (Calls Tryz.prog 118 #[.slice a' n cap] wr fun e w'=>e=.returned (.bool false) ∧ w'=wr):=De a' n cap wr false (by simp;omega)
    by_cases hk:k < i
    ·
     have hok:Ag ls:=by
      rcases HTo.out k ls hk HG.out with h | h
      · exact absurd (by rw [← HN.out,h];rfl) hn0
      · exact h
     have HCh:Hid (Calls Tryz.prog 89 #[.slice a' n cap] wr fun e w'=>e=.returned .nilIface ∧ Below wr.heap.size wr w'):=by
      have:=EE a' cap ls wr (HL.out.1.below HB.out) hok
      rwa [HN.out] at this
     clear hok hn0
     go_wp2_with fail
     refine HEm.out.mono ?_
     rintro e w1 ⟨rfl,rfl⟩
     go_wp2_with fail
     refine HCh.out.mono ?_
     rintro e w2 ⟨rfl,hb2⟩
     have HB2:Hid (Below w.heap.size w w2):=HB.out.trans (hb2.mono HB.out.size)
     clear hb2
     go_wp2_with fail
     go_roundg (8 - (k+1))
     case measure=>omega
     case rel=>exact ⟨k+1,by go_num,hk,Nat.le_refl _,HB2⟩
    ·
     obtain rfl:k=i:=by omega
     obtain ⟨hbc,hpi⟩:Jd cs k c ∧ p=k:=by
      rcases HBad.out with ⟨h1,-⟩ | h1
      · omega
      · exact h1
     obtain ⟨ls',p',h1,-,h3,h4⟩:=hbc
     rw [HG.out] at h1
     obtain rfl:=Option.some.inj h1
     have HCh:Hid (Calls Tryz.prog 89 #[.slice a' n cap] wr fun e w'=>Yv ad c wr e w'):=by
      have:=Ue a' cap ls wr ad (HE.out.below HB.out) (HL.out.1.below HB.out) HL.out.2.1 HL.out.2.2 c p' h3 h4
      rwa [HN.out] at this
     have HP:Hid (p=(k:Int)):=hpi
     clear hpi h3 h4 h1 hn0
     go_wp2_with fail
     refine HEm.out.mono ?_
     rintro e w1 ⟨rfl,rfl⟩
     go_wp2_with fail
     refine HCh.out.mono ?_
     rintro e w2 ⟨ty,v,rfl,hb2,q,hq9,hcq,hbare⟩
     have HBa:=(show Hid (Calls Tryz.prog 148 #[.int .i64 (k:Int),.iface ty v] w2 (AtEnd (k:Int) (.iface 312 (.pointer (some (ad q)))) w2)) from hbare w2 (k:Int) (Below.refl _ _))
     have HB2:Hid (Below w.heap.size w w2):=HB.out.trans (hb2.mono HB.out.size)
     have HQ:Hid (c=((q+1:Nat):Int)):=hcq
     clear hb2 hbare hcq
     go_wp2_with fail
     refine HBa.out.mono ?_
     rintro e w3 ⟨B,rfl,h30,h31,-,hb3⟩
     have HB3:Hid (Below w.heap.size w w3):=HB2.out.trans (hb3.mono HB2.out.size)
     have H3:Hid (w3.cell? ⟨B,0,none⟩=some (.int .i64 (k:Int)) ∧ w3.cell? ⟨B,1,none⟩=some (.iface 312 (.pointer (some (ad q))))):=⟨h30,h31⟩
     clear hb3 h30 h31
     go_wp2_with fail
     go_ret
     refine ⟨_,rfl,?_,HB3.out⟩
     rw [HQ.out,HP.out]
     refine ⟨?_,fun h=>by omega,fun _=>⟨_,_,rfl⟩⟩
     have:=FN (HE.out.below HB3.out) q hq9 (k:Int) B H3.out.1 H3.out.2
     simpa using this
  ·
   have hkz:¬ (k:Int) < 8:=by omega
   obtain rfl:i=8:=by omega
   have HR:Hid (c=0 ∧ p = -1):=by
    rcases HBad.out with ⟨-,h⟩ | ⟨⟨ls',p',h1,-⟩,-⟩
    · exact h
    ·
     rw [List.getElem?_eq_none (by rw [H8.out];omega)] at h1
     cases h1
   obtain rfl:k=8:=by omega
   go_wp2_with fail
   go_ret
   refine ⟨_,rfl,?_,HB.out⟩
   rw [HR.out.1,HR.out.2]
   exact CG wr
end Go.Proofs.YtipdclphpkgceaaGreatDoor
