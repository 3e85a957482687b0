/- Own facts, put together: no statement of its own. -/
import Derived.Test.YtipdclphpkgceaaGreatDoorS39
import Derived.Test.YtipdclphpkgceaaGreatDoorS37
import Derived.Test.YtipdclphpkgceaaGreatDoorS22
set_option maxHeartbeats 4000000
set_option maxRecDepth 100000

namespace Go.Proofs.YtipdclphpkgceaaGreatDoor
open Go.RowKit
theorem sumOf_by (a1 a2:Option Addr) (cap1 cap2:Nat) (la lb:List (Int × Int)) (w:World) (h1:Lies w a1 la) (h2:Lies w a2 lb) (k1:okCurve la) (k2:okCurve lb) :
  Calls Tryz.prog 58 #[.slice a1 la.length cap1,.slice a2 lb.length cap2] w fun e w'=>∃ a cap code L,e=.returned (.tuple #[.slice a L.length cap,.int .i64 code]) ∧ SumRel la lb code L ∧ Lies w' a L ∧ L.length ≤ cap ∧ cap ≤ maxLen ∧ Below w.heap.size w w':=by
 refine (sumOf_ok a1 a2 cap1 cap2 la lb w h1 h2 k1.2.1 k2.2.1 k1.2.2 k2.2.2).mono ?_
 rintro e w' h
 obtain ⟨code,L,hr⟩:∃ code L,SumRel la lb code L:=by
  obtain ⟨-,⟨hn,-⟩ | ⟨hok,R,hk,-⟩⟩:=h
  · exact ⟨2,[],.inl ⟨hn,rfl,rfl⟩⟩
  ·
   rcases Nat.lt_or_ge 6 R.length with h6 | h6
   · exact ⟨3,[],.inr ⟨hok,R,tidyIs_of hk,.inl ⟨h6,rfl,rfl⟩⟩⟩
   · exact ⟨0,R,.inr ⟨hok,R,tidyIs_of hk,.inr ⟨h6,rfl,rfl⟩⟩⟩
 obtain ⟨v,rfl,ho,hb⟩:=sumOf_is h hr
 obtain ⟨a,n,cap,rfl⟩:∃ a n cap,v=.slice a n cap:=by
  obtain ⟨-,⟨rfl,-⟩ | ⟨g,cap,cur,rfl,-⟩⟩:=ho
  · exact ⟨_,_,_,rfl⟩
  · exact ⟨_,_,_,rfl⟩
 obtain ⟨rfl,e2,e3,e4⟩:=ho.lies
 exact ⟨a,cap,code,L,rfl,hr,e4,e2,e3,hb⟩
theorem delay_by (a:Option Addr) (cap:Nat) (L:List (Int × Int)) (per:Int) (w:World) (ad:Nat → Addr) (he:Errs9 w ad) (hl:Lies w a L) (hcap:L.length ≤ cap) (hm:cap ≤ maxLen) (hL:okCurve L) (h1:1 ≤ per) (h2:per ≤ 1000) :
  Calls Tryz.prog 35 #[.slice a L.length cap,.int .i64 per] w fun e w'=>∃ o,DelayBy per L o ∧ NumEnd o w e w':=by
 by_cases hs:leastR L * per ≤ 1000
 ·
  refine (delay_ok a cap L per w hl hcap hm ⟨hL,h1,h2⟩ hs).mono ?_
  rintro e w' ⟨d,rfl,hd,hb⟩
  exact ⟨some d,.inl ⟨d,rfl,hd,hs⟩,hb,.inr ⟨d,rfl,rfl⟩⟩
 ·
  refine (delay_none a cap L per w ad he hl hcap hm ⟨hL,h1,h2⟩ (by omega)).mono ?_
  rintro e w' ⟨rfl,hb⟩
  exact ⟨none,.inr ⟨rfl,by omega⟩,hb,.inl ⟨rfl,_,rfl,errIs_sent (he.below hb) 3 (by omega)⟩⟩
theorem busy_by (a:Option Addr) (cap:Nat) (L:List (Int × Int)) (per:Int) (w:World) (ad:Nat → Addr) (he:Errs9 w ad) (hl:Lies w a L) (hcap:L.length ≤ cap) (hm:cap ≤ maxLen) (hL:okCurve L) (h1:1 ≤ per) (h2:per ≤ 1000) :
  Calls Tryz.prog 36 #[.slice a L.length cap,.int .i64 per] w fun e w'=>∃ o,BusyBy per L o ∧ NumEnd o w e w':=by
 refine (busy_any a cap L per w ad he hl hcap hm ⟨hL,h1,h2⟩).mono ?_
 rintro e w' ⟨hb,⟨n,hn,rfl⟩ | ⟨hn,rfl⟩⟩
 · exact ⟨some (per * n),.inl ⟨n,rfl,hn⟩,hb,.inr ⟨_,rfl,rfl⟩⟩
 · exact ⟨none,.inr ⟨rfl,hn⟩,hb,.inl ⟨rfl,_,rfl,errIs_sent (he.below hb) 3 (by omega)⟩⟩
theorem Tryz.callDelay (args:Array Value) (W:World):Sem.run Tryz.prog (callFunc 35 args) W=.ok (.enter 35 args) W:=by kernel_rfl
theorem Tryz.callBusy (args:Array Value) (W:World):Sem.run Tryz.prog (callFunc 36 args) W=.ok (.enter 36 args) W:=by kernel_rfl
section
variable (ca:Option Addr) (m ccap:Nat) (kb:ByteArray) (per:Int) (na:Option Addr) (r ncap:Nat) (w:World)
theorem gateBound_gate (c p:Int) (hc:0 < c) (h:CheckTells w (.agg #[.slice ca m ccap,.string kb,.int .i64 per,.slice na r ncap]) c p) :
  Calls Tryz.prog 46 #[.agg #[.slice ca m ccap,.string kb,.int .i64 per,.slice na r ncap]] w fun e w'=>∃ E,e=.returned (.tuple #[.int .i64 0,E]) ∧ ErrIs w' E c p ∧ Below w.heap.size w w':=by
 have hb1:Below w.heap.size w (w.alloc (.cells #[.slice ca m ccap,.string kb,.int .i64 per,.slice na r ncap] 70)):=(Below.refl _ _).alloc (Nat.le_refl _) _
 have HC:=(show Hid (Calls Tryz.prog 82 #[.agg #[.slice ca m ccap,.string kb,.int .i64 per,.slice na r ncap]] (w.alloc (.cells #[.slice ca m ccap,.string kb,.int .i64 per,.slice na r ncap] 70)) fun e w'=>∃ E,e=.returned E ∧ ErrIs w' E c p ∧ Below (w.alloc (.cells #[.slice ca m ccap,.string kb,.int .i64 per,.slice na r ncap] 70)).heap.size (w.alloc (.cells #[.slice ca m ccap,.string kb,.int .i64 per,.slice na r ncap] 70)) w') from h _ hb1)
 have HB1:Hid (Below w.heap.size w (w.alloc (.cells #[.slice ca m ccap,.string kb,.int .i64 per,.slice na r ncap] 70))):=hb1
 clear h hb1
 go_enter Tryz.func46,Tryz.ntmps46
 go_wp2_with fail
 refine HC.out.mono ?_
 rintro e w1 ⟨E,rfl,h1,h2⟩
 obtain ⟨ty,v,rfl⟩:=h1.some_ (by omega)
 have H1:Hid (ErrIs w1 (.iface ty v) c p ∧ Below w.heap.size w w1):=⟨h1,HB1.out.trans (h2.mono HB1.out.size)⟩
 clear h1 h2 HC
 go_wp2_with fail
 go_ret2
 exact ⟨_,rfl,H1.out⟩
theorem gateBound_main (cs:List (List (Int × Int))) (k:Nat) (hkb:kindOf kb.toList=k) (ad:Nat → Addr) (he:Errs9 w ad) (h1:1 ≤ per) (h2:per ≤ 1000) (hco:CurvesOk (curveFl cs)) (h:CheckTells w (.agg #[.slice ca m ccap,.string kb,.int .i64 per,.slice na r ncap]) 0 (-1)) (ht:∀ W,Below w.heap.size w W → Calls Tryz.prog 83 #[.slice ca m ccap] W fun e w'=>TogetherEnd cs W e w') :
  Calls Tryz.prog 46 #[.agg #[.slice ca m ccap,.string kb,.int .i64 per,.slice na r ncap]] w fun e w'=>∃ o,BoundIs SumRel DelayBy BusyBy cs k per o ∧ NumEnd o w e w':=by
 have hb1:Below w.heap.size w (w.alloc (.cells #[.slice ca m ccap,.string kb,.int .i64 per,.slice na r ncap] 70)):=(Below.refl _ _).alloc (Nat.le_refl _) _
 have hga:=gateAt_new w (.slice ca m ccap) kb per (.slice na r ncap) 70
 have HC:=(show Hid (Calls Tryz.prog 82 #[.agg #[.slice ca m ccap,.string kb,.int .i64 per,.slice na r ncap]] (w.alloc (.cells #[.slice ca m ccap,.string kb,.int .i64 per,.slice na r ncap] 70)) fun e w'=>∃ E,e=.returned E ∧ ErrIs w' E 0 (-1) ∧ Below (w.alloc (.cells #[.slice ca m ccap,.string kb,.int .i64 per,.slice na r ncap] 70)).heap.size (w.alloc (.cells #[.slice ca m ccap,.string kb,.int .i64 per,.slice na r ncap] 70)) w') from h _ hb1)
 have HB1:Hid (Below w.heap.size w (w.alloc (.cells #[.slice ca m ccap,.string kb,.int .i64 per,.slice na r ncap] 70))):=hb1
 have HG:Hid (GateAt (w.alloc (.cells #[.slice ca m ccap,.string kb,.int .i64 per,.slice na r ncap] 70)) w.heap.size (.slice ca m ccap) kb per (.slice na r ncap)):=hga
 have HT:Hid (∀ W,Below w.heap.size w W → Calls Tryz.prog 83 #[.slice ca m ccap] W fun e w'=>TogetherEnd cs W e w'):=ht
 have HE:Hid (Errs9 w ad):=he
 have HCo:Hid (CurvesOk (curveFl cs)):=hco
 have hkt:=kindTests kb
 rw [hkb] at hkt
 have t1:=hkt.t1
 have u1:=hkt.u1
 have hcD:=Tryz.callDelay
 have hcB:=Tryz.callBusy
 clear h hb1 hga ht he hco hkt hkb
 obtain ⟨isF,hF⟩:∃ b,decide (k=1)=b:=⟨_,rfl⟩
 rw [hF] at t1 u1
 have HF:Hid (decide (k=1)=isF):=hF
 clear hF
 go_enter Tryz.func46,Tryz.ntmps46
 go_wp2_with fail
 refine HC.out.mono ?_
 rintro e w1 ⟨E,rfl,he1,hb2⟩
 obtain rfl:=he1.none_ rfl
 have HB2:Hid (Below w.heap.size w w1):=HB1.out.trans (hb2.mono HB1.out.size)
 have HG1:Hid (GateAt w1 w.heap.size (.slice ca m ccap) kb per (.slice na r ncap)):=HG.out.later hb2
 have g0:=HG1.out.c0
 clear he1 hb2 HC
 go_wp2_with fail
 refine (HT.out _ HB2.out).mono ?_
 rintro e w2 ⟨hb3,⟨a,cap,L,hall,rfl,hlL,hL1,hL2⟩ | ⟨hnone,ty,v,rfl⟩⟩
 ·
  have HB3:Hid (Below w.heap.size w w2):=HB2.out.trans (hb3.mono HB2.out.size)
  have HG2:Hid (GateAt w2 w.heap.size (.slice ca m ccap) kb per (.slice na r ncap)):=HG1.out.later hb3
  have hokL:okCurve L:=by
   obtain ⟨h0,q,-,hq8,hq,-⟩:=hall
   exact addTo_ok sumWay HCo.out h0 q L hq8 hq
  have g1:=HG2.out.c1
  have g2:=HG2.out.c2
  have HAll:Hid (CurveAll SumRel cs L):=hall
  have HDe:=(show Hid (Calls Tryz.prog 35 #[.slice a L.length cap,.int .i64 per] w2 fun e w'=>∃ o,DelayBy per L o ∧ NumEnd o w2 e w') from delay_by a cap L per w2 ad (HE.out.below HB3.out) hlL hL1 hL2 hokL h1 h2)
  have HBu:=(show Hid (Calls Tryz.prog 36 #[.slice a L.length cap,.int .i64 per] w2 fun e w'=>∃ o,BusyBy per L o ∧ NumEnd o w2 e w') from busy_by a cap L per w2 ad (HE.out.below HB3.out) hlL hL1 hL2 hokL h1 h2)
  obtain ⟨n,hn⟩:∃ n,L.length=n:=⟨_,rfl⟩
  rw [hn] at HDe HBu ⊢
  have HEndE:Hid (∀ o w3,BoundIs SumRel DelayBy BusyBy cs k per o → Below w2.heap.size w2 w3 → o=none → ∃ ad3,w3.cell? ⟨3,0,none⟩=some (.iface 312 (.pointer (some ad3))) ∧ ∀ q,∃ o,BoundIs SumRel DelayBy BusyBy cs k per o ∧ NumEnd o w (.returned (.tuple #[.int .i64 0,.iface 312 (.pointer (some ad3))])) (w3.drewN q)):=fun o w3 ho hb hn=>by
   have hb':=HB3.out.trans (hb.mono HB3.out.size)
   refine ⟨ad 3,(HE.out.below hb').c3,fun q=>⟨none,by rw [hn] at ho;exact ho,below_drewN hb' q,.inl ⟨rfl,_,rfl,errIs_sent (HE.out.below (below_drewN hb' q)) 3 (by omega)⟩⟩⟩
  have HEndN:Hid (∀ d w3,BoundIs SumRel DelayBy BusyBy cs k per (some d) → Below w2.heap.size w2 w3 → ∃ o,BoundIs SumRel DelayBy BusyBy cs k per o ∧ NumEnd o w (.returned (.tuple #[.int .i64 d,.nilIface])) w3):=fun d w3 ho hb=>⟨some d,ho,HB3.out.trans (hb.mono HB3.out.size),.inr ⟨d,rfl,rfl⟩⟩
  clear hb3 hall hlL hL1 hL2 hokL hn
  cases isF with
  | true=>
   have hk1:k=1:=by have:=HF.out;simpa using this
   have HBd:Hid (∀ o,DelayBy per L o → BoundIs SumRel DelayBy BusyBy cs k per o):=fun o ho=>.inr ⟨L,HAll.out,.inl ⟨hk1,ho⟩⟩
   clear hk1 HBu
   go_wp2_with fail
   refine HDe.out.mono ?_
   rintro e w3 ⟨o,ho,hb4,⟨hon,E,rfl,hE⟩ | ⟨d,hod,rfl⟩⟩
   ·
    obtain ⟨ty,v,rfl⟩:=hE.some_ (by decide)
    obtain ⟨ad3,c3,hend⟩:=HEndE.out o w3 (HBd.out o ho) hb4 hon
    have HEd:Hid (∀ q,∃ o,BoundIs SumRel DelayBy BusyBy cs k per o ∧ NumEnd o w (.returned (.tuple #[.int .i64 0,.iface 312 (.pointer (some ad3))])) (w3.drewN q)):=hend
    clear ho hb4 hon hE hend HDe
    go_wp2_with fail
    go_quiet (fail)
    go_wp2_with fail
    go_ret2
    exact HEd.out nq
   ·
    rw [hod] at ho
    have HEd:Hid (∃ o,BoundIs SumRel DelayBy BusyBy cs k per o ∧ NumEnd o w (.returned (.tuple #[.int .i64 d,.nilIface])) w3):=HEndN.out d w3 (HBd.out _ ho) hb4
    clear ho hb4 hod HDe
    go_wp2_with fail
    go_ret2
    exact HEd.out
  | false=>
   have hk1:k ≠ 1:=by have:=HF.out;simpa using this
   have HBd:Hid (∀ o,BusyBy per L o → BoundIs SumRel DelayBy BusyBy cs k per o):=fun o ho=>.inr ⟨L,HAll.out,.inr ⟨hk1,ho⟩⟩
   clear hk1 HDe
   go_wp2_with fail
   refine HBu.out.mono ?_
   rintro e w3 ⟨o,ho,hb4,⟨hon,E,rfl,hE⟩ | ⟨d,hod,rfl⟩⟩
   ·
    obtain ⟨ty,v,rfl⟩:=hE.some_ (by decide)
    obtain ⟨ad3,c3,hend⟩:=HEndE.out o w3 (HBd.out o ho) hb4 hon
    have HEd:Hid (∀ q,∃ o,BoundIs SumRel DelayBy BusyBy cs k per o ∧ NumEnd o w (.returned (.tuple #[.int .i64 0,.iface 312 (.pointer (some ad3))])) (w3.drewN q)):=hend
    clear ho hb4 hon hE hend HBu
    go_wp2_with fail
    go_quiet (fail)
    go_wp2_with fail
    go_ret2
    exact HEd.out nq
   ·
    rw [hod] at ho
    have HEd:Hid (∃ o,BoundIs SumRel DelayBy BusyBy cs k per o ∧ NumEnd o w (.returned (.tuple #[.int .i64 d,.nilIface])) w3):=HEndN.out d w3 (HBd.out _ ho) hb4
    clear ho hb4 hod HBu
    go_wp2_with fail
    go_ret2
    exact HEd.out
 ·
  have HB3:Hid (Below w.heap.size w w2):=HB2.out.trans (hb3.mono HB2.out.size)
  have c3:=(HE.out.below HB3.out).c3
  have HEd:Hid (∀ q,∃ o,BoundIs SumRel DelayBy BusyBy cs k per o ∧ NumEnd o w (.returned (.tuple #[.int .i64 0,.iface 312 (.pointer (some (ad 3)))])) (w2.drewN q)):=fun q=>⟨none,.inl ⟨hnone,rfl⟩,below_drewN HB3.out q,.inl ⟨rfl,_,rfl,errIs_sent (HE.out.below (below_drewN HB3.out q)) 3 (by omega)⟩⟩
  clear hb3 hnone
  go_wp2_with fail
  go_quiet (fail)
  go_wp2_with fail
  go_ret2
  exact HEd.out nq
end
theorem boundWalks:BoundWalks SumRel DelayBy BusyBy where
 way:=sumWay
 sumOf:=sumOf_by
 delay1:=delay_one_by
 busy1:=busy_one_by
 delay:=delay_by
 busy:=busy_by
 bad:=fun ca ccap cs kb per na ncap ns w ad c p he hg h hc=>gateBound_gate ca _ ccap kb per na _ ncap w c p hc fun W hW=>gateCheck_is ca ccap cs kb per na ncap ns W ad c p (he.below hW) (hg.below hW) h
 good:=fun ca ccap cs kb per na ncap ns w ad he hg hok=>by
  refine gateBound_main ca _ ccap kb per na _ ncap w cs _ rfl ad he hok.per.1 hok.per.2 (fun f hf=>?_) (fun W hW=>gateCheck_is ca ccap cs kb per na ncap ns W ad 0 (-1) (he.below hW) (hg.below hW) ?_) (fun W hW=>together_any ca ccap cs W ad (he.below hW) (hg.curves.below hW) hok.len hg.cfit hok.curves)
  ·
   obtain ⟨ls,hls,-⟩:=get_some cs f (by rw [hok.len];exact hf)
   rw [curveFl_get hls]
   exact hok.curves f ls hf hls
  · exact .inr (.inr ⟨hok.len,hok.curves,rfl,.inr ⟨hok.kind.1,hok.kind.2,.inr ⟨hok.per.1,hok.per.2,0,hok.nums,rfl⟩⟩⟩)
def TellEnd (c n:Int) (w:World) (e:Ending) (w':World):Prop:=∃ z E p,e=.returned (.tuple #[.int .i64 z,E]) ∧ ErrIs w' E c p ∧ (c=0 → z=n) ∧ Below w.heap.size w w'
def SentEnd (c:Int) (l:List Sn) (w:World) (e:Ending) (w':World):Prop:=
 ∃ la n lcap E p,e=.returned (.tuple #[.slice la n lcap,E]) ∧ ErrIs w' E c p ∧ (c=0 → n=l.length ∧ SntLie w' la lcap l) ∧ Below w.heap.size w w'
theorem curveFl_at {s:Scr} {f:Nat} {ls:List (Int × Int)} (h:s.cs[f]? = some ls):curveFl s.cs f=ls:=curveFl_get h
section
variable (w0:World) (ad:Nat → Addr) (N g cb:Nat) (hS:Site w0 ad N g cb) (s:Scr) (w:World) (hw:Below w0.heap.size w0 w) (hp:PlayAt w N g cb s) (ho:ScrOk s)
theorem playAt_is (w0:World) (ad:Nat → Addr) (N g cb:Nat) (hS:Site w0 ad N g cb) (s:Scr) (w:World) (hw:Below w0.heap.size w0 w) (hp:PlayAt w N g cb s) (ho:ScrOk s) (wb:Nat) (ws:List (List UInt8)) (hl:LiesW w (some ⟨wb,0,none⟩) ws) (hs:ShortW ws) (c n:Int) (hc:AtTo s ws c n) :
  Calls Tryz.prog 77 #[.pointer (some ⟨g,0,none⟩),.slice (some ⟨wb,0,none⟩) ws.length ws.length] w fun e w'=>TellEnd c n w e w':=by
 have he:=hS.env.below hw
 have HEt:Hid (∀ W,Below w.heap.size w W → c=1 → TellEnd c n w (.returned (.tuple #[.int .i64 0,.iface 312 (.pointer (some (ad 0)))])) W):=fun W hW h1=>by
  subst h1
  exact ⟨0,_,-1,rfl,errIs_sent (he.below hW).errs 0 (by decide),(fun h=>by cases h),hW⟩
 have c0:=he.errs.c0
 have HS:Hid (PlayAt w N g cb s ∧ ScrOk s ∧ Env w ad):=⟨hp,ho,he⟩
 by_cases h2:ws.length=2
 ·
  obtain ⟨x,y,rfl⟩:∃ x y,ws=[x,y]:=by
   match ws,h2 with
   | [x,y],_=>exact ⟨x,y,rfl⟩
  obtain ⟨x0,x1⟩:w.cell? ⟨wb,0,none⟩=some (strW x) ∧ w.cell? ⟨wb,1,none⟩=some (strW y):=by
   obtain ⟨b,off,e,hlt,hc⟩:=hl.place (by simp)
   cases e
   exact ⟨hc 0 x rfl,hc 1 y rfl⟩
  have HRf:Hid (Calls Tryz.prog 98 #[strW x] w fun e w'=>ReadEnd (ad 0) (flowW x) w e w'):=readFlow_is ⟨x.toArray⟩ w (ad 0) he.errs.c0 (by have:=hs.2 x (by simp);show x.toArray.size ≤ _;simp;omega)
  have HRn:Hid (∀ W,Below w.heap.size w W → Calls Tryz.prog 100 #[strW y] W fun e w'=>ReadEnd (ad 0) (numW y) W e w'):=fun W hW=>readNumber_is ⟨y.toArray⟩ W (ad 0) (he.below hW).errs.c0 (by have:=hs.2 y (by simp);show y.toArray.size ≤ _;simp;omega)
  have HC:Hid (AtTo s [x,y] c n):=hc
  clear hl hs hc h2 hS hw hp ho he
  go_enter Tryz.func77,Tryz.ntmps77
  go_wp2_with fail
  refine HRf.out.mono ?_
  rintro e w1 ⟨hb1,⟨hf,rfl⟩ | ⟨f,hf,rfl⟩⟩
  ·
   have HE:Hid (TellEnd c n w (.returned (.tuple #[.int .i64 0,.iface 312 (.pointer (some (ad 0)))])) w1):=by
    refine HEt.out w1 hb1 ?_
    obtain ⟨h,-⟩ | ⟨x',y',e,⟨-,h⟩ | ⟨f,h,-⟩⟩:=HC.out
    · exact absurd rfl h
    · exact h
    ·
     cases e
     rw [hf] at h;cases h
   clear hf hb1
   go_wp2_with fail
   go_ret2
   exact HE.out
  ·
   have hf8:0 ≤ f ∧ f < 8:=by
    unfold flowW at hf
    obtain ⟨z,-,hz⟩:=Option.bind_eq_some_iff.1 hf
    split at hz
    · rename_i h8;cases hz;exact h8
    · cases hz
   have HB1:Hid (Below w.heap.size w w1 ∧ flowW x=some f):=⟨hb1,hf⟩
   have z1:=cell_later hb1 x1
   clear hf hb1 c0 x0 x1
   go_wp2_with fail
   refine (HRn.out w1 HB1.out.1).mono ?_
   rintro e w2 ⟨hb2,⟨hn,rfl⟩ | ⟨t,hn,rfl⟩⟩
   ·
    have HE:Hid (TellEnd c n w (.returned (.tuple #[.int .i64 0,.iface 312 (.pointer (some (ad 0)))])) w2):=by
     refine HEt.out w2 (HB1.out.1.trans (hb2.mono HB1.out.1.size)) ?_
     obtain ⟨h,-⟩ | ⟨x',y',e,⟨h,-⟩ | ⟨f',h,⟨-,h1⟩ | ⟨t,p,h1,-⟩⟩⟩:=HC.out
     · exact absurd rfl h
     ·
      cases e
      rw [HB1.out.2] at h;cases h
     · exact h1
     ·
      cases e
      rw [hn] at h1;cases h1
    clear hn hb2
    go_wp2_with fail
    go_ret2
    exact HE.out
   ·
    have hb:=HB1.out.1.trans (hb2.mono HB1.out.1.size)
    obtain ⟨p,hfl,hcn⟩:∃ p,FaultIs (curveFl s.cs f.toNat) c p ∧ (c=0 → n=curveAt t (curveFl s.cs f.toNat)):=by
     obtain ⟨h,-⟩ | ⟨x',y',e,⟨h,-⟩ | ⟨f',h,⟨h1,-⟩ | ⟨t',p,h1,h2,h3⟩⟩⟩:=HC.out
     · exact absurd rfl h
     ·
      cases e
      rw [HB1.out.2] at h;cases h
     ·
      cases e
      rw [hn] at h1;cases h1
     ·
      cases e
      rw [HB1.out.2] at h
      obtain rfl:=Option.some.inj h
      rw [hn] at h1
      obtain rfl:=Option.some.inj h1
      exact ⟨p,h2,h3⟩
    have ht:=numW_range hn
    obtain ⟨fn,rfl⟩:∃ fn:Nat,f=fn:=⟨f.toNat,by omega⟩
    have hfn:fn < 8:=by omega
    obtain ⟨na,nc,pv,hpi⟩:=HS.out.1
    have hp2:=hpi.below hb
    obtain ⟨ls,hls,-⟩:=get_some s.cs fn (by rw [HS.out.2.1.gate.len];exact hfn)
    obtain ⟨a,cap,hcv⟩:=hp2.curves fn ls hls
    rw [Int.toNat_natCast,curveFl_at hls] at hfl hcn
    have HAt:Hid (Calls Tryz.prog 106 #[.slice a ls.length cap,.int .i64 t] w2 fun e w'=>TellEnd c n w e w'):=by
     by_cases h0:c=0
     ·
      subst h0
      refine (at_ok a cap ls t w2 hcv.lies hfl.ok.1 hcv.le hcv.max ht.1 (by omega)).mono ?_
      rintro e w' ⟨rfl,hb3⟩
      exact ⟨_,_,-1,rfl,errIs_nil _,fun _=>(hcn rfl).symm,hb.trans (hb3.mono hb.size)⟩
     ·
      refine (at_fault a cap ls t w2 ad (HS.out.2.2.below hb).errs hcv.lies hcv.le hcv.max c p hfl h0).mono ?_
      rintro e w' ⟨ty,v,rfl,hE,hb3⟩
      exact ⟨0,_,p,rfl,hE,fun h=>absurd h h0,hb.trans (hb3.mono hb.size)⟩
    have y0:=hp2.c0
    have y1:=hcv.cell
    obtain ⟨m,hm⟩:∃ m,ls.length=m:=⟨_,rfl⟩
    rw [hm] at y1 HAt
    clear hn hb2 hb hfl hcn hpi hp2 hcv hls hm z1 HB1 HRn HRf hf8
    go_wp2_with fail
    refine HAt.out.mono ?_
    rintro e w3 ⟨z,E,q,rfl,hE⟩
    have HE:Hid (TellEnd c n w (.returned (.tuple #[.int .i64 z,E])) w3):=⟨z,E,q,rfl,hE⟩
    clear hE
    go_wp2_with fail
    go_ret2
    exact HE.out
 ·
  have h2':((ws.length:Int) == 2)=false:=by simp;omega
  have HE:Hid (∀ q,TellEnd c n w (.returned (.tuple #[.int .i64 0,.iface 312 (.pointer (some (ad 0)))])) (w.drewN q)):=fun q=>by
   refine HEt.out _ (below_drewN (Below.refl _ _) q) ?_
   obtain ⟨-,h⟩ | ⟨x,y,h,-⟩:=hc
   · exact h
   · rw [h] at h2;exact absurd rfl h2
  obtain ⟨m,hm⟩:∃ m,ws.length=m:=⟨_,rfl⟩
  rw [hm] at h2' ⊢
  clear h2 hl hs hc hm hS hw hp ho he
  go_enter Tryz.func77,Tryz.ntmps77
  go_wp2_with fail
  go_quiet (fail)
  go_wp2_with fail
  go_ret2
  exact HE.out nq
theorem runIs_ok {cs:List (List (Int × Int))} {k:Nat} {per:Int} {ns:List Int} {ps:List Pk} {p:Int} (h:RunIs cs k per ns ps 0 p):GateOk cs k per ns ∧ OkPks ps ∧ ∀ i,¬ NeverAt (curveFl cs) ps i:=by
 rcases h with ⟨-,h⟩ | ⟨-,-,h⟩ | ⟨-,-,i,-,-,h,-⟩ | ⟨h1,h2,h3,-,-⟩
 · omega
 · omega
 · omega
 · exact ⟨h1,h2,h3⟩
theorem runIs_pos {cs:List (List (Int × Int))} {k:Nat} {per:Int} {ns:List Int} {ps:List Pk} {c p:Int} (h:RunIs cs k per ns ps c p) (hc:c ≠ 0):0 < c:=by
 rcases h with ⟨-,h⟩ | ⟨-,-,h⟩ | ⟨-,-,i,-,-,h,-⟩ | ⟨-,-,-,h,-⟩ <;> omega
def RunsEnd (c:Int) (qs:List Pk) (l:List Sn) (w:World) (e:Ending) (w':World):Prop:=
 ∃ qa qn qcap la n lcap E p,e=.returned (.tuple #[.slice qa qn qcap,.slice la n lcap,E]) ∧ ErrIs w' E c p ∧ (c=0 → qn=qs.length ∧ n=l.length ∧ PksLie w' qa qcap qs ∧ SntLie w' la lcap l) ∧ Below w.heap.size w w'
theorem gateRun_any (w0:World) (ad:Nat → Addr) (N g cb:Nat) (hS:Site w0 ad N g cb) (s:Scr) (w:World) (hw:Below w0.heap.size w0 w) (ho:ScrOk s) (na:Option Addr) (ncap:Nat) (pv:Value) (hpi:PlayIn w N g cb na ncap pv s) (c p:Int) (qs:List Pk) (l:List Sn) (hr:RunIs s.cs (kindOf s.kb) s.per s.ns s.ps c p) (hq:c=0 → GateRun (curveFl s.cs) (kindOf s.kb) s.per s.ns s.ps qs l) :
  Calls Tryz.prog 81 #[.agg #[.slice (some ⟨cb,0,none⟩) 8 8,strW s.kb,.int .i64 s.per,.slice na s.ns.length ncap],pv] w fun e w'=>RunsEnd c qs l w e w':=by
 have he:=hS.env.below hw
 have hg:=hpi.gate ho.gate.len (slim_of ho (ns:=s.ns) (by rcases ho.gate.nums.len with h | h;rw [h.2];decide;omega))
 obtain ⟨pa,pcap,rfl,hpl⟩:=OwnP.value hpi.pks
 by_cases h0:c=0
 ·
  subst h0
  obtain ⟨k1,k2,k3⟩:=runIs_ok hr
  have:=gateWalks.good (some ⟨cb,0,none⟩) 8 s.cs ⟨s.kb.toArray⟩ s.per na ncap s.ns pa pcap s.ps w ad he.errs hg hpl (by rw [ByteArray.toList_mk];exact k1) k2 k3
  rw [ho.gate.len] at this
  refine this.mono ?_
  rintro e w' ⟨qa,qcap,la,lcap,qs',l',rfl,q1,q2,q3,q4⟩
  rw [ByteArray.toList_mk] at q3
  obtain ⟨rfl,rfl⟩:=q3.same k2 (hq rfl)
  exact ⟨qa,_,qcap,la,_,lcap,_,-1,rfl,errIs_nil _,fun _=>⟨rfl,rfl,q1,q2⟩,q4⟩
 ·
  have:=gateWalks.bad (some ⟨cb,0,none⟩) 8 s.cs ⟨s.kb.toArray⟩ s.per na ncap s.ns pa pcap s.ps w ad c p he.errs hg hpl (by rw [ByteArray.toList_mk];exact hr) (runIs_pos hr h0)
  rw [ho.gate.len] at this
  refine this.mono ?_
  rintro e w' ⟨qa,qcap,la,lcap,E,rfl,q1,q2⟩
  exact ⟨qa,0,qcap,la,0,lcap,E,p,rfl,q1,fun h=>absurd h h0,q2⟩
theorem playRun_is (w0:World) (ad:Nat → Addr) (N g cb:Nat) (hS:Site w0 ad N g cb) (s:Scr) (w:World) (hw:Below w0.heap.size w0 w) (hp:PlayAt w N g cb s) (ho:ScrOk s) (c:Int) (l:List Sn) (hc:RunTo s c l) :
  Calls Tryz.prog 44 #[.pointer (some ⟨g,0,none⟩)] w fun e w'=>SentEnd c l w e w':=by
 obtain ⟨p,hr,hq⟩:=hc
 obtain ⟨qs,hqs⟩:∃ qs,c=0 → GateRun (curveFl s.cs) (kindOf s.kb) s.per s.ns s.ps qs l:=by
  by_cases h0:c=0
  ·
   obtain ⟨qs,h⟩:=hq h0
   exact ⟨qs,fun _=>h⟩
  · exact ⟨[],fun h=>absurd h h0⟩
 obtain ⟨na,nc,pv,hpi⟩:=hp
 have HR:Hid (∀ W,Below w.heap.size w W → Calls Tryz.prog 81 #[.agg #[.slice (some ⟨cb,0,none⟩) 8 8,strW s.kb,.int .i64 s.per,.slice na s.ns.length nc],pv] W fun e w'=>RunsEnd c qs l W e w'):=fun W hW=>gateRun_any w0 ad N g cb hS s W (hw.trans (hW.mono hw.size)) ho na nc pv (hpi.below hW) c p qs l hr hqs
 have y0:=hpi.c0
 have y1:=hpi.c1
 have y2:=hpi.c2
 have y3:=hpi.c3
 have y4:=hpi.c4
 have HSb:Hid (∀ W,Below w.heap.size w W → W.cell? ⟨g,0,none⟩=some (.slice (some ⟨cb,0,none⟩) 8 8) ∧ W.cell? ⟨g,1,none⟩=some (strW s.kb) ∧ W.cell? ⟨g,2,none⟩=some (.int .i64 s.per) ∧ W.cell? ⟨g,3,none⟩=some (.slice na s.ns.length nc) ∧ W.cell? ⟨g,4,none⟩=some pv):=fun W hW=>⟨cell_later hW y0,cell_later hW y1,cell_later hW y2,cell_later hW y3,cell_later hW y4⟩
 obtain ⟨kb,hkb⟩:∃ kb,s.kb=kb:=⟨_,rfl⟩
 obtain ⟨per,hper⟩:∃ per,s.per=per:=⟨_,rfl⟩
 obtain ⟨r,hr'⟩:∃ r,s.ns.length=r:=⟨_,rfl⟩
 rw [hkb] at HSb HR
 rw [hper] at HSb HR
 rw [hr'] at HSb HR
 have HB:Hid (Below w.heap.size w w.drew):=below_drewN (Below.refl _ _) 1
 have hS:=HSb.out _ HB.out
 clear hr hq hqs hpi y0 y1 y2 y3 y4 hkb hper hr' hw ho
 go_enter Tryz.func44,Tryz.ntmps44
 go_wp2_with fail
 go_region_held3 (fun w'=>w'.cell? ⟨g,0,none⟩=some (.slice (some ⟨cb,0,none⟩) 8 8) ∧ w'.cell? ⟨g,1,none⟩=some (strW kb) ∧ w'.cell? ⟨g,2,none⟩=some (.int .i64 per) ∧ w'.cell? ⟨g,3,none⟩=some (.slice na r nc) ∧ w'.cell? ⟨g,4,none⟩=some pv)
  (first | exact hS)
  (first
  | (go_at_call 81;refine (HR.out _ HB.out).mono ?_;rintro e w6 ⟨qa,qn,qcap,la,n,lcap,E,q,rfl,q1,q2,q3⟩;have HE:Hid (SentEnd c l w (.returned (.tuple #[.slice la n lcap,E])) w6):=⟨la,n,lcap,E,q,rfl,q1,(fun h=>⟨(q2 h).2.1,(q2 h).2.2.2⟩),HB.out.trans (q3.mono HB.out.size)⟩;have hS:=HSb.out w6 (HB.out.trans (q3.mono HB.out.size));clear q1 q2 q3))
 all_goals
  clear hS HSb HR HB
  go_wp2_with fail
  go_ret2
  exact HE.out
end
theorem lateOf_length (qs:List Pk) (l:List Sn):(lateOf qs l).length=l.length:=by simp [lateOf]
theorem worst_max (qs:List Pk) (l:List Sn) (h:1 ≤ l.length):Go.Lib.maxOf (lateOf qs l)=worstOf qs l:=by
 unfold worstOf
 cases e:lateOf qs l with
 | nil=>have:=lateOf_length qs l;rw [e] at this;simp at this;omega
 | cons z zs=>show List.foldl max (max z z) zs=List.foldl max z zs;rw [Int.max_self]
section
variable (w0:World) (ad:Nat → Addr) (N g cb:Nat) (hS:Site w0 ad N g cb) (s:Scr) (w:World) (hw:Below w0.heap.size w0 w) (hp:PlayAt w N g cb s) (ho:ScrOk s)
theorem playWorst_is (w0:World) (ad:Nat → Addr) (N g cb:Nat) (hS:Site w0 ad N g cb) (s:Scr) (w:World) (hw:Below w0.heap.size w0 w) (hp:PlayAt w N g cb s) (ho:ScrOk s) (c n:Int) (hc:WorstTo s c n) :
  Calls Tryz.prog 47 #[.pointer (some ⟨g,0,none⟩)] w fun e w'=>TellEnd c n w e w':=by
 obtain ⟨p,hr,hq⟩:=hc
 obtain ⟨qs,l,hqs,hn⟩:∃ qs l,(c=0 → GateRun (curveFl s.cs) (kindOf s.kb) s.per s.ns s.ps qs l) ∧ (c=0 → n=worstOf qs l):=by
  by_cases h0:c=0
  ·
   obtain ⟨qs,l,h,h'⟩:=hq h0
   exact ⟨qs,l,fun _=>h,fun _=>h'⟩
  · exact ⟨[],[],fun h=>absurd h h0,fun h=>absurd h h0⟩
 obtain ⟨na,nc,pv,hpi⟩:=hp
 have HR:Hid (∀ W,Below w.heap.size w W → Calls Tryz.prog 81 #[.agg #[.slice (some ⟨cb,0,none⟩) 8 8,strW s.kb,.int .i64 s.per,.slice na s.ns.length nc],pv] W fun e w'=>RunsEnd c qs l W e w'):=fun W hW=>gateRun_any w0 ad N g cb hS s W (hw.trans (hW.mono hw.size)) ho na nc pv (hpi.below hW) c p qs l hr hqs
 have HD:Hid (c=0 → ∀ W qa qcap la lcap,Below w.heap.size w W → PksLie W qa qcap qs → SntLie W la lcap l → l.length ≤ 300 ∧ Calls Tryz.prog 84 #[.slice qa qs.length qcap,.slice la l.length lcap] W fun e w'=>∃ D,e=.returned (.tuple #[.slice (some ⟨D,0,none⟩) l.length l.length,.nilIface]) ∧ (∀ (i:Nat) z,(lateOf qs l)[i]? = some z → w'.cell? ⟨D,i,none⟩=some (.int .i64 z)) ∧ Below W.heap.size W w'):=fun h0 W qa qcap la lcap hW h1 h2=>by
  obtain ⟨k1,k2,k3⟩:=(hqs h0).ok ho.pks ho.gate.curves.ok
  obtain ⟨m1,-,m3⟩:=k3.may ho.gate.nums k1 ho.gate.per.1
  refine ⟨by rw [m3,k2];exact ho.pks.few,(keepDelays qa qcap qs s.per la lcap l W ad (hS.env.below (hw.trans (hW.mono hw.size))).errs h1.pks h2.sent k1 ho.gate.per.1 ho.gate.per.2 m1 m3).mono ?_⟩
  rintro e w' ⟨D,rfl,hD,hb⟩
  refine ⟨D,rfl,fun i z hz=>?_,hb⟩
  unfold lateOf at hz
  rw [List.getElem?_map] at hz
  obtain ⟨x,hx,rfl⟩:=Option.map_eq_some_iff.1 hz
  exact hD i x hx
 have y0:=hpi.c0
 have y1:=hpi.c1
 have y2:=hpi.c2
 have y3:=hpi.c3
 have y4:=hpi.c4
 have HSb:Hid (∀ W,Below w.heap.size w W → W.cell? ⟨g,0,none⟩=some (.slice (some ⟨cb,0,none⟩) 8 8) ∧ W.cell? ⟨g,1,none⟩=some (strW s.kb) ∧ W.cell? ⟨g,2,none⟩=some (.int .i64 s.per) ∧ W.cell? ⟨g,3,none⟩=some (.slice na s.ns.length nc) ∧ W.cell? ⟨g,4,none⟩=some pv):=fun W hW=>⟨cell_later hW y0,cell_later hW y1,cell_later hW y2,cell_later hW y3,cell_later hW y4⟩
 have HN:Hid (c=0 → n=worstOf qs l):=hn
 obtain ⟨kb,hkb⟩:∃ kb,s.kb=kb:=⟨_,rfl⟩
 obtain ⟨per,hper⟩:∃ per,s.per=per:=⟨_,rfl⟩
 obtain ⟨r,hr'⟩:∃ r,s.ns.length=r:=⟨_,rfl⟩
 rw [hkb] at HSb HR
 rw [hper] at HSb HR
 rw [hr'] at HSb HR
 have HB:Hid (Below w.heap.size w w.drew):=below_drewN (Below.refl _ _) 1
 have hS:=HSb.out _ HB.out
 clear hr hq hqs hn hpi y0 y1 y2 y3 y4 hkb hper hr' hw ho
 go_enter Tryz.func47,Tryz.ntmps47
 go_wp2_with fail
 go_region_held3 (fun w'=>w'.cell? ⟨g,0,none⟩=some (.slice (some ⟨cb,0,none⟩) 8 8) ∧ w'.cell? ⟨g,1,none⟩=some (strW kb) ∧ w'.cell? ⟨g,2,none⟩=some (.int .i64 per) ∧ w'.cell? ⟨g,3,none⟩=some (.slice na r nc) ∧ w'.cell? ⟨g,4,none⟩=some pv)
  (first | exact hS)
  (first
  | (go_at_call 81;refine (HR.out _ HB.out).mono ?_;rintro e w6 ⟨qa,qn,qcap,la,m,lcap,E,q,rfl,q1,q2,q3⟩;have HE:Hid (ErrIs w6 E c q ∧ (c=0 → qn=qs.length ∧ m=l.length ∧ PksLie w6 qa qcap qs ∧ SntLie w6 la lcap l) ∧ Below w.heap.size w w6):=⟨q1,q2,HB.out.trans (q3.mono HB.out.size)⟩;have hS:=HSb.out w6 (HB.out.trans (q3.mono HB.out.size));clear q1 q2 q3))
 all_goals
  clear hS HSb HR HB
  by_cases h0:c=0
  ·
   obtain rfl:=HE.out.1.none_ h0
   obtain ⟨e1,e2,e3,e4⟩:=HE.out.2.1 h0
   rcases Nat.eq_zero_or_pos m with hm | hm
   ·
    have HEn:Hid (TellEnd c n w (.returned (.tuple #[.int .i64 0,.nilIface])) w6):=by
     refine ⟨0,.nilIface,q,rfl,HE.out.1,fun h=>?_,HE.out.2.2⟩
     rw [HN.out h,List.length_eq_zero_iff.1 (e2.symm.trans hm)]
     rfl
    subst hm
    clear e1 e2 e3 e4 h0
    go_wp2_with fail
    go_ret2
    exact HEn.out
   ·
    obtain ⟨hlen,hcall⟩:=HD.out h0 w6 qa qcap la lcap HE.out.2.2 e3 e4
    rw [← e1,← e2] at hcall
    have HCl:Hid (Calls Tryz.prog 84 #[.slice qa qn qcap,.slice la m lcap] w6 fun e w'=>∃ D,e=.returned (.tuple #[.slice (some ⟨D,0,none⟩) m m,.nilIface]) ∧ (∀ (i:Nat) z,(lateOf qs l)[i]? = some z → w'.cell? ⟨D,i,none⟩=some (.int .i64 z)) ∧ Below w6.heap.size w6 w'):=hcall
    have HM:Hid (∀ W D,(∀ (i:Nat) z,(lateOf qs l)[i]? = some z → W.cell? ⟨D,i,none⟩=some (.int .i64 z)) → Below w.heap.size w W → Calls Tryz.prog 85 #[.slice (some ⟨D,0,none⟩) m m] W fun e w'=>e=.returned (.int .i64 n) ∧ w'=W):=fun W D hc hW=>by
     have hl:(lateOf qs l).length=m:=by rw [lateOf_length,e2]
     have:=max_is D (lateOf qs l) W (by omega) (by omega) hc
     rw [hl,worst_max qs l (by omega),← HN.out h0] at this
     exact this
    have HEn:Hid (∀ W,Below w.heap.size w W → TellEnd c n w (.returned (.tuple #[.int .i64 n,.nilIface])) W):=fun W hW=>⟨n,.nilIface,-1,rfl,by rw [h0];exact errIs_nil _,fun _=>rfl,hW⟩
    have dm:((m:Int) == 0)=false:=by simp;omega
    clear e1 e2 e3 e4 h0 hlen hcall
    go_wp2_with fail
    refine HCl.out.mono ?_
    rintro e w7 ⟨D,rfl,hD,hb7⟩
    have hb:=HE.out.2.2.trans (hb7.mono HE.out.2.2.size)
    have HMx:Hid (Calls Tryz.prog 85 #[.slice (some ⟨D,0,none⟩) m m] w7 fun e w'=>e=.returned (.int .i64 n) ∧ w'=w7):=HM.out w7 D hD hb
    have HEe:=(show Hid (TellEnd c n w (.returned (.tuple #[.int .i64 n,.nilIface])) w7) from HEn.out w7 hb)
    clear hD hb7 hb
    go_wp2_with fail
    refine HMx.out.mono ?_
    rintro e w8 ⟨rfl,rfl⟩
    go_wp2_with fail
    go_ret2
    exact HEe.out
  ·
   obtain ⟨ty,v,rfl⟩:=HE.out.1.some_ h0
   have HEn:Hid (TellEnd c n w (.returned (.tuple #[.int .i64 0,.iface ty v])) w6):=⟨0,_,q,rfl,HE.out.1,fun h=>absurd h h0,HE.out.2.2⟩
   clear h0
   go_wp2_with fail
   go_ret2
   exact HEn.out
end
end Go.Proofs.YtipdclphpkgceaaGreatDoor
