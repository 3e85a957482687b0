import Derived.Test.YtaoikkhlnhfkfaaGreatDoorU00
import Derived.Test.YtaoikkhlnhfkfaaGreatDoorU10
set_option maxHeartbeats 4000000
set_option maxRecDepth 100000
set_option linter.defProp false
set_option linter.unusedSimpArgs false
set_option linter.unusedVariables false
namespace Go.Proofs.YtaoikkhlnhfkfaaGreatDoor
open Go renaming maxLen->s7,wpList_append_lies->xl,wpList->Iy
open Option renaming none->sA,some->A
open Proofs.Tryz renaming prog->sr,underlying23->ue,underlying29->vE
open Value renaming slice->C3
open Go.RowKit
variable {O wr:M}{Z:Nat}{v:Vl}{per:Int}{cs:List lI}{xs:List Vl}
def ay (cs:List lI)(V:bA)(per:Int)(I:lZ)(w:M)(e:Ending)(w':M):=
 ∃U O E G,e=.r (.agg #[.s U cs.length O,.st V,.q per,.s E I.length G])/\EW w' U cs/\cs.length<=O/\O<=s7/\Bc w' E I/\I.length<=G/\G<=s7/\(E=sA->I=[]/\G=0)/\(∃B xs,w.heap.size<=B/\QB w' B (.s U cs.length O) cs xs)/\(∀ad,E=A ad->w.heap.size<=ad.block/\Ju w' 3 (.s E I.length G))/\zW w w'
structure Ic (V wr:M)(O:Nat)(v:Vl)(kb:bA)(per:Int)(cs:List lI)(xs:List Vl):Prop where
 e:wr.cell? (C O 0)=A v
 a:wr.cell? (C O 1)=A (.st kb)
 k:wr.cell? (C O 2)=A (.q per)
 l:wr.cell? (C O 3)=A (.sn)
 h:∀i,wr.frozen? (C O i)=false
 E:QB wr V.heap.size v cs xs
 d:Below O V wr
 G:O<V.heap.size
def Ic.later{G:M}{I}(h:Ic O wr Z v I per cs xs)(E:zW wr G):Ic O G Z v I per cs xs:=
 ⟨jf E h.e,jf E h.a,jf E h.k,jf E h.l,λi=>E.frozen (p:=(C Z i)) (show Z<wr.z from BZ h.e)▸h.h i,h.E.r (S:=λ_=>False) (.e E) (λ_ U=>U.elim),h.d.trans (E.mono (ŕ (rZ h.G h.d.size))),h.G⟩
def Ic.K{w':M}{ab}(h:Ic O wr Z v ab per cs xs){ls:lI}{a:oA}{cap}(r9:Cr wr a ls)(T:ls.length<=cap)(ai:cap<=s7)(Q:a=sA->ls=[]/\cap=0)(R:∀ad,a=A ad->O.heap.size<=ad.block/\ad.block<wr.heap.size/\v.ownBlock≠A ad.block)(P:Ju wr 51 (.s a ls.length cap)){g G}
  (ao:w'.ownsRow O.heap.size 52 1 (.sl g 0 (cs.length+1) G) (cs.length+1) (xs++[.s a ls.length cap]))(I:wr.grownBy w' v.ownBlock)(W:v.ownBlock=A g\/g=wr.heap.size):
  w'.cell? (C Z 0)=A v/\w'.frozen? (C Z 0)=false/\Ic O (w'.setCell (C Z 0) (.sl g 0 (cs.length+1) G)) Z (.sl g 0 (cs.length+1) G) ab per (cs++[ls]) (xs++[.s a ls.length cap]):=by
 let aa:v.ownBlock≠A Z:=λe=>by
  have:=(AC h.E.row e).1;have:=h.G;omega
 let V:=BZ h.e;let E:=λi=>I.cell_far (C Z i) V (λe=>aa e.symm)
 let Y:=λi=>I.frozen_far (C Z i) V (λe=>aa e.symm)
 let ac:=h.E.I r9 T ai Q R P ao I W;let O:Ç (λk=>k=Z) w' (w'.setCell (C Z 0) (.sl g 0 (cs.length+1) G)):=Ç.g (S:=λk=>k=Z) (Ç.I _ w') (p:=(C Z 0)) J _;let ne:∀i:Nat,i≠0->((C Z 0):Addr)≠(C Z i):=λi av e=>by injection e with e e;exact av e.symm
 refine⟨(E 0).trans h.e,(Y 0).trans (h.h 0),ś _ _ _ (E 0▸h.e▸rfl),?_,?_,?_,λi=>by rw[ñ,Y i];exact h.h i,ac.r O (λk U=>U▸h.G),?_,h.G⟩
 rw[sF _ _ _ _ (ne 1 N),E 1];exact h.a
 rw[sF _ _ _ _ (ne 2 N),E 2];exact h.k
 rw[sF _ _ _ _ (ne 3 N),E 3];exact h.l
 exact(h.d.grown I (ŕ V) (λk U=>oi (AC h.E.row U).1 h.G)).setCell (p:=(C Z 0)) lr _
def gB (ca:oA) ccap(cs:List lI)(kb:bA) per(na:oA) ncap(ns:lZ)(w:M)(u:EW w ca cs)(hn:Bc w na ns)(hna:na=sA->ns=[]/\ncap=0)(hs:WQ cs ns):Calls sr 8 #[.agg #[.s ca cs.length ccap,.st kb,.q per,.s na ns.length ncap]] w λe w'=>ay cs kb per ns w e w':=by
 obtain⟨G,hiL,hzL0,hzL1,hzL2⟩:=ó Tryz.U;obtain⟨E,H,hz0,hz1,hz2⟩:=ó Tryz.b;have HC:=qV u hn hna hs;have hm20:=hs.a;have hr30:=hs.j;obtain⟨m,hm⟩:=ex cs.length;obtain⟨r,hr⟩:=ex ns.length;have HM:=qY hm hr;rw[hm]at hm20⊢;rw[hr]at hr30⊢;have hs1:(w.alloc (.c #[.s ca m ccap,.st kb,.q per,.s na r ncap] 25)).heap.size=w.heap.size+1:=sm;have hs2:((w.alloc (.c #[.s ca m ccap,.st kb,.q per,.s na r ncap] 25)).alloc (.c #[.sn,.st ⟨#[]⟩,.q 0,.sn] 36)).heap.size=w.heap.size+2:=sm;have hb1:zW w (w.alloc (.c #[.s ca m ccap,.st kb,.q per,.s na r ncap] 25)):=ba;have hb2:Below (w.alloc (.c #[.s ca m ccap,.st kb,.q per,.s na r ncap] 25)).heap.size (w.alloc (.c #[.s ca m ccap,.st kb,.q per,.s na r ncap] 25)) ((w.alloc (.c #[.s ca m ccap,.st kb,.q per,.s na r ncap] 25)).alloc (.c #[.sn,.st ⟨#[]⟩,.q 0,.sn] 36)):=ba;have hb3:Below ((w.alloc (.c #[.s ca m ccap,.st kb,.q per,.s na r ncap] 25)).alloc (.c #[.sn,.st ⟨#[]⟩,.q 0,.sn] 36)).heap.size ((w.alloc (.c #[.s ca m ccap,.st kb,.q per,.s na r ncap] 25)).alloc (.c #[.sn,.st ⟨#[]⟩,.q 0,.sn] 36)) (((w.alloc (.c #[.s ca m ccap,.st kb,.q per,.s na r ncap] 25)).alloc (.c #[.sn,.st ⟨#[]⟩,.q 0,.sn] 36)).alloc (.c #[.sn,.st kb,.q per,.sn] 36)):=ba;have hga:=((EA w (.s ca m ccap) kb per (.s na r ncap) 25).later hb2).later hb3;have hzc:∀(o:Nat) v,#[C3 sA 0 0,.st ⟨#[]⟩,.q 0,.sn][o]? = A v->(((w.alloc (.c #[.s ca m ccap,.st kb,.q per,.s na r ncap] 25)).alloc (.c #[.sn,.st ⟨#[]⟩,.q 0,.sn] 36)).alloc (.c #[.sn,.st kb,.q per,.sn] 36)).cell? (C (w.heap.size+1) o)=A v:=λo v ho=>jf hb3 (Ŏ _ _ _ _ hs1.symm▸ho)
 have hzf:∀o:Nat,(((w.alloc (.c #[.s ca m ccap,.st kb,.q per,.s na r ncap] 25)).alloc (.c #[.sn,.st ⟨#[]⟩,.q 0,.sn] 36)).alloc (.c #[.sn,.st kb,.q per,.sn] 36)).frozen? (C (w.heap.size+1) o)=false:=λo=>by
  rw[hb3.frozen (p:=(C (w.heap.size+1) o)) (hs2▸ō _)];have:=jB (w.alloc (.c #[.s ca m ccap,.st kb,.q per,.s na r ncap] 25)) #[.sn,.st ⟨#[]⟩,.q 0,.sn] 36 o;rwa[hs1]at this
 have hcp:Ic (((w.alloc (.c #[.s ca m ccap,.st kb,.q per,.s na r ncap] 25)).alloc (.c #[.sn,.st ⟨#[]⟩,.q 0,.sn] 36)).alloc (.c #[.sn,.st kb,.q per,.sn] 36)) (((w.alloc (.c #[.s ca m ccap,.st kb,.q per,.s na r ncap] 25)).alloc (.c #[.sn,.st ⟨#[]⟩,.q 0,.sn] 36)).alloc (.c #[.sn,.st kb,.q per,.sn] 36)) (w.heap.size+2) (.sn) kb per [] []:=by
  have c:∀(o:Nat) v,#[C3 sA 0 0,.st kb,.q per,.sn][o]? = A v->(((w.alloc (.c #[.s ca m ccap,.st kb,.q per,.s na r ncap] 25)).alloc (.c #[.sn,.st ⟨#[]⟩,.q 0,.sn] 36)).alloc (.c #[.sn,.st kb,.q per,.sn] 36)).cell? (C (w.heap.size+2) o)=A v:=λo v ho=>Ŏ _ _ _ _ hs2.symm▸ho
  refine⟨c 0 _ J,c 1 _ J,c 2 _ J,c 3 _ J,λo=>?_,⟨Ĉ _ _ _ _,λi ls h=>(oF h),λi x h=>oF h⟩,br,sm⟩;have:=jB ((w.alloc (.c #[.s ca m ccap,.st kb,.q per,.s na r ncap] 25)).alloc (.c #[.sn,.st ⟨#[]⟩,.q 0,.sn] 36)) #[.sn,.st kb,.q per,.sn] 36 o;rwa[hs2]at this
 have hbV:zW w (((w.alloc (.c #[.s ca m ccap,.st kb,.q per,.s na r ncap] 25)).alloc (.c #[.sn,.st ⟨#[]⟩,.q 0,.sn] 36)).alloc (.c #[.sn,.st kb,.q per,.sn] 36)):=by
  have h12:=hb1.tr hb2;exact h12.tr hb3
 obtain⟨V,hV⟩:=ex (((w.alloc (.c #[.s ca m ccap,.st kb,.q per,.s na r ncap] 25)).alloc (.c #[.sn,.st ⟨#[]⟩,.q 0,.sn] 36)).alloc (.c #[.sn,.st kb,.q per,.sn] 36));rw[hV]at hga hzc hzf hcp hbV;have HV:Hid (zW w V/\CE V w.heap.size (.s ca m ccap) kb per (.s na r ncap)/\(∀(o:Nat) v,#[C3 sA 0 0,.st ⟨#[]⟩,.q 0,.sn][o]? = A v->V.cell? (C (w.heap.size+1) o)=A v)/\(∀o:Nat,V.frozen? (C (w.heap.size+1) o)=false)/\Ic V V (w.heap.size+2) (.sn) kb per [] []):=⟨hbV,hga,hzc,hzf,hcp⟩
 have HVe:=Io hV;clear u hn hna hs hm hr hs1 hs2 hb1 hb2 hb3 hga hzc hzf hcp hbV hV;go_in
 go_wp2_with fail;rw[HVe.o];go_loopg[4] m (λgk c wr=>∃i:Nat,gk+i=m/\c=.q i/\∃v xs,Ic V wr (w.heap.size+2) v kb per (cs.take i) xs)
 case atStart=>exact⟨0,N,J,_,_,HV.o.2.2.2.2⟩
 case round=>
  obtain⟨i,hi',rfl,v,xs,hcp⟩:=hrel;have HR:=qY hcp (HV.o.1.trans (hcp.d.mono N));have c:wr.cell? (C w.heap.size 0)=A (.s ca m ccap):=hcp.d.cell (p:=(C w.heap.size 0)) (by show w.heap.size<w.heap.size+2;omega)▸HV.o.2.1.e
  have c:wr.cell? (C w.heap.size 3)=A (.s na r ncap):=hcp.d.cell (p:=(C w.heap.size 3)) (by show w.heap.size<w.heap.size+2;omega)▸HV.o.2.1.l
  clear hcp;by_cases him:i<m
  .
   obtain⟨ls,hls,-⟩:=Ao cs i (HM.o.1▸him);obtain⟨c,c,rfl,-,hcc⟩:=HC.o.1.h (oe HM.o.1);obtain⟨a',cap,e,hlies,hlc,hlm,hln⟩:=hcc i ls hls;have cj':=jf HR.o.2 e;have HOl:=Io (Zp a' cap ls wr (hlies.d HR.o.2) (oe (HC.o.2.2.2.d i ls hls)) hln);have HTk:Hid (cs.take (i+1)=cs.take i++[ls]/\(cs.take i).length=i):=⟨Δ▸hls▸rfl,by rw[Ε,HM.o.1];omega⟩
   obtain⟨q,hq⟩:=ex ls.length;have HQ:=Io hq;rw[hq]at cj' HOl;clear hcc e hlies hlc hlm hln hls hq;go_wp2_with fail;refine HOl.o.mono ?_
   rintro e w5⟨c,rfl,hov,hb5⟩;have hcp5:=HR.o.1.later hb5;obtain⟨la,lcap,rfl,hl1,hl2,hl3⟩:=hov.open;have hlB:∀ad,la=A ad->V.heap.size<=ad.block/\ad.block<w5.heap.size/\v.ownBlock≠A ad.block:=λad had=>by
    subst had;have h1:=AC hov (g:=ad.block) J;refine⟨rX (rX HV.o.2.2.2.2.d.size ?_) h1.1,h1.2,λe=>?_⟩
    exact HR.o.1.d.size
    have h2:=(AC HR.o.1.E.row e).2;omega
   have hln5:la=sA->ls=[]/\lcap=0:=λh=>by
    subst h;obtain⟨h1,⟨e,c⟩|⟨g,c',cur,e,-⟩⟩:=hov
    .
     injection e with e1 e2 e3
     exact⟨Ğ.1 c,e3⟩
    cases e
   rw[HQ.o]at hl1 hov⊢;have HX:Hid (Ic V w5 (w.heap.size+2) v kb per (cs.take i) xs/\Cr w5 la ls/\q<=lcap/\lcap<=s7/\(la=sA->ls=[]/\lcap=0)/\(∀ad,la=A ad->V.heap.size<=ad.block/\ad.block<w5.heap.size/\v.ownBlock≠A ad.block)):=⟨hcp5,hl3,hl1,hl2,hln5,hlB⟩
   have c:=hcp5.e;have hb6:zW w5 (w5.alloc (.c #[.s la q lcap] 52)):=ba;have HY:Hid (Ic V (w5.alloc (.c #[.s la q lcap] 52)) (w.heap.size+2) v kb per (cs.take i) xs/\Cr (w5.alloc (.c #[.s la q lcap] 52)) la ls/\(∀ad,la=A ad->V.heap.size<=ad.block/\ad.block<(w5.alloc (.c #[.s la q lcap] 52)).heap.size/\v.ownBlock≠A ad.block)/\V.heap.size<=(w5.alloc (.c #[.s la q lcap] 52)).heap.size):=⟨hcp5.later hb6,hl3.d hb6,λad had=>⟨(hlB ad had).1,rZ (hlB ad had).2.1 hb6.size,(hlB ad had).2.2⟩,rX hcp5.d.size hb6.size⟩
   have r7:Hid (Ju (w5.alloc (.c #[.s la q lcap] 52)) 51 (.s la q lcap)):=(OL hov).block λad n c hv=>(by cases hv;exact hb6.block _ (hlB _ J).2.1)
   have hrow:=HY.o.1.E.row;rw[HTk.o.2]at hrow;have HRow:=Io hrow;clear hov hb5 hcp5 hl1 hl2 hl3 hlB hln5 hb6 hrow;go_wp2_with (at_builtin;go_must (refine xl _ J _ _ 22 J V.heap.size 52 G (.sn) 1 24 Tryz.underlying22 hiL hzL0 hzL1 hzL2 J dc v i xs J HRow.o (C w5.heap.size 0) 1 1 [.slice la q lcap] J J (by intro j u c;cases j with|zero=>(have:u=.slice la q lcap:=sx c.symm);rw[this];simp[Addr.add]|succ j=>simp at c) (by intro u c;rw[Đ.1 c];rfl) dc ud N HY.o.2.2.2 _ J ?_;intro g cap' j h1 h2 c k;have hput:=HY.o.1.K (ls:=ls) HY.o.2.1 (HQ.o▸HX.o.2.2.1) HX.o.2.2.2.1 HX.o.2.2.2.2.1 HY.o.2.2.1 (HQ.o▸r7.o) (HTk.o.2▸HQ.o▸h1) h2 c;rw[HTk.o.2,<-HTk.o.1]at hput;have r9:=hput.1;have F:=hput.2.1;have HPut:Hid (∃v xs,Ic V (j.setCell (C (w.heap.size+2) 0) (.sl g 0 (i+1) cap')) (w.heap.size+2) v kb per (cs.take (i+1)) xs):=⟨_,_,hput.2.2⟩;clear hput h1 h2 c k))
   go_roundg (gk-1)
   case measure=>omega
   case rel=>exact⟨i+1,N,nd,HPut.o⟩
  obtain rfl:i=m:=N;have hcp:=HR.o.1;let htk:cs.take i=cs:=HM.o.1▸ln
  rw[htk]at hcp;obtain⟨ca',ccap',rfl,hcc1,hcc2,-,-⟩:=hcp.E.open;rw[HM.o.1]at hcp hcc1;have HCp:=qZ hcp hcc1 hcc2;have c:=hcp.l;let HLn:=Io (HC.o.2.1.d HR.o.2);let HAfter:Hid (∀a5 k5 w5,Bc w5 a5 ns/\r<=k5/\k5<=s7/\zW wr w5/\(a5=sA->ns=[]/\k5=0)/\(∀ad,a5=A ad->wr.heap.size<=ad.block/\Ju w5 3 (.s a5 r k5))->w5.cell? (C (w.heap.size+2) 3)=A (.sn)/\w5.frozen? (C (w.heap.size+2) 3)=false/\((w5.setCell (C (w.heap.size+2) 3) (.s a5 r k5)).cell? (C (w.heap.size+2) 0)=A (.s ca' i ccap')/\(w5.setCell (C (w.heap.size+2) 3) (.s a5 r k5)).cell? (C (w.heap.size+2) 1)=A (.st kb)/\(w5.setCell (C (w.heap.size+2) 3) (.s a5 r k5)).cell? (C (w.heap.size+2) 2)=A (.q per)/\(w5.setCell (C (w.heap.size+2) 3) (.s a5 r k5)).cell? (C (w.heap.size+2) 3)=A (.s a5 r k5))/\((w5.setCell (C (w.heap.size+2) 3) (.s a5 r k5)).cell? (C (w.heap.size+1) 0)=A (.sn)/\(w5.setCell (C (w.heap.size+2) 3) (.s a5 r k5)).cell? (C (w.heap.size+1) 1)=A (.st ⟨#[]⟩)/\(w5.setCell (C (w.heap.size+2) 3) (.s a5 r k5)).cell? (C (w.heap.size+1) 2)=A (.q 0)/\(w5.setCell (C (w.heap.size+2) 3) (.s a5 r k5)).cell? (C (w.heap.size+1) 3)=A (.sn))/\(∀o:Nat,(w5.setCell (C (w.heap.size+2) 3) (.s a5 r k5)).frozen? (C (w.heap.size+1) o)=false)/\ay cs kb per ns w (.r (.agg #[.s ca' i ccap',.st kb,.q per,.s a5 r k5])) (((((w5.setCell (C (w.heap.size+2) 3) (.s a5 r k5)).setCell (C (w.heap.size+1) 0) (.s ca' i ccap')).setCell (C (w.heap.size+1) 1) (.st kb)).setCell (C (w.heap.size+1) 2) (.q per)).setCell (C (w.heap.size+1) 3) (.s a5 r k5))):=λa5 k5 w5⟨u,G,I,q,F,n⟩=>by
   let h5:=HCp.o.1.later q;let ne:∀o:Nat,o≠3->((C (w.heap.size+2) 3):Addr)≠(C (w.heap.size+2) o):=λo ho e=>by injection e with e1 e2;exact ho e2.symm
   let ne1:∀o:Nat,((C (w.heap.size+2) 3):Addr)≠(C (w.heap.size+1) o):=λo e=>by injection e with e1;omega
   let z:∀(o:Nat) v,#[C3 sA 0 0,.st ⟨#[]⟩,.q 0,.sn][o]? = A v->(w5.setCell (C (w.heap.size+2) 3) (.s a5 r k5)).cell? (C (w.heap.size+1) o)=A v:=λo v ho=>by
    rw[sF _ _ _ _ (ne1 o),h5.d.cell (p:=(C (w.heap.size+1) o)) (by show w.heap.size+1<w.heap.size+2;omega)];exact HV.o.2.2.1 o v ho
   let hbut:Ç (λk=>k=w.heap.size+2\/k=w.heap.size+1) w5 (((((w5.setCell (C (w.heap.size+2) 3) (.s a5 r k5)).setCell (C (w.heap.size+1) 0) (.s ca' i ccap')).setCell (C (w.heap.size+1) 1) (.st kb)).setCell (C (w.heap.size+1) 2) (.q per)).setCell (C (w.heap.size+1) 3) (.s a5 r k5)):=Ç.g (Ç.g (Ç.g (Ç.g (Ç.g (Ç.I _ w5) (p:=(C (w.heap.size+2) 3)) (.inl rfl) _) (p:=(C (w.heap.size+1) 0)) (.inr rfl) _) (p:=(C (w.heap.size+1) 1)) (.inr rfl) _) (p:=(C (w.heap.size+1) 2)) (.inr rfl) _) (p:=(C (w.heap.size+1) 3)) (.inr J) _;let hlt:=h5.G;let hoc:=h5.E.r hbut (λk hk=>by obtain rfl|rfl:=hk<;>omega);let hoc2:=hoc;obtain⟨ca2,ccap2,e,-,-,hlc,-⟩:=hoc.open;injection e with e1 e2 e3
   subst e1;let hbw:=HR.o.2.tr q;refine⟨h5.l,h5.h 3,⟨?_,?_,?_,ś _ _ _ (h5.l▸rfl)⟩,⟨z 0 _ J,z 1 _ J,z 2 _ J,z 3 _ J⟩,λo=>?_,ca',ccap',a5,k5,by rw[HM.o.1,HM.o.2],hlc,HM.o.1▸HCp.o.2.1,HCp.o.2.2,?_,HM.o.2▸G,I,F,⟨_,xs,?_,(by rw[HM.o.1];exact hoc2)⟩,λad had=>?_,?_⟩
   rw[sF _ _ _ _ (ne 0 N)];exact h5.e
   rw[sF _ _ _ _ (ne 1 N)];exact h5.a
   rw[sF _ _ _ _ (ne 2 N)];exact h5.k
   rw[ñ,h5.d.frozen (p:=(C (w.heap.size+1) o)) (by show w.heap.size+1<w.heap.size+2;omega)];exact HV.o.2.2.2.1 o
   exact qc u hbut λad had hk=>by have:=(n ad had).1;have:=HR.o.1.d.size;obtain hk|hk:=hk<;>omega
   exact HV.o.1.size
   .
    obtain⟨c,k2⟩:=n ad had;refine⟨rX HR.o.2.size c,?_⟩;rw[HM.o.2];refine k2.block λad' n c hv=>?_
    cases hv
    cases had
    refine hbut.block _ ?_ λhk=>?_
    obtain⟨-,cur,c⟩:=k2 ad r k5 J;exact ī c
    have:=HR.o.1.d.size;obtain hk|hk:=hk<;>omega
   exact hbw.trans (hbut.d hbw.size λk hk=>by obtain rfl|rfl:=hk<;>omega)
  clear hcp htk hcc1 hcc2;go_wp2_with (at_builtin;go_must (refine P7 _ J _ _ 23 J 3 E (.q 0) ue H hz0 hz1 hz2 J na ncap r ns HM.o.2 J J HLn.o HC.o.2.2.1 N ?_;rintro a5 k5 w5 h5;obtain⟨r9,F,⟨c,c,c,c⟩,⟨m,n,o,k⟩,qf,e⟩:=HAfter.o a5 k5 w5 h5;have qf0:=qf 0;have qf1:=qf 1;have qf2:=qf 2;have qf3:=qf 3;have HE':=Io e;clear h5 qf e))
  exact Ę (v:=.agg #[.s ca' i ccap',.st kb,.q per,.s a5 r k5]) (by simp[results,Tryz.results8,go_sem,m,n,o,k]) J HE'.o
variable {w w':M}{B:Nat}{v:Vl}{ps:List Pk}{a:Act}{ops:aO}{o:Oper}{Q:Exit ->Act ->M ->Prop}
def CF.l{Y}(h:CF w B v ps)(E:Y<=B):CF w Y v ps:=BA h E
def CF.later (h:CF w B v ps)(G:zW w w'):CF w' B v ps:=Ai h λg _ E=>G.block g E
def V7{a:oA}(h:AL w a ps) k:AL w a (ps.take k):=by
 obtain rfl|⟨b,off,rfl,I,O⟩:=h
 exact .inl sm
 refine .inr ⟨b,off,J,I,λi p G=>?_⟩;have U:i<k:=by
  obtain E|E:=nR i k
  exact E
  rw[ψ,Ä N]at G;cases G
 simp_all
def Vb (w:M)(ty:tI) B(v:Vl) ps qs(G:oA) O(E:CF w B v ps)(W:AL w G qs)(Z:G=sA->qs=[]/\O=0)(k:ps.length+qs.length<=1000)(U:B<=w.heap.size):∃v' w',(Builtin.append_ #[29,29] ty #[v,.s G qs.length O]).run sr w=.ok v' w'/\CF w' B v' (ps++qs)/\Below B w w':=by
 have⟨I,V,k,O,Y⟩:=ó Tryz.l;cases G with
 |none=>
  obtain⟨rfl,rfl⟩:=Z J;exact⟨v,w,run_append_owned_none (P:=sr) w B 29 ty 68 I 3 vE V v ps.length (Dk ps) E,rj ζ E,br⟩
 |some X=>
  obtain⟨v',w',hrun,G,Z,-⟩:=run_append_own (P:=sr) w B 29 ty 68 I (.agg #[.q 0,.q 0,.q 0]) 3 24 vE V k O Y J dc v _ _ E X _ _ _ (O3 qs) (Qh W) (PG qs) ud N U;refine⟨v',w',hrun,?_,br.grown Z U λk Z=>(AC E Z).1⟩;unfold CF;rw[ý,Lt];exact G
def BC (w:M){rest}(E:o.guard=sA) s x(I:o.op=.call {callee:=.builtin .append,args:=#[s,x],argTypes:=#[29,29]}) B(v:Vl) ps qs(Z:oA) m xcap(G:qs.length=m)(Y:a.eval s=v)(X:a.eval x=.s Z m xcap)(hown:CF w B v ps)(m:AL w Z qs)(hxa:Z=sA->qs=[]/\xcap=0)(W:ps.length+qs.length<=1000)(s:B<=w.heap.size)
  (x:∀v' w',CF w' B v' (ps++qs)/\Below B w w'->Iy sr ops Q rest (a.put o.dst v') w'):Iy sr ops Q (o::rest) a w:=by
 subst G;refine wpList_plain E λK U=>?_
 have⟨v',w',hrun,O,G⟩:=Vb w o.type B v ps qs Z _ hown m hxa W s;unfold Oper.wp;simp[execOp,I,resolve,invoke,builtin,Y,X,hrun]
 exact U _ _ (x v' w' ⟨O,G⟩)
structure ă (w:M)(B:Nat)(v1 v2:Vl)(ps:List Pk)(ns:lZ):Prop where
 h:CF w B v1 ps
 j:w.ownsRow B 3 1 v2 ns.length (É ns)
 apart:∀g,v1.ownBlock=A g->v2.ownBlock≠A g
def gW w B:ă w B (.sn) (.sn) [] []:=⟨Ĉ ..,Ĉ ..,λg h=>nf h⟩
def ă.later{G E I}(h:ă w B G E ps I)(O:zW w w'):ă w' B G E ps I:=⟨h.h.later O,Ai h.j λg _ U=>O.block g U,h.apart⟩
def UY w{rest}(V:o.guard=sA) s x(Y:o.op=.call {callee:=.builtin .append,args:=#[s,x],argTypes:=#[29,29]}) B(g X:Vl) ps ns p ad(G:a.eval s=g)(I:a.eval x=.s (A ad) 1 1)(hown:ă w B g X ps ns)(E:AL w (A ad) [p])(k:ps.length<=1000)(k:B<=w.heap.size)
  (W:∀v' w',ă w' B v' X (ps++[p]) ns/\Below B w w'->Iy sr ops Q rest (a.put o.dst v') w'):Iy sr ops Q (o::rest) a w:=by
 have⟨O,a,Q,o,U⟩:=ó Tryz.l;apply xl w V s x 29 Y B 68 O (.agg #[.q 0,.q 0,.q 0]) 3 24 vE a Q o U J dc g ps.length (Dk ps) G hown.h ad 1 1 (Dk [p]) I J (Qh E) (PG _) dc ud N k _ J
 intro g cap w' Z I E a;refine W _ _ ⟨⟨?_,?_,?_⟩,br.grown I k λk G=>(AC hown.h G).1⟩
 unfold CF;rw[ý,Lt];exact Z
 .
  exact hown.j.kept I (by
   cases e:X.ownBlock with
   |none=>exact .inl J
   |some k=>exact .inr λe'=>hown.apart k e'.symm e)
 intro k G;obtain rfl:g=k:=Ö G;obtain E|E:=E
 exact hown.apart g E
 intro e;have:=(AC hown.j e).2;omega
def Ng w{rest}(Y:o.guard=sA) s x(Z:o.op=.call {callee:=.builtin .append,args:=#[s,x],argTypes:=#[23,23]}) B(X g:Vl) ps ns z ad(u:a.eval s=g)(G:a.eval x=.s (A ad) 1 1)(hown:ă w B X g ps ns)(E:w.cell? ad=A (.q z))(j:ns.length<=1000)(k:B<=w.heap.size)
  (W:∀v' w',ă w' B X v' ps (ns++[z])/\Below B w w'->Iy sr ops Q rest (a.put o.dst v') w'):Iy sr ops Q (o::rest) a w:=by
 have⟨U,j,o,a,V⟩:=ó Tryz.b;refine xl w Y s x 23 Z B 3 U (.q 0) 1 8 ue j o a V J dc g ns.length (É ns) u hown.j ad 1 1 (É [z]) G J ?_ (Ff _) dc ud N k _ J ?_
 .
  intro j u I;cases j with
  |zero=>
   have:u=.q z:=by simpa[É]using I.symm
   rw[this];simpa[Addr.add]using E
  |succ j=>simp[É]at I
 intro g cap w' a O G j;refine W _ _ ⟨⟨?_,?_,?_⟩,br.grown O k λk E=>(AC hown.j E).1⟩
 .
  exact World.ownsRow.kept hown.h O (by
   cases e:X.ownBlock with
   |none=>exact .inl J
   |some k=>exact .inr λe'=>hown.apart k e e'.symm)
 rw[ý,show É (ns++[z])=É ns++É [z]by simp[É]];exact a
 intro k E e;obtain rfl:g=k:=Ö e;obtain G|G:=G
 exact hown.apart g E G
 have:=(AC hown.h E).2;omega
def Ox (w:M) x y z:AL (w.alloc (.c #[.q x,.q y,.q z] 68)) (sa w.heap.size 0) [⟨x,y,z⟩]:=by
 refine .inr ⟨_,0,J,sm,λj q E=>?_⟩;cases j with
 |zero=>
  obtain rfl:=Ö E;exact⟨sm,sm,sm⟩
 |succ j=>simp at E
variable {n k i x y B:Nat}{g h g':Nat ->Nat}
def ů (f:Nat->Nat)(i j:Nat):=λk=>if k=i then f j else if k=j then f i else f k
def Œ (f:Nat->Nat)(a b n:Nat):=λk=>if a<=k/\k<a+n then f (k+b-a)else if b<=k/\k<b+n then f (k+a-b)else f k
def Ü (f:Nat->Nat)(a m b:Nat):=λk=>if a<=k/\k<a+b-m then f (k+m-a)else if a+b-m<=k/\k<b then f (k+m-b)else f k
def xD f a b:Œ f a b 0=f:=by
 funext k
 unfold Œ;rw[Ä N,Ä N]
def wK f{a b}(h:a+n<b):ů (Œ f a b n) (a+n) (b+n)=Œ f a b (n+1):=by
 funext k
 simp only[ů,Œ];by_cases G:k=a+n
 .
  subst G;rw[Æ J,Ä N,Ä N,Æ N]
  congr 1;omega
 rw[Ä G];by_cases I:k=b+n
 .
  subst I;rw[Æ J,Ä N,Ä N,Ä N,Æ N]
  congr 1;omega
 rw[Ä I];by_cases E:a<=k/\k<a+n
 rw[Æ E,Æ N]
 by_cases O:b<=k/\k<b+n
 rw[Ä E,Æ O,Ä N,Æ N]
 rw[Ä E,Ä O,Ä N,Ä N]
def aK f a m:Ü f a m m=f:=by
 funext k
 simp only[Ü];by_cases h:a<=k/\k<m
 rw[Ä N,Æ N];congr 1;omega
 by_cases E:a<=k/\k<a+m-m
 omega
 rw[Ä E,Ä N]
def Yq f m b:Ü f m m b=f:=by
 funext k
 simp only[Ü];by_cases E:m<=k/\k<m+b-m
 simp_all
 rw[Ä E,Ä N]
def rL f{a}(h:a<=k):ů (Ü f a (a+1) (k+1)) k (k+1)=Ü f a (a+1) (k+1+1):=by
 funext x
 simp only[ů,Ü];by_cases E:x=k
 .
  subst E;rw[Æ J,Ä N,Ä N,Æ N]
  congr 1;omega
 rw[Ä E];by_cases G:x=k+1
 .
  subst G;rw[Æ J,Ä N,Æ N,Ä N,Æ N]
  congr 1;omega
 rw[Ä G];by_cases I:a<=x/\x<k
 rw[Æ N,Æ N]
 rw[Ä N,Ä N,Ä N,Ä N]
def bu f{m}(h:k<m):ů (Ü f (k+1) m (m+1)) (k+1) k=Ü f k m (m+1):=by
 funext x
 simp[ů,Ü];by_cases E:x=k+1
 .
  subst E;rw[Æ J,Ä N,Ä N,Ä N,Æ N]
  congr 1;omega
 rw[Ä E];by_cases G:x=k
 .
  subst G;rw[Æ J,Æ N,Æ N]
  congr 1;omega
 rw[Ä G];by_cases I:k+1<x/\x<m+1
 rw[Ä N,Æ N,Ä N,Æ N]
 rw[Ä N,Ä N,Ä N,Ä N]
structure JL (f g:Nat->Nat)(a b:Nat):Prop where
 p:∀k,k<a\/b<=k->g k=f k
 l:∀k,a<=k->k<b->∃j,a<=j/\j<b/\g k=f j
 d:∀j,a<=j->j<b->∃k,a<=k/\k<b/\g k=f j
def JL.I f a b:JL f f a b:=⟨λ_ _=>J,λk E G=>⟨k,E,G,J⟩,λk E G=>⟨k,E,G,J⟩⟩
def JL.G{f a b}(x:JL f g a b)(y:JL g h a b):JL f h a b:=by
 refine⟨λk V=>(y.p k V).trans (x.p k V),λk O G=>?_,λj O G=>?_⟩
 have⟨j,f,b,a⟩:=y.l k O G;have⟨i,E,U,I⟩:=x.l j f b;exact⟨i,E,U,a.trans I⟩
 have⟨i,E,U,I⟩:=x.d j O G;have⟨k,Y,Z,a⟩:=y.d i E U;exact⟨k,Y,Z,a.trans I⟩
def JL.q{f a b a' O}(x:JL f g a b)(Z:a'<=a)(h:b<=O):JL f g a' O:=by
 refine⟨λk Y=>x.p k N,λk G E=>?_,λk G E=>?_⟩
 .
  by_cases h:a<=k/\k<b
  have⟨j,U,V,I⟩:=x.l k h.1 h.2;exact⟨j,N,N,I⟩
  exact⟨k,G,E,x.p k N⟩
 by_cases h:a<=k/\k<b
 have⟨j,U,V,I⟩:=x.d k h.1 h.2;exact⟨j,N,N,I⟩
 exact⟨k,G,E,x.p k N⟩
def RF f{a m b}(V:a<=m)(O:m<=b):JL f (Ü f a m b) a b:=by
 refine⟨λk G=>?_,λk E I=>?_,λj U Y=>?_⟩
 simp[Ü];rw[Ä N,Ä N]
 .
  simp[Ü];by_cases h:k<a+b-m
  rw[Æ ⟨E,h⟩];exact⟨k+m-a,N,N,J⟩
  rw[Ä N,Æ N];exact⟨k+m-b,N,N,J⟩
 simp[Ü];by_cases h:j<m
 .
  refine⟨j+b-m,N,N,?_⟩;rw[Ä N,Æ N]
  congr 1;omega
 refine⟨j+a-m,N,N,?_⟩;rw[Æ N]
 congr 1;omega
section
variable {at_:Nat->Int}
def DC (E:Nat->Int)(f:Nat->Nat)(a b:Nat):=∀i j,a<=i->i<j->j<b->â E (f i) (f j)
def õ (f:Nat->Nat)(a m b:Nat):=∀i j,a<=i->i<m->m<=j->j<b->f i<f j
def Ñ (E:Nat->Int)(f g:Nat->Nat)(a b:Nat):=JL f g a b/\DC E g a b
def DC.t{f a b}(h:DC at_ f a b){j}(G:a<=i)(O:i<=j)(I:j<b):at_ (f i)<=at_ (f j):=by
 obtain E|E:=nR i j
 have:=h i j G E I;unfold â at this;omega
 obtain rfl:i=j:=N;exact Ā _
def DC.D{f a m b}(V:DC at_ f a m)(U:DC at_ f m b)(Y:∀i j,a<=i->i<m->m<=j->j<b->â at_ (f i) (f j)):DC at_ f a b:=λi j I O G=>by
 obtain h|h:=nR j m
 exact V i j I O h
 obtain E|E:=nR i m
 exact Y i j I E h G
 exact U i j E O G
def iK{f I Y a m b}(U:a<=m)(O:m<=b)(G:Ñ at_ f I a m)(E:Ñ at_ I Y m b)(I:∀i j,a<=i->i<m->m<=j->j<b->â at_ (f i) (f j)):Ñ at_ f Y a b:=by
 refine⟨(G.1.q lr O).G (E.1.q U lr),DC.D (m:=m) (λi j O a U=>?_) E.2 (λi j O b U m=>?_)⟩
 rw[E.1.p i N,E.1.p j N];exact G.2 i j O a U
 rw[E.1.p i N];have⟨Y,a,X,f⟩:=G.1.l i O b;have⟨V,Z,i,b⟩:=E.1.l j U m;rw[f,b,G.1.p V N];exact I Y V a X Z i
structure UU (at_:Nat->Int)(f:Nat->Nat)(a m b mid s e:Nat):Prop where
 h:a<=s
 k:s<=m
 i:m<=e
 j:e<=b
 sum:s+e=mid+m
 u:s<m->m<e->at_ (f (e-1))<at_ (f s)
 g:a<s->e<b->at_ (f (s-1))<=at_ (f e)
section
variable {f:Nat->Nat}{a m b mid s e:Nat}
def UU.d (h:UU at_ f a m b mid s e):a<=mid/\mid<=b/\s<=mid/\mid<=e:=by
 have:=h.h;have:=h.k;have:=h.i;have:=h.j;have:=h.sum;omega
def UU.parts (h:UU at_ f a m b mid s e)(X:DC at_ f a m)(V:DC at_ f m b)(W:õ f a m b):(DC at_ (Ü f s m e) a s/\DC at_ (Ü f s m e) s mid/\DC at_ (Ü f s m e) mid e/\DC at_ (Ü f s m e) e b)/\õ (Ü f s m e) a s mid/\õ (Ü f s m e) mid e b/\(∀i j,a<=i->i<mid->mid<=j->j<b->â at_ (Ü f s m e i) (Ü f s m e j)):=by
 obtain⟨a,a,a,a⟩:=h.d;let a:=h.h;let a:=h.k;let a:=h.i;let a:=h.j;let a:=h.sum;let a:∀k,k<s->Ü f s m e k=f k:=λk i=>by
  simp[Ü];rw[Ä N,Ä N]
 let b:∀k,s<=k->k<mid->Ü f s m e k=f (k+m-s):=λk j i=>by
  simp only[Ü];rw[Æ N]
 let U:∀k,mid<=k->k<e->Ü f s m e k=f (k+m-e):=λk j i=>by
  simp[Ü];rw[Ä N,Æ N]
 let Z:∀k,e<=k->Ü f s m e k=f k:=λk i=>by
  simp[Ü];rw[Ä N,Ä N]
 refine⟨⟨λi j E f G=>?_,λi j E f G=>?_,λi j E f G=>?_,λi j E f G=>?_⟩,λi j E Y G O=>?_,λi j E Y G O=>?_,λi j E Y G O=>?_⟩
 rw[a i N,a j G];exact X i j E f N
 rw[b i E N,b j N G];exact V _ _ N N N
 rw[U i E N,U j N G];exact X _ _ N N N
 rw[Z i E,Z j N];exact V _ _ N N N
 rw[a i Y,b j G O];exact W _ _ E N N N
 rw[U i E Y,Z j G];exact W _ _ N N N N
 obtain f|f:=nR i s
 .
  rw[a i f];obtain I|I:=nR j e
  rw[U j G I];exact X _ _ E N N
  rw[Z j I];let k:=h.g N N;let T:=X.t E (show i<=s-1 by omega) N;let a:=V.t h.i I O;let a:=W i j E N N O;unfold â;omega
 rw[b i f Y];obtain I|I:=nR j e
 rw[U j G I];let k:=h.u N N;let T:=V.t (show m<=i+m-s by omega) (show i+m-s<=e-1 by omega) N;let a:=X.t h.h (show s<=j+m-e by omega) N;unfold â;omega
 rw[Z j I];exact V _ _ N N O
end
def wY{f a b}(X:a+1<=i)(h:i<=b)(G:DC at_ f (a+1) b)(T:õ f a (a+1) b)(W:i=a+1\/at_ (f (i-1))<at_ (f a))(R:i=b\/at_ (f a)<=at_ (f i)):Ñ at_ f (Ü f a (a+1) i) a b:=by
 refine⟨(RF f N X).q lr h,λx y I S U=>?_⟩;let Y:∀k,a<=k->k<i-1->Ü f a (a+1) i k=f (k+1):=λk b E=>by
  simp[Ü];rw[Æ N];congr 1;omega
 let Z:Ü f a (a+1) i (i-1)=f a:=by
  simp[Ü];rw[Ä N,Æ N];congr 1;omega
 let O:∀k,i<=k->Ü f a (a+1) i k=f k:=λk b=>by
  simp[Ü];rw[Ä N,Ä N]
 obtain h|h:=nR x (i-1)
 .
  rw[Y x I h];obtain V|V:=nR y (i-1)
  rw[Y y N V];exact G _ _ N N N
  obtain E|E:=nR y i
  .
   obtain rfl:y=i-1:=N;rw[Z];let h:at_ (f (i-1))<at_ (f a):=by
    obtain I|I:=W
    omega
    exact I
   let b:=G.t (show a+1<=x+1 by omega) (show x+1<=i-1 by omega) N;exact .inl N
  rw[O y E];exact G _ _ N N U
 obtain E|E:=nR x i
 .
  obtain rfl:x=i-1:=N;rw[Z,O y N];let h:at_ (f a)<=at_ (f i):=by
   obtain I|I:=R
   omega
   exact I
  let b:=G.t X (show i<=y by omega) U;let b:=T a y lr N N U;unfold â;omega
 rw[O x E,O y N];exact G _ _ N S U
def nC{f a m}(X:a<=i)(h:i<=m)(G:DC at_ f a m)(S:õ f a m (m+1))(T:i=a\/at_ (f (i-1))<=at_ (f m))(R:i=m\/at_ (f m)<at_ (f i)):Ñ at_ f (Ü f i m (m+1)) a (m+1):=by
 refine⟨(RF f h N).q X lr,λx y U W V=>?_⟩;let Z:∀k,k<i->Ü f i m (m+1) k=f k:=λk h=>by
  simp[Ü];rw[Ä N,Ä N]
 let a:Ü f i m (m+1) i=f m:=by
  simp only[Ü];rw[Æ N];congr 1;omega
 let O:∀k,i<k->k<m+1->Ü f i m (m+1) k=f (k-1):=λk h E=>by
  simp[Ü];rw[Ä N,Æ N];congr 1;omega
 obtain h|h:=nR x i
 .
  rw[Z x h];obtain Y|Y:=nR y i
  rw[Z y Y];exact G _ _ U W N
  obtain E|E:=nR i y
  rw[O y E V];exact G _ _ U N N
  obtain rfl:y=i:=N;rw[a];let k:at_ (f (y-1))<=at_ (f m):=by
   obtain I|I:=T
   omega
   exact I
  let h:=G.t U (show x<=y-1 by omega) N;let h:=S x m U N lr N;unfold â;omega
 obtain E|E:=nR i x
 rw[O x E N,O y N V];exact G _ _ N N N
 obtain rfl:x=i:=N;rw[a,O y W V];let k:at_ (f m)<at_ (f x):=by
  obtain I|I:=R
  omega
  exact I
 let h:=G.t X (show x<=y-1 by omega) N;exact .inl N
structure C8 (at_:Nat->Int)(g:Nat->Nat)(x y:Nat):Prop where
 b:∀i,x<=i->i<y->x<=g i/\g i<y
 d:∀v,x<=v->v<y->∃i,x<=i/\i<y/\g i=v
 a:DC at_ g x y
def C8.j (o:C8 at_ g x y)(e:∀i,x<=i->i<y->h i=g i):C8 at_ h x y:=by
 refine⟨λi E G=>e i E G▸o.b i E G,λv E G=>?_,λi j E G U=>e i E N▸e j N U▸o.a i j E G U⟩;have⟨i,I,O,V⟩:=o.d v E G;exact⟨i,I,O,e i I O▸V⟩
def C8.p{m}(i:x<=m)(i:m<=y)(X:C8 at_ g x m)(W:C8 at_ g m y)(k:Ñ at_ g h x y):C8 at_ h x y:=by
 refine⟨λi Y V=>?_,λv Y V=>?_,k.2⟩
 .
  have⟨j,U,h,Z⟩:=k.1.l i Y V;rw[Z];obtain E|E:=nR j m
  have:=X.b j U E;omega
  have:=W.b j E h;omega
 have:∃j,x<=j/\j<y/\g j=v:=by
  obtain E|E:=nR v m
  have⟨i,I,O,G⟩:=X.d v Y E;exact⟨i,I,N,G⟩
  have⟨i,I,O,G⟩:=W.d v E V;exact⟨i,N,O,G⟩
 have⟨j,U,h,Z⟩:=this;have⟨i,I,O,G⟩:=k.1.d j U h;exact⟨i,I,O,G.trans Z⟩
def C8.c (e:∀i,x<=i->i<y->g i=i)(k:Ñ at_ g h x y):C8 at_ h x y:=by
 refine⟨λi G E=>?_,λv G E=>?_,k.2⟩
 have⟨j,V,Z,Y⟩:=k.1.l i G E;simp_all
 have⟨i,I,U,O⟩:=k.1.d v G E;exact⟨i,I,U,by rw[O,e v G E]⟩
def Dj (E:Nat->Int)(g:Nat->Nat)(B n x:Nat):=∀q,x+q*B<n->C8 E g (x+q*B) (min (x+q*B+B) n)
def Dj.first (h:Dj at_ g B n x)(E:x<n):C8 at_ g x (min (x+B) n):=by
 have:=h 0 N;simpa using this
def Dj.rest{g B n x}(h:Dj at_ g B n x):Dj at_ g B n (x+B):=λq E=>by
 let e:x+(q+1)*B=x+B+q*B:=ot Nat.succ_mul
 have:=h (q+1) N;rwa[e]at this
def Dj.K (I:x<n->C8 at_ g x (min (x+B) n))(G:Dj at_ g B n (x+B)):Dj at_ g B n x:=λq E=>by
 cases q with
 |zero=>
  simp_all
 |succ q=>
  let e:x+(q+1)*B=x+B+q*B:=ot Nat.succ_mul
  rw[e]at E⊢;exact G q E
def Dj.j (o:Dj at_ g B n x)(e:∀i,x<=i->h i=g i):Dj at_ h B n x:=λq E=>(o q E).j λi G _=>e i N
def Dj.none (h:n<=x):Dj at_ g B n x:=λq E=>N
def GX (E:Nat->Int)(g:Nat->Nat)(B n x:Nat):=∀h:Nat->Nat,(∀i,i<x->h i=g i)->Dj E h B n x->Dj E h B n 0
def GX.c g B n:GX at_ g B n 0:=λ_ _ h=>h
def GX.j (h:GX at_ g B n x)(e:∀i,i<x->g' i=g i)(o:C8 at_ g' x (min (x+B) n)):GX at_ g' B n (x+B):=λk G I=>by refine h k (λi E=>(G i N).trans (e i E)) (Dj.K (λ_=>o.j λi _ E=>G i N) I)
def GX.last (h:GX at_ g B n x)(e:∀i,i<x->g' i=g i)(E:n<=x+B)(o:x<n->C8 at_ g' x n):Dj at_ g' B n 0:=by
 refine h g' e (Dj.K (λG=>?_) (Dj.none E));simp_all
def C8.l (o:C8 at_ g 0 n):BD at_ n ((List.range n).map g):=by
 refine⟨ŷ.2 λi j G E O=>?_,λj=>?_⟩
 .
  simp at G E
  simp
  exact o.a i j (uD _) O E
 rw[Ő];constructor
 rintro⟨i,G,rfl⟩;exact(o.b i (uD _) (ρ.1 G)).2
 intro E;obtain⟨i,-,U,I⟩:=o.d j (uD _) E;exact⟨i,ρ.2 U,I⟩
def Dj.l (h:Dj at_ g B n 0)(G:n<=B):BD at_ n ((List.range n).map g):=by
 obtain rfl|E:=Ģ n
 exact BD.c _
 have:=h.first E;rw[show min _ n=n by omega]at this;exact this.l
end
structure Ï (V:M) where
 w:M
 a:zW V w
def Ï.E{O:M}{a}{v:Vl}(h:O.cell? a=A v)(g:Ï O):g.w.cell? a=A v:=jf g.a h
def Dh{P:pG}{id}{Q:Exit->Act->M->Prop}{a w l}(E:P.follows .mixedOrders=true)(G:Region.lexB .any l.toArray=true)
  (h:wpQuiet P l.toArray (λw'=>∃g:Ï w,w'=g.w) (λa'=>∀w',(∃g:Ï w,w'=g.w)->Q .normal a' w') l a):(Code.region id l.toArray true).wp P Q a w:=
 wp_region_quiet (C:=λw'=>∃g:Ï w,w'=g.w) E G ⟨⟨w.drew,ì br 1⟩,J⟩ (sx h)
def Ï.j{P:pG}{f:fI}{args:Array Vl}{O:M}{v:Vl}(h:∀W,zW O W->Calls P f args W λe w'=>e=.r v/\zW W w')(g:Ï O):Calls P f args g.w λe w'=>e=.r v/\∃g':Ï O,w'=g'.w:=
 (h g.w g.a).mono λ_ w'⟨E,G⟩=>⟨E,⟨w',g.a.tr G⟩,J⟩
structure Hz (w:M)(b off n:Nat)(pk:Nat->Pk)(f:Nat->Nat):Prop where
 G:b<w.heap.size
 e:∀i,i<n->w.cell? (C b (off+i*3))=A (.q (pk (f i)).b)
 a:∀i,i<n->w.cell? (C b (off+i*3+1))=A (.q (pk (f i)).h)
 k:∀i,i<n->w.cell? (C b (off+i*3+2))=A (.q (pk (f i)).a)
 d:∀j,w.frozen? (C b j)=false
def Eh (w:M)(b o:Nat)(p:Pk):M:=((w.setCell (C b o) (.q p.b)).setCell (C b (o+1)) (.q p.h)).setCell (C b (o+2)) (.q p.a)
def ow w b o p:(Eh w b o p).heap.size=w.heap.size:=by simp[Eh]
def ET w b o p{j}(h:j<o\/o+3<=j):(Eh w b o p).cell? (C b j)=w.cell? (C b j):=by
 unfold Eh;rw[sF _ _ _ _ (λe=>by cases e;omega),sF _ _ _ _ (λe=>by cases e;omega),sF _ _ _ _ (λe=>by cases e;omega)]
def yV{w:M}{b o} p{u0 u1 Z:Vl}(I:w.cell? (C b o)=A u0)(E:w.cell? (C b (o+1))=A u1)(G:w.cell? (C b (o+2))=A Z):(Eh w b o p).cell? (C b o)=A (.q p.b)/\(Eh w b o p).cell? (C b (o+1))=A (.q p.h)/\(Eh w b o p).cell? (C b (o+2))=A (.q p.a):=by
 unfold Eh;refine⟨?_,?_,?_⟩
 rw[sF _ _ _ _ (λe=>sL),sF _ _ _ _ (λe=>sL)];exact ś _ _ _ (I▸rfl)
 rw[sF _ _ _ _ (λe=>sL)];exact ś _ _ _ (by rw[sF _ _ _ _ (λe=>sL),E];rfl)
 exact ś _ _ _ (by rw[sF _ _ _ _ (λe=>sL),sF _ _ _ _ (λe=>sL),G];rfl)
def gK w b o p a:(Eh w b o p).frozen? a=w.frozen? a:=by simp[Eh]
def Rn{S}{a w:M}(h:Ç S a w){b}(E:S b) o p:Ç S a (Eh w b o p):=((h.g (p:=⟨b,o,_⟩) E _).g (p:=⟨b,_,_⟩) E _).g (p:=⟨b,_,_⟩) E _
section
variable {w w':World}{b off n:Nat}{pk:Nat->Pk}{f:Nat->Nat}
def Hz.later (h:Hz w b off n pk f)(G:zW w w'):Hz w' b off n pk f:=
 ⟨rZ h.G G.size,λi E=>jf G (h.e i E),λi E=>jf G (h.a i E),λi E=>jf G (h.k i E),λj=>(ko (w:=w) (G.block b h.G)).trans (h.d j)⟩
def Hz.K (h:Hz w b off n pk f){i}(G:i<n) x:Hz (Eh w b (off+i*3) (pk x)) b off n pk (λk=>if k=i then x else f k):=by
 let I:=yV (pk x) (h.e i G) (h.a i G) (h.k i G);let key:∀k (c:Nat),k≠i->c<3->(Eh w b (off+i*3) (pk x)).cell? (C b (off+k*3+c))=w.cell? (C b (off+k*3+c)):=λk c E O=>ET w b _ _ N
 refine⟨rj ow h.G,λk E=>?_,λk E=>?_,λk E=>?_,λj=>rj gK (h.d j)⟩
 .
  by_cases e:k=i
  subst e;rw[Æ J];exact I.1
  simp[Ä e];have:=key k 0 e N;rw[kt]at this;rw[this];exact h.e k E
 .
  by_cases e:k=i
  subst e;rw[Æ J];exact I.2.1
  simp[Ä e];rw[key k 1 e N];exact h.a k E
 by_cases e:k=i
 subst e;rw[Æ J];exact I.2.2
 simp[Ä e];rw[key k 2 e N];exact h.k k E
def Hz.l (h:Hz w b off n pk f){i j}(I:i<n)(G:j<n):Hz (Eh (Eh w b (off+i*3) (pk (f j))) b (off+j*3) (pk (f i))) b off n pk (ů f i j):=by
 have:=(h.K I (f j)).K G (f i);let e:(λk=>if k=j then f i else if k=i then f j else f k)=Go.Proofs.YtaoikkhlnhfkfaaGreatDoor.ů f i j:=by
  funext k
  unfold Go.Proofs.YtaoikkhlnhfkfaaGreatDoor.ů;by_cases E:k=i
  simp_all
  simp[E]
 simp_all
end
structure AY (w0:M)(b off n:Nat)(pk:Nat->Pk)(f:Nat->Nat)(w:M):Prop where
 row:Hz w b off n pk f
 r:Ç (λk=>k=b) w0 w
section
variable {w0 w w':World}{b off n:Nat}{pk:Nat->Pk}{f:Nat->Nat}
def AY.later (h:AY w0 b off n pk f w)(E:zW w w'):AY w0 b off n pk f w':=⟨h.row.later E,h.r.G (.e E)⟩
def AY.drew (h:AY w0 b off n pk f w):AY w0 b off n pk f w.drew:=h.later (ì br 1)
def AY.l (h:AY w0 b off n pk f w){i j}(G:i<n)(E:j<n):AY w0 b off n pk (ů f i j) (Eh (Eh w b (off+i*3) (pk (f j))) b (off+j*3) (pk (f i))):=
 ⟨h.row.l G E,Rn (Rn h.r J ..) J ..⟩
end
end Go.Proofs.YtaoikkhlnhfkfaaGreatDoor
