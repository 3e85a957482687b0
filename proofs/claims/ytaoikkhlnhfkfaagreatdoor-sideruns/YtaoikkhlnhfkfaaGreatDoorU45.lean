import Derived.Test.YtaoikkhlnhfkfaaGreatDoorU00
import Derived.Deep.CutRange
import Derived.Test.YtaoikkhlnhfkfaaGreatDoorU44
set_option maxHeartbeats 40000000
set_option maxRecDepth 100000
set_option linter.defProp false
set_option linter.unusedSimpArgs false
set_option linter.unusedVariables false
namespace Go.Proofs.YtaoikkhlnhfkfaaGreatDoor
open Go renaming Ending->Gu,Calls->s8,World->tz,madeCells->sC
open Proofs.Tryz renaming prog->sr,underlying23->ue,results11->LO
open RowKit renaming Hid->sE,wrap64->Ft
open Option renaming none->sA,some->A
open Instr renaming makeSlice->vv
open Bool renaming false->ss,true->sy
open _root_.ByteArray renaming toList->sJ
open Go.RowKit
def Zy (per:Int)(ps:List Pk)(G:lZ)(w:M)(e:Gu)(w':M):=
 ∃v E l f,e=.r (.t #[v,.sl E 0 ps.length ps.length])/\Dz w' w.heap.size v l/\ER w' E ps.length f/\Gn per ps G l ((List.range ps.length).map f)/\zW w w'
def dz{ps s s'}(h:s'.p.length=s.p.length+1)(E:s.p.length<ps.length):JD ps s'<JD ps s:=by
 unfold JD;rw[h];split<;>split<;>omega
def kQ{q:Prop}(h:q:=by
 clear U aj ak aa a2;go_wp2
 go_quiet (fail);go_wp2
 go_roundg (n-(k+1))
 case measure=>omega
 case rel=>exact⟨k+1,G,_,_,rfl,by omega,by go_num,rfl,rfl,a6.o.2.1,ac.o,a9.o.later (ì br _)⟩):q:=h
def oE{q:Prop}(h:q:=by
 subst Z;have bb:b<n:=by omega
 have bm:=aj.g.E b bb;obtain⟨bn,aI⟩:=ex (G.q.tag k);obtain⟨bl,aC⟩:=ex (G.q.tag b);rw[aI]at ch ap;rw[aC]at bm ap;subst a4;have b9:decide ((b:Int)<0)=false:=ĕ (by omega);have c7:decide (bn<bl)=true:=ď ap;clear aI aC;exact kQ):q:=h
def m9{q:Prop}(h:q:=by
 subst Z;have bb:b<n:=by omega
 have bm:=aj.g.E b bb;obtain⟨bn,aI⟩:=ex (G.q.tag k);obtain⟨bl,aC⟩:=ex (G.q.tag b);rw[aI]at ch ap;rw[aC]at bm ap;subst a4;have b9:decide ((b:Int)<0)=false:=ĕ (by omega);have c7:decide (bn<bl)=false:=ĕ ap;clear aI aC;exact kQ):q:=h
def n0{q:Prop}(h:q:=by
 clear U aL c6 cb cP c' bx c3 cq cD bt ck d0 cn cd be bv c8 cf cL;go_wp2
 go_region;go_wp2_with fail;go_meet;exact bK.o):q:=h
def m2{q:Prop}(h:q:=by
 go_wp2_with fail;go_meet;exact⟨by rw[b'.o],rfl⟩):q:=h
def jb (c5:oA) em ps per(d7:oA) fd V w(am:AL w c5 ps)(ec:Bc w d7 V)(cN:Ar ps)(aq:1<=per)(dN:per<=1000)(cm:Ip V):s8 sr 50 #[.slice c5 ps.length em,.int .i64 per,.slice d7 V.length fd] w λe w'=>Zy per ps V w e w':=by
 have I:sE (AL w c5 ps/\Ar ps/\IL V):=⟨am,cN,cm.y⟩
 have fk:=cN.j;have e0:=cm.len;obtain⟨ei,en,rfl,-,dv⟩:=ec.h (by omega);have e3:sE (∀W f,zW w W->f<8->∃x,Cb V f=x/\1<=x/\x<=12/\W.cell? ⟨ei,en+f,sA⟩=A (.int .i64 x)):=λW f a0 cq=>by
  obtain⟨x,be,-⟩:=Ao V f (by omega);have:=cm.j.d f x be;exact⟨x,KG be,this.1,this.2,jf a0 (dv f x be)⟩
 obtain⟨n,cE⟩:=ex ps.length;have an:sE (ps.length=n):=cE;clear am ec cN cm dv;rw[cE,e0];rw[cE]at fk;have eI:∀w':tz,(vv 163 (.int .i64 n) (.int .i64 n)).run sr w'=.ok (.slice (A ⟨w'.heap.size,0,sA⟩) n n) (w'.alloc (.cells (sC #[.bool ss] n) 4)):=λw'=>by
  obtain⟨b5,b8,b4,ca,b7⟩:=ó Tryz.u;have:=Ŭ (P:=sr) w' 163 4 b5 (.bool ss) Tryz.underlying163 b8 b4 .i64 .i64 n n (by omega) (by omega) (by rw[b7];omega) (by omega);simpa[ca,Value.cells]using this
 have eE:∀w':tz,(vv 23 (.int .i64 n) (.int .i64 n)).run sr w'=.ok (.slice (A ⟨w'.heap.size,0,sA⟩) n n) (w'.alloc (.cells (sC #[.int .i64 0] n) 3)):=λw'=>by
  obtain⟨b5,b8,b4,ca,b7⟩:=ó Tryz.b;have:=Ŭ (P:=sr) w' 23 3 b5 (.int .i64 0) ue b8 b4 .i64 .i64 n n (by omega) (by omega) (by rw[b7];omega) (by omega);simpa[ca,Value.cells]using this
 have c2:∀w':tz,(vv 23 (.int .i64 8) (.int .i64 8)).run sr w'=.ok (.slice (A ⟨w'.heap.size,0,sA⟩) 8 8) (w'.alloc (.cells (sC #[.int .i64 0] 8) 3)):=λw'=>by
  obtain⟨b5,b8,b4,ca,b7⟩:=ó Tryz.b;have:=Ŭ (P:=sr) w' 23 3 b5 (.int .i64 0) ue b8 b4 .i64 .i64 8 8 (by omega) (by omega) (by rw[b7];omega) (by omega);simpa[ca,Value.cells]using this
 have dX:sE (Ee w ((((w.alloc (.cells (sC #[.int .i64 0] n) 3)).alloc (.cells (sC #[.bool ss] n) 4)).alloc (.cells (sC #[.bool ss] n) 4)).alloc (.cells (sC #[.int .i64 0] 8) 3)) w.heap.size (w.heap.size+1) (w.heap.size+2) (w.heap.size+3) n (.slice sA 0 0) [] 0 (λ_=>0) (λ_=>0)):=qm w n _ _;have ev:sE (∀w':tz,(vv 23 (.int .i64 8) (.int .i64 8)).run sr w'=.ok (.slice (A ⟨w'.heap.size,0,sA⟩) 8 8) (w'.alloc (.cells (sC #[.int .i64 0] 8) 3))):=c2;obtain⟨ff,eR,ew,ee,ef⟩:=ó Tryz.p;clear cE;go_in
 go_wp2_with fail;obtain⟨al,c1⟩:=ex w.heap.size;obtain⟨av,cR⟩:=ex (w.heap.size+1);obtain⟨ab,cG⟩:=ex (w.heap.size+2);obtain⟨dg,cS⟩:=ex (w.heap.size+3);obtain⟨fc,c0⟩:=ex ((((w.alloc (.cells (sC #[.int .i64 0] n) 3)).alloc (.cells (sC #[.bool ss] n) 4)).alloc (.cells (sC #[.bool ss] n) 4)).alloc (.cells (sC #[.int .i64 0] 8) 3));have fj:sE (Ee w fc al av ab dg n (.slice sA 0 0) [] 0 (λ_=>0) (λ_=>0)):=by
  have:=dX.o;rwa[c0,cS,cG,cR,c1]at this
 rw[c0,cS,cG,cR,c1];clear c0 cS cG cR c1 dX eI c2 eE;go_loopg[8,12,13,14] (JD ps ⟨[],0,0,FP⟩)(λeV v bq ep t wr=>∃s aw,eV=JD ps s/\bq=.slice (A ⟨aw,0,sA⟩) 8 8/\ep=.int .i64 s.q.v/\t=.int .i64 s.d/\Â (Co ps V) per ps FP s/\Ee w wr al av ab aw n v s.p s.e s.q.tag s.q.last)
 case atStart=>exact⟨_,dg,J,J,J,J,.c,fj.o⟩
 case round=>
  obtain⟨s,aw,rfl,rfl,rfl,rfl,b0,bw⟩:=hrel;obtain⟨dF,eW⟩:∃W,W=wr:=⟨_,J⟩
  subst eW;have cg:sE (Â (Co ps V) per ps FP s):=b0;have ce:sE (Ee w dF al av ab aw n u8 s.p s.e s.q.tag s.q.last):=bw;obtain⟨aE,aG,c4,eK,eA,-,-,-⟩:=bw.E.open;have ez:=b0.g ⟨aq,dN⟩ I.o.2.1;have ed:=b0.b (LV I.o.2.2 I.o.2.1 aq);have ea:=b0.a;rw[an.o]at ea;have eu:s.p.length<=n:=by omega
  have bx:=RI I.o.2.2 I.o.2.1 b0;have eL:0<=s.q.v/\s.q.v<=10000000:=by have:=bx.1;omega
  obtain⟨O,ci⟩:=ex s.d;obtain⟨L,cC⟩:=ex s.p.length;obtain⟨ax,cx⟩:=ex s.q.v;have b6:sE (s.d=O/\s.p.length=L/\s.q.v=ax):=⟨ci,cC,cx⟩
  rw[ci,cC]at ez;rw[cx]at eL;rw[cC]at eu eK c4;have fw:sE (u8=.slice aE L aG):=c4;rw[ci,cx];unfold maxLen at eA;clear b0 bw ed ea ci cC cx bx;subst c4;by_cases dj:L<n
  .
   go_wp2_with fail;go_loopg[15,16,17] n (λfa eN e8 er eo=>∃(k:Nat)(E:St FQ)(first ai:Int),fa=n-k/\k<=n/\er=.int .i64 k/\eN=.int .i64 ai/\e8=.int .i64 first/\E.q.v=ax/\Fv per ps V s E k first ai/\Ee w eo al av ab aw n (.slice aE L aG) E.p E.e E.q.tag E.q.last)
   case atStart=>exact⟨0,s,-1,-1,J,uD _,J,J,J,b6.o.2.2,Fv.c cg.o,ce.o⟩
   case round=>
    obtain⟨k,E,first,ai,rfl,fx,rfl,rfl,rfl,dl,aB,bw⟩:=hrel;obtain⟨Y,hW2⟩:∃W,W=wr:=⟨_,J⟩
    subst hW2;have bp:sE (Fv per ps V s E k first ai/\E.q.v=ax):=⟨aB,dl⟩
    have ao:sE (Ee w Y al av ab aw n (.slice aE L aG) E.p E.e E.q.tag E.q.last):=bw;have b2:E.d=O:=aB.d.trans b6.o.1;have da:sE (E.d=O):=b2;have eM:=aB.k.a;rw[an.o]at eM;clear aB bw dl b2;by_cases aW:k<n
    .
     obtain⟨p,a3,-⟩:=Ao ps k (by rw[an.o];exact aW);obtain⟨bj,bf,rfl,-,a1⟩:=I.o.1.h (by rw[an.o];omega);have a:=Bw (I.o.2.1.d _ p a3).1;have b3:=TZ I.o.2.1 k;have ck:p.b=((Aj ps k:Nat):Int):=by rw[G8 a3];omega
     have a8:=AQ a3;have d0:Y.cell? ⟨bj,bf+k*3,sA⟩=A (.int .i64 p.b):=jf ao.o.d (a1 k p a3).1;have cn:Y.cell? ⟨bj,bf+k*3+1,sA⟩=A (.int .i64 p.h):=jf ao.o.d (a1 k p a3).2.1;have cd:Y.cell? ⟨bj,bf+k*3+2,sA⟩=A (.int .i64 p.a):=jf ao.o.d (a1 k p a3).2.2;have cl:=ao.o.e.E k aW;have cU:sE (ps[k]? = A p/\Ay ps k=p.a):=⟨a3,a8⟩
     obtain⟨t,bk⟩:=ex (!decide (k<E.e)&&decide (p.a<=O));have a7:sE ((!decide (k<E.e)&&decide (p.a<=O))=t):=bk;have ct:sE (∀W,zW w W->W.cell? ⟨bj,bf+k*3,sA⟩=A (.int .i64 p.b)/\W.cell? ⟨bj,bf+k*3+1,sA⟩=A (.int .i64 p.h)):=λW a0=>⟨jf a0 (a1 k p a3).1,jf a0 (a1 k p a3).2.1⟩
     clear a1 a8 a3 bk;go_upto_region 14 with fail
     go_cut[55]from 36 to 121 (λfg cJ=>fg=.bool t/\Y=cJ)
     case first=>
      by_cases bs:k<E.e
      .
       rw[ď bs]at cl;have b':sE (t=ss):=by
        show t=ss
        rw[<-a7.o,ď bs];rfl
       exact m2
      rw[ĕ bs]at cl;by_cases a8:p.a<=O
      .
       have b':sE (t=sy):=by
        show t=sy
        rw[<-a7.o,ĕ bs,ď a8];rfl
       exact m2
      have b':sE (t=ss):=by
       show t=ss
       rw[<-a7.o,ĕ bs,ĕ a8];rfl
      exact m2
     case rest=>
     obtain⟨rfl,e1⟩:=hcut;subst e1;go_upto_if 55 with fail
     go_cut[18,19]from 36 to 121 (λ_ _ cJ=>∃G,Fv per ps V s G k first ai/\G.q.v=ax/\(Ay ps k<=G.d->k<G.e)/\Ee w cJ al av ab aw n (.slice aE L aG) G.p G.e G.q.tag G.q.last)
     case first=>
      by_cases bk:t=sy
      .
       have cf:¬k<E.e/\p.a<=O:=by
        have:=a7.o;rw[bk]at this;simpa using this
       obtain⟨c8,U⟩:=bp.o.1.u I.o.2.1 cU.o.1 cf.1 (by rw[da.o];exact cf.2);have aL:=ao.o.q (show E.e<n by omega);rw[<-c8]at aL U;obtain⟨x,be,a,fR,d3⟩:=e3.o (Y.setCell ⟨av,k,sA⟩ (.bool sy)) (Aj ps k) aL.d b3;obtain⟨cH,cQ⟩:=ct.o _ aL.d;rw[ck]at cH;have cV:=aL.last.E (Aj ps k) b3;have fq:=ao.o.e.s k;have e7:=aL.g.E k aW;have eS:=aL.g.s k;have bx:=RI I.o.2.2 I.o.2.1 bp.o.1.k;have dk:0<=E.q.last (Aj ps k)/\E.q.last (Aj ps k)<=10000000:=by have:=bx.2.1 (Aj ps k);omega
       have c':DR ps V k=p.h*(12/x):=by unfold DR;rw[D7 cU.o.1,be]
       have cy:=LQ I.o.2.2 I.o.2.1 k;have df:=I.o.2.2.a (Aj ps k);rw[be]at df;have e9:Int.tdiv 12 x=12/x:=Int.tdiv_eq_ediv_of_nonneg (by decide);have cP:E.q.e (Aj ps) (DR ps V) k=⟨E.q.q++[k],A8 E.q.tag k (max ax (E.q.last (Aj ps k))+DR ps V k),E.q.v,A8 E.q.last (Aj ps k) (max ax (E.q.last (Aj ps k))+DR ps V k)⟩:=by
        unfold FQ.e;rw[bp.o.2]
       rw[cP]at U;rw[c']at cy U;obtain⟨f,cq⟩:=ex (Aj ps k);obtain⟨z,cL⟩:=ex p.h;obtain⟨y,bv⟩:=ex (12/x);rw[cq]at cV dk d3 cH U b3;obtain⟨bq,c3⟩:=ex (E.q.last f);rw[cL]at cQ cy U;rw[bv]at e9 cy U df;rw[c3]at cV dk U;obtain⟨bd,cD⟩:=ex (z*y);rw[cD]at cy U;obtain⟨T,bt⟩:=ex (max ax bq+bd);rw[bt]at U;have fv:Ft y=y:=by unfold Ft;omega
       have ft:Ft (z*y)=bd:=by rw[cD];unfold Ft;omega
       have eq:¬x=0:=by omega
       have aC:(x==0)=false:=by simpa using eq
       have fs:(f:Int)<8:=by omega
       obtain⟨el,fb⟩:=ex (Y.setCell ⟨av,k,sA⟩ (.bool sy));rw[fb]at aL d3 cH cQ cV e7 eS;have c6:=(aL.i aW T).later (ì br 1);have cb:=aL.i aW T;have fW:=cb.last.E f b3;have fl:=cb.last.s f;have eC:=cb.g.E k aW;rw[AX]at eC;have bK:sE (∃G,Fv per ps V s G k first ai/\G.q.v=ax/\(Ay ps k<=G.d->k<G.e)/\Ee w (((el.setCell ⟨al,k,sA⟩ (.int .i64 T)).drewN 1).setCell ⟨aw,f,sA⟩ (.int .i64 T)) al av ab aw n (.slice aE L aG) G.p G.e G.q.tag G.q.last):=⟨_,U,bp.o.2,λ_=>ō _,c6.s b3 T⟩
       subst bk;by_cases a:bq<ax
       .
        obtain rfl:T=ax+bd:=by omega
        have e2:Ft (ax+bd)=ax+bd:=by unfold Ft;omega
        exact n0
       obtain rfl:T=bq+bd:=by omega
       have e2:Ft (bq+bd)=bq+bd:=by unfold Ft;omega
       exact n0
      have dn:sE (t=ss):=by
       show t=ss
       simpa using bk
      have dr:Ay ps k<=E.d->k<E.e:=λh=>by
       have:=a7.o;rw[dn.o]at this;have dN:¬(¬k<E.e/\p.a<=O):=by simpa using this
       rw[cU.o.2,da.o]at h;omega
      have eJ:sE (Ay ps k<=E.d->k<E.e):=dr;have ej:t=false:=dn.o;subst ej;clear bk dr d0 cn cd cl;go_wp2_with fail;go_meet;exact⟨E,bp.o.1,bp.o.2,eJ.o,ao.o⟩
     case rest=>
     obtain⟨G,U,a2,ak,aj⟩:=hcut;have a6:sE (Fv per ps V s G k first ai/\G.q.v=ax/\(Ay ps k<=G.d->k<G.e)):=⟨U,a2,ak⟩
     have a9:sE (Ee w wc al av ab aw n (.slice aE L aG) G.p G.e G.q.tag G.q.last):=aj;have d8:=aj.a.E k aW;have dy:=aj.e.E k aW;have ch:=aj.g.E k aW;clear d0 cn cd cl ck a7;cases aa:AA G.p k with
     |true=>
      rw[aa]at d8;have ac:sE (Fv per ps V s G (k+1) first ai):=U.g I.o.2.2 I.o.2.1 aq ak aa;clear U aj ak aa a2;go_wp2
      go_roundg (n-(k+1))
      case measure=>omega
      case rel=>exact⟨k+1,G,first,ai,J,by omega,by go_num,J,J,a6.o.2.1,ac.o,a9.o⟩
     |false=>
      rw[aa]at d8;obtain⟨bh,Z⟩:∃f':Int,f'=if first<0 then(k:Int)else first:=⟨_,J⟩
      by_cases bg:k<G.e
      .
       rw[ď bg]at dy;by_cases dp:ai<0
       .
        have d4:ai= -1:=by
         obtain⟨e,-⟩|⟨b,e,-⟩:=U.a
         . exact e
         omega
        by_cases aN:first<0
        . have ac:sE (Fv per ps V s G (k+1) bh k):=U.q I.o.2.2 I.o.2.1 aq bg aa Z (.inl d4);rw[Æ aN]at Z;subst Z;have b9:decide (ai<0)=true:=ď dp;exact kQ
        have ac:sE (Fv per ps V s G (k+1) bh k):=U.q I.o.2.2 I.o.2.1 aq bg aa Z (.inl d4);rw[Ä aN]at Z;subst Z;have b9:decide (ai<0)=true:=ď dp;exact kQ
       obtain⟨b,a4,fS⟩:∃b:Nat,ai=b/\b<k:=by
        obtain⟨e,-⟩|⟨b,e,dU,-⟩:=U.a
        . omega
        exact⟨b,e,dU⟩
       by_cases ap:G.q.tag k<G.q.tag b
       .
        by_cases aN:first<0
        . have ac:sE (Fv per ps V s G (k+1) bh k):=U.q I.o.2.2 I.o.2.1 aq bg aa Z (.inr ⟨b,a4,ap⟩);rw[Æ aN]at Z;exact oE
        have ac:sE (Fv per ps V s G (k+1) bh k):=U.q I.o.2.2 I.o.2.1 aq bg aa Z (.inr ⟨b,a4,ap⟩);rw[Ä aN]at Z;exact oE
       by_cases aN:first<0
       . have ac:sE (Fv per ps V s G (k+1) bh ai):=U.l I.o.2.2 I.o.2.1 aq ak aa Z (.inr ⟨b,a4,by omega⟩);rw[Æ aN]at Z;exact m9
       have ac:sE (Fv per ps V s G (k+1) bh ai):=U.l I.o.2.2 I.o.2.1 aq ak aa Z (.inr ⟨b,a4,by omega⟩);rw[Ä aN]at Z;exact m9
      rw[ĕ bg]at dy;by_cases aN:first<0
      . have ac:sE (Fv per ps V s G (k+1) bh ai):=U.l I.o.2.2 I.o.2.1 aq ak aa Z (.inl bg);rw[Æ aN]at Z;subst Z;exact kQ
      have ac:sE (Fv per ps V s G (k+1) bh ai):=U.l I.o.2.2 I.o.2.1 aq ak aa Z (.inl bg);rw[Ä aN]at Z;subst Z;exact kQ
    have c9:k=n:=by omega
    have aB:=bp.o.1;rw[c9,<-an.o]at aB;have b1:E.p.length=L:=by rw[aB.p];exact b6.o.2.1
    obtain⟨bj,bf,rfl,-,a1⟩:=I.o.1.h (by rw[an.o];omega);have ct:sE (∀W (i:Nat) p,zW w W->ps[i]? = A p->W.cell? ⟨bj,bf+i*3+1,sA⟩=A (.int .i64 p.h)/\W.cell? ⟨bj,bf+i*3+2,sA⟩=A (.int .i64 p.a)):=λW i p a0 am=>⟨jf a0 (a1 i p am).2.1,jf a0 (a1 i p am).2.2⟩
    clear a1;have fN:¬k<n:=aW;by_cases a0:ai<0
    .
     obtain⟨p,dB,am,a5,dT⟩:=aB.none I.o.2.2 I.o.2.1 aq a0 (by rw[b1,an.o];exact dj);have cW:E.e<n:=by have:=Ap am;rw[an.o]at this;exact this
     have cT:=ao.o.k 3;have co:=(ct.o _ E.e p cT.d am).2;have c2:=ev.o;have bK:sE (Â (Co ps V) per ps FP ⟨E.p,p.a,E.e,E.q.g⟩/\Ee w (Y.alloc (.cells (sC #[.int .i64 0] 8) 3)) al av ab Y.heap.size n (.slice aE L aG) E.p E.e E.q.tag (λ_=>0)/\JD ps ⟨E.p,p.a,E.e,E.q.g⟩ <JD ps s):=⟨a5,cT,(by
       unfold JD;rw[aB.p,Æ ⟨by rw[an.o];exact cW,by simp only;rw[AQ am];exact Ā _⟩,Ä ((λdq=>dT (by
             obtain⟨q,d6,-⟩:=Ao ps s.e dq.1;exact⟨q,d6,by rw[<-AQ d6];exact dq.2⟩)))]
       omega)⟩
     obtain⟨et,cM⟩:=ex E.e;obtain⟨ek,a8⟩:=ex p.a;have ac:sE (E.e=et/\p.a=ek):=⟨cM,a8⟩
     rw[cM]at co cW dB;rw[a8]at co;subst dB;clear aB a5 dT cT am cM a8 c9 b1;go_wp2
     go_roundg (JD ps ⟨E.p,p.a,E.e,E.q.g⟩)
     case measure=>exact bK.o.2.2
     case rel=>exact⟨_,_,J,J,J,by rw[ac.o.2],bK.o.1,bK.o.2.1⟩
    obtain⟨b,p,a4,am,aa,a5⟩:=aB.D I.o.2.2 I.o.2.1 aq a0;have bb:b<n:=by have:=Ap am;rw[an.o]at this;exact this
    have co:=(ct.o _ b p ao.o.d am).1;obtain⟨-,-,eZ,d5,-,-⟩:=Bw (I.o.2.1.d _ _ am).1;have du:0<=per*p.h:=Ŗ (by omega) (by omega);have d2:per*p.h<=1000*1500:=χ (by omega) d5 (by omega) (by omega);have b2:=da.o;rw[b2]at a5;obtain⟨y,bv⟩:=ex p.h;obtain⟨m,cY⟩:=ex (per*y);obtain⟨fn,cI⟩:=ex (O+m);rw[bv]at co du d2 a5;rw[cY]at du d2 a5;rw[cI]at a5;have fA:IntKind.i64.wrap (per*y)=m:=by rw[cY];exact Ĵ _ (by omega)
    have fm:IntKind.i64.wrap (O+m)=fn:=by rw[<-cI];exact Ĵ _ (by omega)
    have cX:sE (E.p.length=L/\E.p=s.p):=⟨b1,aB.p⟩
    have cA:=ao.o.E;unfold Dz at cA;rw[b1]at cA;have e4:sE (Â (Co ps V) per ps FP ⟨E.p++[⟨(b:Nat),O,fn⟩],fn,E.e,E.q.h b⟩):=a5;have cv:zW Y ((Y.alloc (.cells #[.int .i64 b,.int .i64 O,.int .i64 fn] 75)).alloc (.cells #[.int .i64 b,.int .i64 O,.int .i64 fn] 75)):=ba.alloc (by simp) _;have bc:sE (Ee w ((Y.alloc (.cells #[.int .i64 b,.int .i64 O,.int .i64 fn] 75)).alloc (.cells #[.int .i64 b,.int .i64 O,.int .i64 fn] 75)) al av ab aw n (.slice aE L aG) E.p E.e E.q.tag E.q.last/\zW Y ((Y.alloc (.cells #[.int .i64 b,.int .i64 O,.int .i64 fn] 75)).alloc (.cells #[.int .i64 b,.int .i64 O,.int .i64 fn] 75))):=⟨ao.o.later cv,cv⟩
    have fh:sE (((Y.alloc (.cells #[.int .i64 b,.int .i64 O,.int .i64 fn] 75)).alloc (.cells #[.int .i64 b,.int .i64 O,.int .i64 fn] 75)).ownsRow w.heap.size 75 3 (.slice aE L aG) L (Î E.p)):=Ai cA (λg _ ey=>cv.block g ey);have eh:sE (∀j u,(Î [⟨b,O,fn⟩])[j]? = A u->((Y.alloc (.cells #[.int .i64 b,.int .i64 O,.int .i64 fn] 75)).alloc (.cells #[.int .i64 b,.int .i64 O,.int .i64 fn] 75)).cell? ((⟨Y.heap.size+1,0,sA⟩:Addr).add j)=A u):=World.news_of_block (cs:=#[.int .i64 b,.int .i64 O,.int .i64 fn]) (t:=75) (by have:=ř (Y.alloc (.cells #[.int .i64 b,.int .i64 O,.int .i64 fn] 75)) (.cells #[.int .i64 b,.int .i64 O,.int .i64 fn] 75);simpa using this);have fi:sE (((Y.alloc (.cells #[.int .i64 b,.int .i64 O,.int .i64 fn] 75)).alloc (.cells #[.int .i64 b,.int .i64 O,.int .i64 fn] 75)).cell? ⟨Y.heap.size,2,sA⟩=A (.int .i64 fn)):=jf ba (by simp);have db:sE (w.heap.size<=((Y.alloc (.cells #[.int .i64 b,.int .i64 O,.int .i64 fn] 75)).alloc (.cells #[.int .i64 b,.int .i64 O,.int .i64 fn] 75)).heap.size/\Y.heap.size<((Y.alloc (.cells #[.int .i64 b,.int .i64 O,.int .i64 fn] 75)).alloc (.cells #[.int .i64 b,.int .i64 O,.int .i64 fn] 75)).heap.size):=⟨bc.o.1.d.size,by simp;omega⟩
    have e6:sE (A Y.heap.size≠(Value.slice aE L aG).ownBlock):=λe=>by
     have:=(AC ao.o.E e.symm).2;omega
    have cp:sE (ab<Y.heap.size/\b<n):=⟨ao.o.a.G,bb⟩
    obtain⟨T,bt⟩:=ex (E.q.tag b);have a7:sE (E.q.tag b=T):=bt;have fy:sE (AA E.p b=ss):=aa;subst a4;clear aB a5 am aa eZ d5 bv cY cI c9 b1 cv cA bt b2;go_wp2_with (at_builtin;go_must (refine wpList_append_lies _ J _ _ 42 J w.heap.size 75 ff (.agg #[.int .i64 0,.int .i64 0,.int .i64 0]) 3 24 Tryz.underlying42 eR ew ee ef J (by decide) (.slice aE L aG) L (Î E.p) J fh.o ⟨Y.heap.size+1,0,sA⟩ 1 1 (Î [⟨b,O,fn⟩]) J J eh.o (Kj _) (by decide) (by unfold maxLen;omega) (by omega) db.o.1 _ J ?_;intro dt dV bZ de cc d1 e5;have eb:bZ.cell? ⟨Y.heap.size,2,sA⟩=A (.int .i64 fn):=(cc.cell_far ⟨Y.heap.size,2,sA⟩ db.o.2 e6.o).trans fi.o;have fL:bZ.cell? ⟨ab,b,sA⟩=A (.bool (AA E.p b)):=(cc.cell_far ⟨ab,b,sA⟩ bc.o.1.a.G (λe=>bc.o.1.b.2.2.1 e.symm)).trans (bc.o.1.a.E b cp.o.2);have fK:bZ.frozen? ⟨ab,b,sA⟩=false:=(cc.frozen_far ⟨ab,b,sA⟩ bc.o.1.a.G (λe=>bc.o.1.b.2.2.1 e.symm)).trans (bc.o.1.a.s b);have fz:(bZ.setCell ⟨ab,b,sA⟩ (.bool sy)).cell? ⟨Y.heap.size,2,sA⟩=A (.int .i64 fn):=(sF _ _ _ _ (by intro e;have e':=ť Addr.block e;have:=cp.o.1;simp at e';omega)).trans eb;have dd:sE (Ee w (bZ.setCell ⟨ab,b,sA⟩ (.bool sy)) al av ab aw n (.slice (A ⟨dt,0,sA⟩) (L+1) dV) (E.p++[⟨b,O,fn⟩]) E.e E.q.tag E.q.last):=(by have:=ao.o.j b cp.o.2 (f:=O) (t:=fn) (g':=dt) (cap:=dV) bc.o.2 (by rw[cX.o.1];exact de) cc d1;rwa[cX.o.1]at this);have fp:(bZ.setCell ⟨ab,b,sA⟩ (.bool sy)).cell? ⟨al,b,sA⟩=A (.int .i64 T):=(by have:=dd.o.g.E b cp.o.2;rwa[a7.o]at this);clear de cc d1 e5 eb))
    go_roundg (JD ps ⟨E.p++[⟨(b:Nat),O,fn⟩],fn,E.e,E.q.h b⟩)
    case measure=>exact dz (by simp[cX.o.2]) (by rw[b6.o.2.1,an.o];exact dj)
    case rel=>exact⟨_,aw,J,J,by rw[show(E.q.h b).v=E.q.tag b from J,a7.o],J,e4.o,dd.o⟩
  have eg:sE (Zy per ps V w (.returned (.tuple #[.slice aE L aG,.slice (A ⟨al,0,sA⟩) n n])) dF):=by
   have bs:=cg.o.b (LV I.o.2.2 I.o.2.1 aq);have cW:=cg.o.a;have cQ:=b6.o.2.1;have dU:=an.o;exact⟨_,al,s.p,s.q.tag,by rw[an.o],ce.o.E,by rw[an.o];exact ce.o.g,⟨s,cg.o,by omega,by omega,J,J⟩,ce.o.d⟩
  go_wp2
  go_ret2;exact eg.o
def Z8 (k:Nat)(per:Int)(ps:List Pk)(E:lZ)(w:M)(e:Gu)(w':M):=∃v l,e=.r v/\Dz w' w.heap.size v l/\CX k per ps E l/\zW w w'
def lz{q:Prop}(h:q:=by
 go_wp2
 go_ret;exact⟨v,_,rfl,V.o.1,V.o.2.1,V.o.2.2⟩):q:=h
def ZI (a0:Vl)(E:bA) per(r7:oA) ap(G:lZ)(H:oA) aw ps(w:M)(bb:1<=Ê E.toList)(a8:Bc w r7 G)(a1:Fh (Ê E.toList) G 0)(a5:AL w H ps)(a7:Ar ps)(D:1<=per)(aB:per<=1000)(bd:∃a n c,a0=.s a n c):s8 sr 29 #[.agg #[a0,.st E,.q per,.s r7 G.length ap],.s H ps.length aw] w λe w'=>Z8 (Ê E.toList) per ps G w e w':=by
 obtain⟨a3,a6,a2,rfl⟩:=bd;have a4:=Sa E;have Z:=qZ a5 a8 a7;have aE:=Io a1;have bc:=IX E.toList;obtain⟨k,aW⟩:=ex (Ê E.toList);rw[aW]at a4 aE bb bc;rw[aW];have a9:zW w (w.alloc (.c #[.s a3 a6 a2,.st E,.q per,.s r7 G.length ap] 25)):=ba;obtain⟨ax,aN,sd,aC⟩:=EA w (.s a3 a6 a2) E per (.s r7 G.length ap) 25;have O:=Io a9;obtain⟨se,X,Q,T,R,L,r9,P,K,S⟩:=a4;clear a8 a1 a5 a7 aW a9;rcases(show k=1\/k=2\/k=3\/k=4\/k=5 by omega)with rfl|rfl|rfl|rfl|rfl
 .
  replace se:(E.toList==[102,105,102,111])=true:=se;replace L:(E.toList==sJ ⟨#[102,105,102,111]⟩)=true:=L;replace X:(E.toList==[114,97,110,107])=false:=X;replace r9:(E.toList==sJ ⟨#[114,97,110,107]⟩)=false:=r9;replace Q:(E.toList==[100,117,101])=false:=Q;replace P:(E.toList==sJ ⟨#[100,117,101]⟩)=false:=P;replace T:(E.toList==[114,111,117,110,100])=false:=T;replace K:(E.toList==sJ ⟨#[114,111,117,110,100]⟩)=false:=K;replace R:(E.toList==[102,97,105,114])=false:=R;replace S:(E.toList==sJ ⟨#[102,97,105,114]⟩)=false:=S;have Y:=Io (λW f=>pP H aw ps per W (Z.o.1.d f) Z.o.2.2 D aB);obtain⟨m,U⟩:=ex ps.length;obtain⟨r,I⟩:=ex G.length;rw[U]at Y;rw[I]at ax aN sd aC O;rw[U,I];clear U I;go_in
  go_wp2_with fail;refine(Y.o _ O.o).mono ?_
  rintro e c⟨v,rfl,a,k⟩;have V:sE (Dz c w.z v (Cs per ps ps.length)/\CX 1 per ps G (Cs per ps ps.length)/\zW w c):=⟨BA a O.o.size,.inl ⟨J,J⟩,O.o.tr k⟩
  clear k a;exact lz
 .
  replace se:(E.toList==[102,105,102,111])=false:=se;replace L:(E.toList==sJ ⟨#[102,105,102,111]⟩)=false:=L;replace X:(E.toList==[114,97,110,107])=true:=X;replace r9:(E.toList==sJ ⟨#[114,97,110,107]⟩)=true:=r9;replace Q:(E.toList==[100,117,101])=false:=Q;replace P:(E.toList==sJ ⟨#[100,117,101]⟩)=false:=P;replace T:(E.toList==[114,111,117,110,100])=false:=T;replace K:(E.toList==sJ ⟨#[114,111,117,110,100]⟩)=false:=K;replace R:(E.toList==[102,97,105,114])=false:=R;replace S:(E.toList==sJ ⟨#[102,97,105,114]⟩)=false:=S;have F:sE (Ef 0 100 G):=by
   obtain⟨h,-⟩|⟨-,h⟩|⟨h,-⟩|⟨h,-⟩|⟨h,-⟩:=aE.o
   case inr.inl=>exact h.y
   all_goals omega
  have Y:=Io (λW f=>lU H aw ps per r7 ap G W (Z.o.1.d f) (Z.o.2.1.d f) Z.o.2.2 F.o.len D aB);obtain⟨m,U⟩:=ex ps.length;obtain⟨r,I⟩:=ex G.length;rw[U,I]at Y;rw[I]at ax aN sd aC O;rw[U,I];clear U I;go_in
  go_wp2_with fail;refine(Y.o _ O.o).mono ?_
  rintro e c⟨v,l,rfl,a,n,aI,k⟩;have V:sE (Dz c w.z v (l)/\CX 2 per ps G (l)/\zW w c):=⟨BA a O.o.size,.inr (.inl ⟨J,n,aI⟩),O.o.tr k⟩
  clear k a n aI;exact lz
 .
  replace se:(E.toList==[102,105,102,111])=false:=se;replace L:(E.toList==sJ ⟨#[102,105,102,111]⟩)=false:=L;replace X:(E.toList==[114,97,110,107])=false:=X;replace r9:(E.toList==sJ ⟨#[114,97,110,107]⟩)=false:=r9;replace Q:(E.toList==[100,117,101])=true:=Q;replace P:(E.toList==sJ ⟨#[100,117,101]⟩)=true:=P;replace T:(E.toList==[114,111,117,110,100])=false:=T;replace K:(E.toList==sJ ⟨#[114,111,117,110,100]⟩)=false:=K;replace R:(E.toList==[102,97,105,114])=false:=R;replace S:(E.toList==sJ ⟨#[102,97,105,114]⟩)=false:=S;have F:sE (Ef 0 1099511627776 G):=by
   obtain⟨h,-⟩|⟨h,-⟩|⟨-,h⟩|⟨h,-⟩|⟨h,-⟩:=aE.o
   case inr.inr.inl=>exact h.y
   all_goals omega
  have Y:=Io (λW f=>j5 H aw ps per r7 ap G W (Z.o.1.d f) (Z.o.2.1.d f) Z.o.2.2 F.o D aB);obtain⟨m,U⟩:=ex ps.length;obtain⟨r,I⟩:=ex G.length;rw[U,I]at Y;rw[I]at ax aN sd aC O;rw[U,I];clear U I;go_in
  go_wp2_with fail;refine(Y.o _ O.o).mono ?_
  rintro e c⟨v,l,rfl,a,n,aI,k⟩;have V:sE (Dz c w.z v (l)/\CX 3 per ps G (l)/\zW w c):=⟨BA a O.o.size,.inr (.inr (.inl ⟨J,n,aI⟩)),O.o.tr k⟩
  clear k a n aI;exact lz
 .
  replace se:(E.toList==[102,105,102,111])=false:=se;replace L:(E.toList==sJ ⟨#[102,105,102,111]⟩)=false:=L;replace X:(E.toList==[114,97,110,107])=false:=X;replace r9:(E.toList==sJ ⟨#[114,97,110,107]⟩)=false:=r9;replace Q:(E.toList==[100,117,101])=false:=Q;replace P:(E.toList==sJ ⟨#[100,117,101]⟩)=false:=P;replace T:(E.toList==[114,111,117,110,100])=true:=T;replace K:(E.toList==sJ ⟨#[114,111,117,110,100]⟩)=true:=K;replace R:(E.toList==[102,97,105,114])=false:=R;replace S:(E.toList==sJ ⟨#[102,97,105,114]⟩)=false:=S;have F:sE (Ef 1 3000 G):=by
   obtain⟨h,-⟩|⟨h,-⟩|⟨h,-⟩|⟨-,h⟩|⟨h,-⟩:=aE.o
   case inr.inr.inr.inl=>exact h.y
   all_goals omega
  have Y:=Io (λW f=>pA H aw ps per r7 ap G W (Z.o.1.d f) (Z.o.2.1.d f) Z.o.2.2 D aB F.o);obtain⟨m,U⟩:=ex ps.length;obtain⟨r,I⟩:=ex G.length;rw[U,I]at Y;rw[I]at ax aN sd aC O;rw[U,I];clear U I;go_in
  go_wp2_with fail;refine(Y.o _ O.o).mono ?_
  rintro e c⟨v,l,rfl,a,n,k⟩;have V:sE (Dz c w.z v (l)/\CX 4 per ps G (l)/\zW w c):=⟨BA a O.o.size,.inr (.inr (.inr (.inl ⟨J,n⟩))),O.o.tr k⟩
  clear k a n;exact lz
 replace se:(E.toList==[102,105,102,111])=false:=se;replace L:(E.toList==sJ ⟨#[102,105,102,111]⟩)=false:=L;replace X:(E.toList==[114,97,110,107])=false:=X;replace r9:(E.toList==sJ ⟨#[114,97,110,107]⟩)=false:=r9;replace Q:(E.toList==[100,117,101])=false:=Q;replace P:(E.toList==sJ ⟨#[100,117,101]⟩)=false:=P;replace T:(E.toList==[114,111,117,110,100])=false:=T;replace K:(E.toList==sJ ⟨#[114,111,117,110,100]⟩)=false:=K;replace R:(E.toList==[102,97,105,114])=true:=R;replace S:(E.toList==sJ ⟨#[102,97,105,114]⟩)=true:=S;have F:sE (Ip G):=by
  obtain⟨h,-⟩|⟨h,-⟩|⟨h,-⟩|⟨h,-⟩|⟨-,h⟩:=aE.o
  case inr.inr.inr.inr=>exact h.y
  all_goals omega
 have Y:=Io (λW f=>jb H aw ps per r7 ap G W (Z.o.1.d f) (Z.o.2.1.d f) Z.o.2.2 D aB F.o);obtain⟨m,U⟩:=ex ps.length;obtain⟨r,I⟩:=ex G.length;rw[U,I]at Y;rw[I]at ax aN sd aC O;rw[U,I];clear U I;go_in
 go_wp2_with fail;refine(Y.o _ O.o).mono ?_
 rintro e c⟨v,be,l,f,rfl,a,-,n,k⟩;have V:sE (Dz c w.z v (l)/\CX 5 per ps G (l)/\zW w c):=⟨BA a O.o.size,.inr (.inr (.inr (.inr ⟨J,_,n⟩))),O.o.tr k⟩
 clear k a n;exact lz
def ED (a:Nat->Int)(L:lN)(out:List Pk)
 |0=>a
 |r+1=>A8 (ED a L out r) (L.getD r 0) (Ay out r)
def Va{a L out i}(E:i ∉ L):∀r,r<=L.length->ED a L out r i=a i
 |0,_=>J
 |r+1,G=>by
  have e:L[r]? = A L[r]:=ë N;simp only[ED,List.getD,e,é];rw[Az _ _ (λh=>E (by rw[h];exact Ζ _))];exact Va E r N
def Yo{a L}(O:L.Pairwise (·<·)){out k i}(E:L[k]? = A i):∀r,r<=L.length->k<r->ED a L out r i=Ay out k
 |0,_,h=>absurd h (İ _)
 |r+1,V,h=>by
  have e:L[r]? = A L[r]:=ë N;have I:=Ö ((ë (Ap E)).symm.trans E);simp only[ED,List.getD,e,é];obtain G|G:=nR k r
  . have U:=ŷ.1 O k r (Ap E) N G;rw[I]at U;rw[Az _ _ N];exact Yo O E r N G
  obtain rfl:k=r:=N;rw[I,AX]
structure DJ (w W wr:M)(D n:Nat)(a:Nat->Int):Prop where
 r:Ç (λb=>b=D) W wr
 e:ER wr D n a
 d:zW w W
 l:w.heap.size<=D
section
variable {w W wr wr':tz}{D n:Nat}{a:Nat->Int}
def DJ.g (h:DJ w W wr D n a):zW w wr:=h.d.trans (h.r.d h.d.size λk E=>by rw[E];exact h.l)
def DJ.later (h:DJ w W wr D n a)(E:zW wr wr'):DJ w W wr' D n a:=⟨h.r.G (.e E),h.e.e (E.block D h.e.G) E.size,h.d,h.l⟩
def DJ.K (h:DJ w W wr D n a){k}(E:k<n) x:DJ w W (wr.setCell (C D k) (.q x)).drew D n (A8 a k x):=
 ⟨(Ç.g (S:=λb=>b=D) h.r (p:=(C D k)) J _).drew,(h.e.K E x).e J lr,h.d,h.l⟩
def DJ.E (h:DJ w W wr D n a){b o}{v:Vl}(E:W.cell? (C b o)=A v)(G:b≠D):wr.cell? (C b o)=A v:=by
 rw[h.r.E (p:=(C b o)) (BZ E) G];exact E
def DJ.s (h:DJ w W wr D n a){b o}{v:Vl}(E:W.cell? (C b o)=A v)(G:b≠D):=
 h.r.s (p:=(C b o)) (BZ E) G
end
def ma (c p:Int)(w:M)(e:Gu)(w':M):=e=.r (.t #[.sn,.sn,.agg #[.q c,.q p]])/\zW w w'
section
variable (ca:Option Addr)(cn ccap:Nat)(kb:ByteArray)(per:Int)(na:Option Addr)(nn ncap:Nat)(pa:Option Addr)(n pcap:Nat)(w:tz)(c p:Int)
def WJ (e:0<c)(h:∀W,zW w W->Ë 10 #[.agg #[.s ca cn ccap,.st kb,.q per,.s na nn ncap]] W λe w'=>SY c p W e w'):s8 sr 11 #[.agg #[.s ca cn ccap,.st kb,.q per,.s na nn ncap],.s pa n pcap] w λe w'=>ma c p w e w':=by
 have E:=qX h;have G:zW w ((w.alloc (.c #[.s ca cn ccap,.st kb,.q per,.s na nn ncap] 25)).alloc (.c #[.q 0,.q 0] 39)):=ba.alloc sm _;have Z:(w.alloc (.c #[.s ca cn ccap,.st kb,.q per,.s na nn ncap] 25)).heap.size=w.heap.size+1:=sm;have e:CE ((w.alloc (.c #[.s ca cn ccap,.st kb,.q per,.s na nn ncap] 25)).alloc (.c #[.q 0,.q 0] 39)) w.heap.size (.s ca cn ccap) kb per (.s na nn ncap):=(EA w (.s ca cn ccap) kb per (.s na nn ncap) 25).later ba;have U:ļ ((w.alloc (.c #[.s ca cn ccap,.st kb,.q per,.s na nn ncap] 25)).alloc (.c #[.q 0,.q 0] 39)) (w.heap.size+1) (.q 0) (.q 0):=by
  have:=MP (w.alloc (.c #[.s ca cn ccap,.st kb,.q per,.s na nn ncap] 25)) (.q 0) (.q 0) 39;rwa[Z]at this
 obtain⟨n,I⟩:=ex ((w.alloc (.c #[.s ca cn ccap,.st kb,.q per,.s na nn ncap] 25)).alloc (.c #[.q 0,.q 0] 39));rw[I]at G e U;have I:=qY G U;obtain⟨X,S,W,T⟩:=e;clear h G U Z;go_in
 go_wp2_with fail;refine(E.o _ I.o.1).mono ?_
 rintro e e⟨rfl,E⟩;have O:zW n (e.alloc (.c #[.q c,.q p] 39)):=E.alloc E.size _;have V:=qX (I.o.1.tr O);obtain⟨h,Y,U,R⟩:=I.o.2.later O;obtain⟨n,G,I,Q⟩:=MP e (.q c) (.q p) 39;obtain⟨Z,Z⟩:=ex (e.alloc (.c #[.q c,.q p] 39));rw[Z]at V h Y U R n G;have e:(c==0)=false:=by simpa using (show c≠0 by omega)
 clear E O I Q X S W T;go_wp2
 go_region;go_wp2_with fail;exact Ę (v:=.t #[.sn,.sn,.agg #[.q c,.q p]]) (by simp[results,LO,go_sem,h,Y]) rfl ⟨rfl,ì ((V.o.setCell (p:=(C (w.heap.size+1) 0)) (œ _) _).setCell (p:=(C (w.heap.size+1) 1)) (œ _) _) 1⟩
def Zv (e:0<c)(h:∀W,zW w W->Ë 10 #[.agg #[.s ca cn ccap,.st kb,.q per,.s na nn ncap]] W λe w'=>SY 0 (-1) W e w')(Z:∀W,zW w W->Ë 27 #[.s pa n pcap] W λe w'=>e=.r (.agg #[.q c,.q p])/\zW W w'):s8 sr 11 #[.agg #[.s ca cn ccap,.st kb,.q per,.s na nn ncap],.s pa n pcap] w λe w'=>ma c p w e w':=by
 have E:=qX h;have R:=qX Z;have U:zW w ((w.alloc (.c #[.s ca cn ccap,.st kb,.q per,.s na nn ncap] 25)).alloc (.c #[.q 0,.q 0] 39)):=ba.alloc sm _;have e:(w.alloc (.c #[.s ca cn ccap,.st kb,.q per,.s na nn ncap] 25)).heap.size=w.heap.size+1:=sm;have n:CE ((w.alloc (.c #[.s ca cn ccap,.st kb,.q per,.s na nn ncap] 25)).alloc (.c #[.q 0,.q 0] 39)) w.heap.size (.s ca cn ccap) kb per (.s na nn ncap):=(EA w (.s ca cn ccap) kb per (.s na nn ncap) 25).later ba;have Y:ļ ((w.alloc (.c #[.s ca cn ccap,.st kb,.q per,.s na nn ncap] 25)).alloc (.c #[.q 0,.q 0] 39)) (w.heap.size+1) (.q 0) (.q 0):=by
  have:=MP (w.alloc (.c #[.s ca cn ccap,.st kb,.q per,.s na nn ncap] 25)) (.q 0) (.q 0) 39;rwa[e]at this
 obtain⟨T,G⟩:=ex ((w.alloc (.c #[.s ca cn ccap,.st kb,.q per,.s na nn ncap] 25)).alloc (.c #[.q 0,.q 0] 39));rw[G]at U n Y;have O:=qY U Y;obtain⟨S,I,X,W⟩:=n;clear h Z U Y e;go_in
 go_wp2_with fail;refine(E.o _ O.o.1).mono ?_
 rintro e h⟨rfl,G⟩;have V:zW T (h.alloc (.c #[.q 0,.q (-1)] 39)):=G.alloc G.size _;have E:sE (zW w (h.alloc (.c #[.q 0,.q (-1)] 39))/\ļ (h.alloc (.c #[.q 0,.q (-1)] 39)) (w.heap.size+1) (.q 0) (.q 0)/\ļ (h.alloc (.c #[.q 0,.q (-1)] 39)) h.heap.size (.q 0) (.q (-1))/\w.heap.size+1<h.heap.size):=⟨O.o.1.tr V,O.o.2.later V,MP h _ _ _,rZ (BZ O.o.2.e) G.size⟩
 clear G V S I X W;go_wp2_with fail;refine(R.o _ E.o.1).mono ?_
 rintro e O⟨rfl,I⟩;have Y:=qX (E.o.1.tr I);have e:=E.o.2.1.later I;have n:=E.o.2.2.1.later I;obtain⟨V,W,X,R⟩:=n.Q (.q c) (.q p);obtain⟨G,G,G,G⟩:=n;obtain⟨n,G,S,T⟩:=e.d (Nat.ne_of_gt E.o.2.2.2) (.q c) (.q p);have U:sE (zW w ((O.setCell (C h.heap.size 0) (.q c)).setCell (C h.heap.size 1) (.q p))):=(Y.o.setCell (p:=(C h.heap.size 0)) (by have:=E.o.2.2.2;show w.heap.size<=h.heap.size;omega) _).setCell (p:=(C h.heap.size 1)) (by have:=E.o.2.2.2;show w.heap.size<=h.heap.size;omega) _;obtain⟨E,E⟩:=ex ((O.setCell (C h.heap.size 0) (.q c)).setCell (C h.heap.size 1) (.q p));rw[E]at U n G S T V W;clear I e X R;go_wp2
 go_region;go_wp2_with fail;exact Ę (v:=.t #[.sn,.sn,.agg #[.q c,.q p]]) (by simp[results,LO,go_sem,n,G]) rfl ⟨rfl,ì ((U.o.setCell (p:=(C (w.heap.size+1) 0)) (œ _) _).setCell (p:=(C (w.heap.size+1) 1)) (œ _) _) 1⟩
end
end Go.Proofs.YtaoikkhlnhfkfaaGreatDoor
