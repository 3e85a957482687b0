import Derived.Test.YtaoikkhlnhfkfaaGreatDoorU00
import Derived.BigRegion
import Derived.Test.YtaoikkhlnhfkfaaGreatDoorU11
set_option maxHeartbeats 8000000
set_option maxRecDepth 100000
set_option linter.defProp false
set_option linter.unusedSimpArgs false
set_option linter.unusedVariables false
namespace Go.Proofs.YtaoikkhlnhfkfaaGreatDoor
open Option renaming some->A
open Go renaming madeCells->sC,Calls->s8,maxLen->s7,wpList_append_lies->xl,wpQuiet_nil->zv
open Proofs.Tryz renaming prog->sr,underlying23->ue
open RowKit renaming Hid->sE
open IntKind renaming i64->ua
open Ending renaming returned->xt
open Go.RowKit
def Errs9.s{w:M}{ad}(h:Errs9 w ad):K7 w ad:=⟨h.a,h.k,h.l,h.b⟩
structure FM (w:M)(g n:Nat)(out:List Sn):Prop where
 E:∀i,i<n->w.cell? (C g i)=A (.bool (AA out i))
 s:∀i,w.frozen? (C g i)=false
 G:g<w.heap.size
def RD (w:M) n(t:tI):FM (w.alloc (.c (sC #[.bool false] n) t)) w.heap.size n []:=by
 refine⟨λi E=>?_,λi=>jB w _ _ i,sm⟩;rw[Ŏ _ _ _ _ J];exact NK _ _ _ E
def FM.e{w w' g n out}(h:FM w g n out)(E:w'.heap[g]? = w.heap[g]?)(G:w.heap.size<=w'.heap.size):FM w' g n out:=
 ⟨λi I=>(lB (a:=(C g i)) E).trans (h.E i I),λi=>(ko (a:=(C g i)) E).trans (h.s i),rZ h.G G⟩
def FM.K{w g n out}(h:FM w g n out) b(G:b<n) f t:FM (w.setCell (C g b) (.bool true)) g n (out++[⟨b,f,t⟩]):=by
 refine⟨λi E=>?_,λi=>rj ñ (h.s i),by simp[World.setCell];exact h.G⟩;rw[Dw];by_cases e:b=i
 subst e;rw[ś _ _ _ (h.E b G▸rfl)];simp
 rw[sF _ _ _ _ (by intro e';cases e';exact e J),h.E i E];simp[e]
structure Fw (per:Int)(ps:List Pk)(keys:lZ)(w wr:M)(v:Vl)(g:Nat)(out:List Sn)(t:Int)(f:Nat):Prop where
 b:OY per ps keys out t f
 E:Dz wr w.heap.size v out
 a:FM wr g ps.length out
 apart:v.ownBlock≠A g
 l:w.heap.size<=g
 d:zW w wr
section
variable {per:Int}{ps:List Pk}{keys:List Int}{w wr wr':World}{v:Value}{g:Nat}{out:List Sn}{t:Int}{f:Nat}
def Fw.later (h:Fw per ps keys w wr v g out t f)(E:zW wr wr'):Fw per ps keys w wr' v g out t f:=
 ⟨h.b,Ai h.E (λg _ G=>E.block g G),h.a.e (E.block g h.a.G) E.size,h.apart,h.l,h.d.tr E⟩
def Fw.I (h:Fw per ps keys w wr v g out t f){x g' cap}{w2:M}(T:w2.ownsRow w.heap.size 75 3 (.sl g' 0 (out.length+1) cap) (out.length+1) (Î out++Î [x]))(E:wr.grownBy w2 v.ownBlock)(I:v.ownBlock=A g'\/g'=wr.heap.size) b(ac:b<ps.length)(W:x=⟨b,x.b,x.a⟩) U f'(ai:OY per ps keys (out++[x]) U f'):Fw per ps keys w (w2.setCell (C g b) (.bool true)) (.sl g' 0 (out.length+1) cap) g (out++[x]) U f':=by
 let O:g'≠g:=by
  obtain I|I:=I
  intro e;subst e;exact h.apart I
  have:=h.a.G;omega
 let Y:=h.a.e (E.block g h.a.G (λe=>h.apart e.symm)) E.size;let w:Ç (λk=>v.ownBlock=A k) wr w2:=⟨E.os,E.tape,E.output,E.size,λk G v=>E.block k G (λe=>v e.symm)⟩
 let V:Ç (λk=>k=g) w2 (w2.setCell (C g b) (.bool true)):=Ç.g (S:=λk=>k=g) (Ç.I _ w2) (p:=(C g b)) J _;refine⟨ai,?_,W▸Y.K b ac ..,λe=>O (Ö e),h.l,?_⟩
 unfold Dz;rw[ý,Jj];exact Ai T (λk G Z=>V.block k Z (λe=>O ((Ö G).trans e)))
 exact h.d.trans ((w.d h.d.size λk G=>(AC h.E G).1).trans (V.d (rX h.d.size E.size) λk G=>G▸h.l))
end
def Tryz.u:(sr.info? 4).map (λi=>(i.zero,i.size,i.bytes))=A (A (.bool false),1,1):=kr
def FH (per:Int)(ps:List Pk)(E:lZ)(w:M)(e:Ending)(w':M):=∃v l,e=.r v/\Dz w' w.heap.size v l/\FD per ps E l/\l.length=ps.length/\zW w w'
def np{q:Prop}(h:q:=by
 subst a1;obtain⟨V,U⟩|⟨V,bl,U⟩|⟨V,E,al,a7,ab,cp,⟨ap,U⟩|⟨ap,U⟩⟩:=b9.o
 .
  have Y:=qX U;have aq:decide (aa<=G)=false:=ĕ N;clear U;go_wp2
  go_quiet (fail);go_wp2
  go_roundw
  case rel=>exact⟨k+1,N,by go_num,by rw[Y.o],by rw[aj.o],_,rfl⟩
  case measure=>simp[intOf];omega
 .
  have Y:=qX U;have aq:decide (aa<=G)=true:=ď V;have a0:decide (an<0)=true:=ď bl;clear U;go_wp2
  go_quiet (fail);go_wp2
  go_roundw
  case rel=>exact⟨k+1,N,by go_num,by rw[Y.o],by rw[aj.o],_,rfl⟩
  case measure=>simp[intOf];omega
 .
  have Y:=qX U;subst ab;have aq:decide (aa<=G)=true:=ď V;have a0:decide ((E:Int)<0)=false:=ĕ N;have bv:decide (aw<al)=true:=ď ap;clear U;go_wp2
  go_quiet (fail);go_wp2
  go_roundw
  case rel=>exact⟨k+1,N,by go_num,by rw[Y.o],by rw[aj.o],_,rfl⟩
  case measure=>simp[intOf];omega
 have Y:=qX U;subst ab;have aq:decide (aa<=G)=true:=ď V;have a0:decide ((E:Int)<0)=false:=ĕ N;have bv:decide (aw<al)=false:=ĕ ap;clear U;go_wp2
 go_quiet (fail);go_wp2
 go_roundw
 case rel=>exact⟨k+1,N,by go_num,by rw[Y.o],by rw[aj.o],_,rfl⟩
 case measure=>simp[intOf];omega):q:=h
def Ns (a:oA) cap ps per(bZ:oA) cE(I:lZ)(w:M)(cd:AL w a ps)(bk:Bc w bZ I)(cl:I.length=ps.length)(be:Ar ps)(cV:1<=per)(cJ:per<=1000):s8 sr 94 #[.s a ps.length cap,.q per,.s bZ ps.length cE] w λe w'=>FH per ps I w e w':=by
 have a4:=qY cd be;have bp:=qY bk cl;have cY:=be.j;clear cd bk cl be;obtain⟨n,bb⟩:=ex ps.length;have Z:=qX bb;rw[bb]at cY⊢;have c4:∀w':M,(Instr.makeSlice 163 (.q n) (.q n)).run sr w'=.ok (.sl w'.heap.size 0 n n) (w'.alloc (.c (sC #[.bool false] n) 4)):=λw'=>by
  obtain⟨bm,aN,bh,bK,bs⟩:=ó Tryz.u;have:=Ŭ (P:=sr) w' 163 4 bm (.bool false) Tryz.underlying163 aN bh .i64 .i64 n n N N (by rw[bs];omega) N;simpa[bK,Value.cells]using this
 have cy:sE (Fw per ps I w (w.alloc (.c (sC #[.bool false] n) 4)) (.sn) w.heap.size [] 0 1):=
  ⟨(⟨FD.nil _ _ _,uD _,.inl ⟨J,J⟩,Ā _,sm⟩),Ĉ _ _ _ _,by rw[bb];exact RD w n _,(λh=>by cases h),lr,ba⟩
 obtain⟨bm,aN,bh,bK,bs⟩:=ó Tryz.p;clear bb;go_in
 go_wp2_with fail;obtain⟨g,bj⟩:=ex w.heap.size;have cL:=qX bj;rw[bj];clear bj;go_loopg[7,9] (2*n+1)(λcU v t wr=>∃out G f,cU=2*(n-out.length)+f/\t=.q G/\Fw per ps I w wr v g out G f)
 case atStart=>exact⟨[],0,1,sm,rfl,by have:=cy.o;rwa[cL.o]at this⟩
 case round=>
  obtain⟨out,G,f,rfl,rfl,aC⟩:=hrel;obtain⟨aI,cM⟩:∃W,W=wr:=⟨_,J⟩
  subst cM;have av:=qX aC;have cD:=aC.b.len;have dd:=aC.b.u;have db:=aC.b.g;rw[Z.o]at cD;obtain⟨aE,aG,cg,c5,c0,-,-,-⟩:=aC.E.open;have c3:=qX cg;unfold s7 at c0;clear aC;subst cg;by_cases b5:out.length<n
  .
   go_wp2_with fail;go_loopw[10,11,12] (λb cI i cA=>∃k:Nat,k<=n/\i=.q k/\b=.q (CV (å ps I out G k))/\cI=.q (CV (Dc out k))/\∃q,cA=aI.drewN q)(λ_ _ i _=>n-(intOf i).toNat)
   case atStart=>exact⟨0,uD _,J,J,J,0,J⟩
   case round=>
    obtain⟨k,bk,rfl,rfl,rfl,q,rfl⟩:=hrel;by_cases bc:k<n
    .
     have b7:=av.o.a.E k (by rw[Z.o];exact bc);obtain⟨p,ai,-⟩:=Ao ps k (by rw[Z.o];exact bc);obtain⟨b,off,rfl,-,aB⟩:=a4.o.1.h (by rw[Z.o];omega);obtain⟨ci,cc,rfl,-,b6⟩:=bp.o.1.h (by rw[bp.o.2,Z.o];omega);have cb:sE (∀i,i<n->aI.cell? (C ci (cc+i))=A (.q (I.getD i 0))):=λi aN=>by
      obtain⟨x,ao,-⟩:=Ao I i (by rw[bp.o.2,Z.o];exact aN);rw[kA,ao];exact jf av.o.d (b6 i x ao)
     have a6:=jf av.o.d (aB k p ai).2.2;have cC:=qX (AQ ai);generalize p.a=aa at*;clear aB b6 ai;obtain⟨an,ab⟩:=ex (CV (å ps I out G k));obtain⟨aW,bx⟩:=ex (CV (Dc out k));have a8:=qX ab;have b2:=qX bx;rw[ab,bx];clear ab bx;cases ax:AA out k with
     |true=>
      rw[ax]at b7;have Y:sE (CV (å ps I out G (k+1))=an):=by
       show _=_
       rw[<-a8.o];simp only[å];rw[Æ ax]
      have aj:sE (CV (Dc out (k+1))=aW):=by
       show _=_
       rw[<-b2.o];simp only[Dc];rw[Æ ax]
      clear ax a6;go_wp2
      go_roundw
      case rel=>exact⟨k+1,N,by go_num,by rw[Y.o],by rw[aj.o],_,J⟩
      case measure=>simp[intOf];omega
     |false=>
      rw[ax]at b7;have bf:¬AA out k=true:=by rw[ax];simp
      have cx:sE (å ps I out G (k+1)=if Ay ps k<=G/\(∀b,å ps I out G k=A b->I.getD k 0<I.getD b 0)then A k else å ps I out G k):=by
       show _=_
       rw[å,Ä bf]
      have bg:sE (Dc out (k+1)=match Dc out k with|some f=>A f|none=>A k):=by
       show _=_
       rw[Dc,Ä bf];rfl
      obtain⟨cH,a1⟩:=ex (if aW<0 then(k:Int)else aW);have aj:sE (CV (Dc out (k+1))=cH):=by
       show _=_
       rw[bg.o,<-a1,<-b2.o];cases Dc out k with
       |none=>simp[CV]
       |some f0=>
        have cT:¬CV (A f0)<0:=by simp only[CV];omega
        rw[Ä cT]
      have c7:=cb.o k bc;generalize ct:I.getD k 0=aw at*;have b4:(G<aa/\CV (å ps I out G (k+1))=an)\/(aa<=G/\an<0/\CV (å ps I out G (k+1))=k)\/(aa<=G/\∃(E:Nat)(al:Int),E<n/\an=E/\aI.cell? (C ci (cc+E))=A (.q al)/\((aw<al/\CV (å ps I out G (k+1))=k)\/(¬aw<al/\CV (å ps I out G (k+1))=an))):=by
       rw[cx.o,cC.o];obtain V|V:=j2 G aa
       . refine .inl ⟨V,?_⟩;rw[Ä (λh=>N)];exact a8.o
       cases am:å ps I out G k with
       |none=>
        refine .inr (.inl ⟨V,?_,?_⟩)
        . have:=a8.o;rw[am]at this;rw[<-this];decide
        rw[Æ ⟨V,λb bd=>by cases bd⟩];rfl
       |some E=>
        have ab:an=E:=by
         have:=a8.o;rw[am]at this;exact this.symm
        have de:=(Ry _ _ am).1;refine .inr (.inr ⟨V,E,I.getD E 0,N,ab,cb.o E N,?_⟩);by_cases ao:aw<I.getD E 0
        . exact .inl ⟨ao,by rw[Æ ⟨V,λb bd=>by obtain rfl:=Ö bd;exact ao⟩];rfl⟩
        exact .inr ⟨ao,by rw[Ä (λh=>ao (h.2 E J)),ab];rfl⟩
      have b9:=qX b4;clear b4 ax bf ct;by_cases b':aW<0
      . rw[Æ b']at a1;exact np
      rw[Ä b']at a1;exact np
    obtain rfl:k=n:=N;have bt:sE (Fw per ps I w (aI.drewN q) (.s aE out.length aG) g out G f):=av.o.later (ì br _);obtain⟨W,hW⟩:=ex (aI.drewN q);rw[hW]at bt;rw[hW];have ac:=qX bt;clear hW bt;obtain⟨b,off,rfl,-,aB⟩:=a4.o.1.h (by rw[Z.o];omega);have cm:sE (∀(i:Nat) p,ps[i]? = A p->W.cell? (C b (off+i*3+1))=A (.q p.h)/\W.cell? (C b (off+i*3+2))=A (.q p.a)):=λi p ai=>⟨jf ac.o.d (aB i p ai).2.1,jf ac.o.d (aB i p ai).2.2⟩
    clear aB;cases am:å ps I out G k with
    |none=>
     obtain⟨co,cS,p,a9,ck,b1⟩:=ac.o.b.m a4.o.2 (by rw[Z.o];exact am) (by rw[Z.o];exact b5);rw[Z.o]at a9;have da:=(Vy _ _ a9).1;have a6:=(cm.o cS p ck).2;rw[a9];have cW:sE (Fw per ps I w W (.s aE out.length aG) g out p.a 0):=⟨b1,ac.o.E,ac.o.a,ac.o.apart,ac.o.l,ac.o.d⟩
     have bg:=qX co;show Code.wp _ _ _ _ _
     simp only[CV];generalize p.a=aa at*;clear am a9 ck b1 co;go_wp2
     go_roundg (2*(k-out.length)+0)
     case measure=>have:=bg.o;omega
     case rel=>exact⟨out,aa,0,J,J,cW.o⟩
    |some E=>
     have a7:=(Ry _ _ am).1;obtain⟨p,ai,-⟩:=Ao ps E (by rw[Z.o];exact a7);have a6:=(cm.o E p ai).1;obtain⟨-,-,ce,bw,-,-⟩:=Bw (a4.o.2.d _ _ ai).1;have ca:0<=per*p.h:=Ŗ N N;have ch:per*p.h<=1000*1500:=χ N bw N N;have aL:=ac.o.b.v a4.o.2 cV cJ (by rw[Z.o];exact am) ai (by rw[Z.o];exact b5);obtain⟨y,b8⟩:=ex p.h;obtain⟨m,bq⟩:=ex (per*y);obtain⟨O,a5⟩:=ex (G+m);rw[b8]at a6 ce bw ca ch aL;rw[bq]at ca ch aL;rw[a5]at aL;have c8:ua.wrap (per*y)=m:=by rw[bq];exact Ĵ _ N
     have c1:ua.wrap (G+m)=O:=by rw[<-a5];exact Ĵ _ N
     have cR:=qX aL;have c2:=qX a5;have ak:sE (Fw per ps I w ((W.alloc (.c #[.q E,.q G,.q O] 75)).alloc (.c #[.q E,.q G,.q O] 75)) (.s aE out.length aG) g out G f):=ac.o.later (ba.alloc sm _);have cq:sE (∀j u,(Î [⟨E,G,O⟩])[j]? = A u->((W.alloc (.c #[.q E,.q G,.q O] 75)).alloc (.c #[.q E,.q G,.q O] 75)).cell? (((C (W.heap.size+1) 0):Addr).add j)=A u):=World.news_of_block (cs:=#[.q E,.q G,.q O]) (t:=75) (by have:=ř (W.alloc (.c #[.q E,.q G,.q O] 75)) (.c #[.q E,.q G,.q O] 75);simpa using this);have cX:sE (((W.alloc (.c #[.q E,.q G,.q O] 75)).alloc (.c #[.q E,.q G,.q O] 75)).cell? (C W.heap.size 2)=A (.q O)):=jf ba sm;have b0:sE (w.heap.size<=((W.alloc (.c #[.q E,.q G,.q O] 75)).alloc (.c #[.q E,.q G,.q O] 75)).heap.size/\W.heap.size<((W.alloc (.c #[.q E,.q G,.q O] 75)).alloc (.c #[.q E,.q G,.q O] 75)).heap.size/\((W.alloc (.c #[.q E,.q G,.q O] 75)).alloc (.c #[.q E,.q G,.q O] 75)).heap.size=W.heap.size+2):=⟨ak.o.d.size,by simp;omega,sm⟩
     have cQ:sE (A W.heap.size≠(Value.slice aE out.length aG).ownBlock):=λe=>by
      have:=(AC ac.o.E e.symm).2;omega
     have bn:sE (g<W.heap.size/\E<ps.length):=⟨ac.o.a.G,by rw[Z.o];exact a7⟩
     generalize CV (Dc out k)=aW;rw[show CV (A E)=(E:Int)from J];clear am ai ce bw aL b8 bq a5;go_wp2_with (at_builtin;go_must (refine xl _ J _ _ 42 J w.heap.size 75 bm (.agg #[.q 0,.q 0,.q 0]) 3 24 Tryz.underlying42 aN bh bK bs J dc (.s aE out.length aG) out.length (Î out) J ak.o.E (C (W.heap.size+1) 0) 1 1 (Î [⟨E,G,O⟩]) J J cq.o (Kj _) dc (by unfold s7;omega) N b0.o.1 _ J ?_;intro cG cN a3 b3 a2 cf cP;have cn:a3.cell? (C W.heap.size 2)=A (.q O):=(a2.cell_far (C W.heap.size 2) b0.o.2.1 cQ.o).trans cX.o;have c':a3.cell? (C g E)=A (.bool (AA out E)):=(a2.cell_far (C g E) ak.o.a.G (λe=>ak.o.apart e.symm)).trans (ak.o.a.E E bn.o.2);have c9:a3.frozen? (C g E)=false:=(a2.frozen_far (C g E) ak.o.a.G (λe=>ak.o.apart e.symm)).trans (ak.o.a.s E);have c6:(a3.setCell (C g E) (.bool true)).cell? (C W.heap.size 2)=A (.q O):=(sF _ _ _ _ (by intro e;have e':=ť Addr.block e;have:=bn.o.1;simp at e';omega)).trans cn;have cv:sE (Fw per ps I w (a3.setCell (C g E) (.bool true)) (.sl cG 0 (out.length+1) cN) g (out++[⟨E,G,O⟩]) O 1):=ak.o.I b3 a2 cf E bn.o.2 J O 1 cR.o;clear b3 a2 cf cP cn))
     go_roundg (2*(k-(out.length+1))+1)
     case measure=>omega
     case rel=>exact⟨out++[⟨E,G,O⟩],O,1,sm,J,cv.o⟩
  go_wp2
  go_ret;exact⟨_,out,rfl,av.o.E,av.o.b.b,by have:=Z.o;omega,av.o.d⟩
def Ml{w:M}{B}{v:Vl}{E:lZ}(h:w.ownsRow B 3 1 v E.length (É E)):∃a cap,v=.s a E.length cap/\E.length<=cap/\cap<=s7/\Bc w a E/\(a=none->E=[]/\cap=0):=by
 let U:=h;obtain⟨Z,⟨rfl,G⟩|⟨g,cap,cur,rfl,a,V,Y,O,a,a⟩⟩:=h
 let e:=Ğ.1 G;exact⟨none,0,G▸rfl,N,by simp[s7],.inl e,λ_=>⟨e,J⟩⟩
 refine⟨_,cap,J,Y,O,.inr ⟨g,0,J,ī V,λi x I=>?_⟩,λe=>nf e⟩;rw[Ă,U.cellAt i (oe (ŭ.1 I).1)];exact Jn I
def Jz (w wr:M)(v:Vl)(E:lZ)(k:Nat):=wr.ownsRow w.heap.size 3 1 v k (É (E.take k))/\zW w wr
def Jz.e{w G j:M}{v v':Vl}{E k x}(h:Jz w G v E k)(U:E[k]? = A x) o(O:j.ownsRow w.heap.size 3 1 v' (k+1) (É (E.take k)++É [x]))(I:(G.alloc o).grownBy j v.ownBlock):Jz w j v' E (k+1):=by
 refine⟨?_,(h.2.alloc h.2.size _).grown I (rX h.2.size sm) (λj G=>(AC h.1 G).1)⟩;rw[Δ,U,gT];exact O
def lU (a:oA) cap ps per(e:oA) ncap(ns:lZ)(w:M)(k:AL w a ps)(n:Bc w e ns)(ho:Ar ps)(p:ns.length=8)(h1:1<=per)(h2:per<=1000):s8 sr 47 #[.s a ps.length cap,.q per,.s e ns.length ncap] w λe w'=>FH per ps (BM ps ns) w e w':=by
 have⟨i0,hi,hz0,hz1,hz2⟩:=ó Tryz.b;have T:=qY k ho;have u:=qY n p;have hfew:=ho.j;have HLeast:sE (∀W v,Jz w W v (BM ps ns) ps.length->Ë 94 #[.s a ps.length cap,.q per,v] W λe w'=>FH per ps (BM ps ns) w e w'):=λW v hK=>by
  let ek:(BM ps ns).take ps.length=BM ps ns:=iG (rj Ej lr);let hown:=hK.1;rw[ek,<-Ej ps ns]at hown;obtain⟨ka,kcap,rfl,-,-,hlk,-⟩:=Ml hown;rw[Ej];apply(Ns a cap ps per ka kcap (BM ps ns) W (k.d hK.2) hlk (Ej ..) ho h1 h2).mono
  rintro e w'⟨v,l,rfl,g1,g2,U,g4⟩;exact⟨v,l,J,BA g1 hK.2.size,g2,U,hK.2.tr g4⟩
 clear k n ho;have⟨n,hnn⟩:=ex ps.length;have HNN:=Io hnn;rw[hnn]at hfew HLeast⊢;rw[p];clear hnn p;go_in
 go_wp21;go_loopg[7,8] n (λgk v i wr=>∃k:Nat,gk+k=n/\i=.q k/\Jz w wr v (BM ps ns) k)
 case atStart=>exact⟨0,N,J,Ĉ ..,br⟩
 case round=>
  obtain⟨k,hgk,rfl,hK⟩:=hrel;have HK:=Io hK;clear hK;by_cases hkn:k<n
  .
   obtain⟨p,hpk,-⟩:=Ao ps k (HNN.o▸hkn);have⟨j,hfl,l,hfo⟩:=OM T.o.2 hpk;have⟨du,hdu,hdud⟩:=TW u.o.2 hfl;obtain⟨b2,o2,rfl,-,hc2⟩:=T.o.1.h (oe HNN.o);obtain⟨b3,o3,rfl,-,hc3⟩:=u.o.1.h (oe u.o.2);have e1:wr.cell? (C b2 (o2+k*3))=A (.q j):=l▸jf HK.o.2 (hc2 k _ hpk).1
   have d2:=jf HK.o.2 (hc3 j du hdu);have HX:sE ((BM ps ns)[k]? = A du):=by
    show _=_
    rw[ë (by rw[Ej,HNN.o];exact hkn),<-ä (d:=0),Qz (HNN.o▸hkn),Gi,hfo,hdud]
   let HOw:sE ((wr.alloc (.c #[.q du] 3)).ownsRow w.z 3 1 u7 k (É ((BM ps ns).take k))):=Ai HK.o.1 (λg' _ hg'=>(ba:zW wr _).block g' hg');let HNew:sE (∀j u,(É [du])[j]? = A u->(wr.alloc (.c #[.q du] 3)).cell? (Addr.add (C wr.z 0) j)=A u):=by
    intro j u d;cases j with
    |zero=>simp[É]at d;subst d;simp[Addr.add]
    |succ j=>simp[É]at d
   let HBs:sE (w.z<=(wr.alloc (.c #[.q du] 3)).z):=rX HK.o.2.size sm;clear hc2 hc3 hpk l hfo hdu hdud;go_wp2_with (at_builtin;go_must (refine xl _ J _ _ 23 J w.z 3 i0 (.q 0) 1 8 ue hi hz0 hz1 hz2 J dc u7 k (É ((BM ps ns).take k)) J HOw.o (C wr.z 0) 1 1 (É [du]) J J HNew.o (Ff _) dc ud N HBs.o _ J λg5 cap5 w5 ho5 hg5 hat5 hlt5=>?_;have H5:=Io (HK.o.e HX.o _ ho5 hg5);clear ho5 hg5 hat5 hlt5))
   go_roundg (gk-1)
   case measure=>omega
   case rel=>exact⟨k+1,N,nd,H5.o⟩
  obtain rfl:k=n:=N;let HC:=Io (HLeast.o wr u7 HK.o);go_wp21;apply HC.o.mono
  rintro e w1⟨v,l,rfl,g1,g2,U,g4⟩;have HE:sE (FH per ps (BM ps ns) w (.r v) w1):=⟨v,l,J,g1,g2,U,g4⟩
  clear g1 g2 U g4;go_wp2
  go_ret;exact HE.o
def j5 (a:oA) cap ps per(na:oA) ncap(ns:lZ)(w:M)(k:AL w a ps)(hn:Bc w na ns)(i:Ar ps)(hk8:Ef 0 1099511627776 ns)(h1:1<=per)(h2:per<=1000):s8 sr 48 #[.s a ps.length cap,.q per,.s na ns.length ncap] w λe w'=>FH per ps (Cm ps ns) w e w':=by
 have⟨i0,hi,hz0,hz1,hz2⟩:=ó Tryz.b;have Q:=qY k i;have h8:=hk8.len;have u:=qY hn hk8;have hfew:=i.j;have HLeast:sE (∀W v,Jz w W v (Cm ps ns) ps.length->Ë 94 #[.s a ps.length cap,.q per,v] W λe w'=>FH per ps (Cm ps ns) w e w'):=λW v hK=>by
  let ek:(Cm ps ns).take ps.length=Cm ps ns:=iG (by rw[EL];exact lr);let hown:=hK.1;rw[ek,<-EL ps ns]at hown;obtain⟨ka,kcap,rfl,-,-,hlk,-⟩:=Ml hown;rw[EL];apply(Ns a cap ps per ka kcap (Cm ps ns) W (k.d hK.2) hlk (EL ..) i h1 h2).mono
  rintro e w'⟨v,l,rfl,U,T,R,S⟩;exact⟨v,l,J,BA U hK.2.size,T,R,hK.2.tr S⟩
 clear k hn i hk8;have⟨n,hnn⟩:=ex ps.length;have HNN:=Io hnn;rw[hnn]at hfew HLeast⊢;rw[h8];clear hnn h8;go_in
 go_wp21;go_loopg[7,8] n (λgk v i wr=>∃k:Nat,gk+k=n/\i=.q k/\Jz w wr v (Cm ps ns) k)
 case atStart=>exact⟨0,N,J,Ĉ ..,br⟩
 case round=>
  obtain⟨k,hgk,rfl,hK⟩:=hrel;have HK:=Io hK;clear hK;by_cases hkn:k<n
  .
   obtain⟨p,hpk,-⟩:=Ao ps k (by rw[HNN.o];exact hkn);have⟨fl,hfl,R,hfo⟩:=OM Q.o.2 hpk;have⟨du,hdu,hdud⟩:=TW u.o.2.len hfl;obtain⟨b2,o2,rfl,-,hc2⟩:=Q.o.1.h (by rw[HNN.o];omega);obtain⟨S,o3,rfl,-,hc3⟩:=u.o.1.h (by have:=u.o.2.len;omega);have e1:wr.cell? (C b2 (o2+k*3))=A (.q fl):=R▸jf HK.o.2 (hc2 k _ hpk).1
   have d2:=jf HK.o.2 (hc3 fl du hdu);have⟨tk,htk⟩:=ex p.a;have e3:wr.cell? (C b2 (o2+k*3+2))=A (.q tk):=htk▸jf HK.o.2 (hc2 k _ hpk).2.2
   have hdr:=u.o.2.d fl du hdu;have htr:0<=tk/\tk<=1099511627776:=by have:=Bw (Q.o.2.d _ p hpk).1;omega
   have⟨kv,hkv⟩:=ex (tk+du);have hw:ua.wrap (tk+du)=kv:=hkv▸Ĵ _ N
   have HX:sE ((Cm ps ns)[k]? = A kv):=by
    show _=_
    rw[ë (by rw[EL,HNN.o];exact hkn),<-ä (d:=0),SH (HNN.o▸hkn),Gi,hfo,hdud,AQ hpk,htk,hkv]
   let HOw:sE ((wr.drew.alloc (.c #[.q kv] 3)).ownsRow w.z 3 1 u7 k (É ((Cm ps ns).take k))):=Ai HK.o.1 (λg' _ hg'=>(br.drew.alloc lr _:zW wr (wr.drew.alloc _)).block g' hg');let HNew:sE (∀j u,(É [kv])[j]? = A u->(wr.drew.alloc (.c #[.q kv] 3)).cell? (Addr.add (C wr.z 0) j)=A u):=World.news_of_block (cs:=#[.q kv]) (t:=3) (ř wr.drew _);let HBs:sE (w.z<=(wr.drew.alloc (.c #[.q kv] 3)).z):=rX HK.o.2.size sm;let HKd:sE (Jz w wr.drew u7 (Cm ps ns) k):=⟨Ai HK.o.1 (λg' _ hg'=>J),HK.o.2.drew⟩
   have HCw:sE (w.cell? (C b2 (o2+k*3))=A (.q fl)/\w.cell? (C b2 (o2+k*3+2))=A (.q tk)/\w.cell? (C S (o3+fl))=A (.q du)):=⟨R▸(hc2 k _ hpk).1,htk▸(hc2 k _ hpk).2.2,hc3 fl du hdu⟩
   clear hc2 hc3 hpk R hfo hdu hdud htk hkv;go_wp21;go_region_held_law (λw'=>w'.cell? (C b2 (o2+k*3))=A (.q fl)/\w'.cell? (C b2 (o2+k*3+2))=A (.q tk)/\w'.cell? (C S (o3+fl))=A (.q du))(go_keep)
    (first
     | (refine step_append_lies _ J _ _ 23 J w.z 3 i0 (.q 0) 1 8 ue hi hz0 hz1 hz2 J dc u7 k (É ((Cm ps ns).take k)) J HOw.o (C wr.z 0) 1 1 (É [kv]) J J HNew.o (Ff _) dc (by unfold s7;omega) N HBs.o _ J λg5 cap5 w5 ho5 hg5 hat5 hlt5=>?_;have d:=Io (HKd.o.e HX.o _ ho5 hg5);let y1:=jf d.o.2 HCw.o.1;let y2:=jf d.o.2 HCw.o.2.1;let y3:=jf d.o.2 HCw.o.2.2;clear ho5 hg5 hat5 hlt5)
     |fail)
   all_goals
    go_wp2
    go_roundg (gk-1)
    case measure=>omega
    case rel=>exact⟨k+1,N,by go_num,d.o⟩
  obtain rfl:k=n:=N;let HC:=Io (HLeast.o wr u7 HK.o);go_wp21;apply HC.o.mono
  rintro e w1⟨v,l,rfl,U,T,R,S⟩;have HE:sE (FH per ps (Cm ps ns) w (.r v) w1):=⟨v,l,J,U,T,R,S⟩
  clear U T R S;go_wp2
  go_ret;exact HE.o
def YD (w0:M) b off n cap E(a4:Vl) f(x y m:Nat)(w:M)(h:AY w0 b off n E f w)(be:x+m<=y)(bf:y+m<=n)(bh:n<=1000):s8 sr 170 #[.sl b off n cap,.q (x:Int),.q (y:Int),.q (m:Int),a4] w λe w'=>e=.r (.t #[])/\AY w0 b off n E (Œ f x y m) w':=by
 have av:sE (AY w0 b off n E (Œ f x y 0) w):=by show AY ..;rw[xD];exact h
 clear h;go_in
 go_wp21;go_loopg[10] m (λaI h wr=>∃i:Nat,h=.q (i:Int)/\i<=m/\m-i<=aI/\sE (AY w0 b off n E (Œ f x y i) wr))
 case atStart=>exact⟨0,J,uD _,lr,av⟩
 case round=>
  clear av;obtain⟨i,rfl,a9,bd,H⟩:=hrel;by_cases a5:i<m
  .
   let aE:(i:Int)<(m:Int):=N;have⟨g,aa⟩:=ex (Œ f x y i);let ab:sE (ů g (x+i) (y+i)=Œ f x y (i+1)):=by show _=_;rw[<-aa];exact wK f N
   rw[aa]at H;have⟨p,Q⟩:=ex (x+i);have⟨q,ao⟩:=ex (y+i);rw[Q,ao]at ab;have Y:p<n:=N;have V:q<n:=N;have a6:p≠q:=N;have wp:ua.wrap ((x:Int)+(i:Int))=(p:Int):=ot jQ
   have a8:ua.wrap ((y:Int)+(i:Int))=(q:Int):=ot jQ
   let a7:(p:Int)<(n:Int):=N;let bc:(q:Int)<(n:Int):=N;let P:=H.o.row.e p Y;let S:=H.o.row.a p Y;let R:=H.o.row.k p Y;let ac:=H.o.row.e q V;let Z:=H.o.row.a q V;let ai:=H.o.row.k q V;have r9:=H.o.row.d (off+p*3);have aN:=H.o.row.d (off+p*3+1);have a1:=H.o.row.d (off+p*3+2);have aW:=H.o.row.d (off+q*3);have a0:=H.o.row.d (off+q*3+1);have se:=H.o.row.d (off+q*3+2);let a2:∃aj,sE ((Eh (Eh wr b (off+p*3) (E (g q))) b (off+q*3) (E (g p))).drew=aj)/\sE (AY w0 b off n E (Œ f x y (i+1)) aj):=⟨_,J,by show AY ..;rw[<-ab.o];exact(H.o.l Y V).drew⟩
   have O:(Eh wr b (off+p*3) (E (g q))).cell? (C b (off+q*3))=A (.q (E (g q)).b):=by rw[ET _ _ _ _ N];exact ac
   let I:(Eh wr b (off+p*3) (E (g q))).cell? (C b (off+q*3+1))=A (.q (E (g q)).h):=by rw[ET _ _ _ _ N];exact Z
   let U:(Eh wr b (off+p*3) (E (g q))).cell? (C b (off+q*3+2))=A (.q (E (g q)).a):=by rw[ET _ _ _ _ N];exact ai
   obtain⟨aj,G,y⟩:=a2;unfold Eh at G O I U;have⟨u0,n⟩:=ex ((E (g p)).b);have⟨u1,ak⟩:=ex ((E (g p)).h);have⟨u2,x⟩:=ex ((E (g p)).a);have⟨bj,p⟩:=ex ((E (g q)).b);have⟨bb,al⟩:=ex ((E (g q)).h);have⟨bg,an⟩:=ex ((E (g q)).a);rw[n]at P G;rw[ak]at S G;rw[x]at R G;rw[p]at ac G O I U;rw[al]at Z G O I U;rw[an]at ai G O I U;clear n ak x p al an;clear aa Q ao H ab;go_wp2
   go_region;rw[G.o];clear G P S R ac Z ai r9 aN a1 aW a0 se O I U;go_wp2
   go_roundg (m-(i+1))
   case measure=>omega
   case rel=>exact⟨i+1,nd,N,lr,y⟩
  let aE:¬(i:Int)<(m:Int):=N;obtain rfl:i=m:=N;go_wp2
  go_end0;exact⟨J,H.o⟩
def rR (w0:M) b off n cap Y(aj:Vl) f x m y(w:M)(h:AY w0 b off n Y f w)(e:x<m)(e:m<y)(e:y<=n)(aG:n<=1000):s8 sr 166 #[.sl b off n cap,.q (x:Int),.q (m:Int),.q (y:Int),aj] w λe w'=>e=.r (.t #[])/\AY w0 b off n Y (Ü f x m y) w':=by
 have ac:sE (∀(g:Nat->Nat)(x y m:Nat)(w:M),AY w0 b off n Y g w->x+m<=y->y+m<=n->Ë 170 #[.sl b off n cap,.q (x:Int),.q (y:Int),.q (m:Int),aj] w λe w'=>e=.r (.t #[])/\AY w0 b off n Y (Œ g x y m) w'):=λg x y m w h E G=>YD w0 b off n cap Y aj g x y m w h E G aG
 have ak:=qX h;clear h;go_in
 have an:(m:Int)-(x:Int)=((m-x:Nat):Int):=N;have G:(y:Int)-(m:Int)=((y-m:Nat):Int):=N;go_wp2_with fail;go_loopg[10,11] (y-x)(λav w s wr=>∃(i j:Nat)(g:Nat->Nat),w=.q (i:Int)/\s=.q (j:Int)/\1<=i/\i<=m-x/\1<=j/\j<=y-m/\i+j<=av/\sE (Ü g (m-i) m (m+j)=Ü f x m y)/\sE (AY w0 b off n Y g wr))
 case atStart=>exact⟨m-x,y-m,f,nd,nd,N,N,N,N,N,by show _=_;rw[show m-(m-x)=x by omega,show m+(y-m)=y by omega],ak⟩
 case round=>
  clear ak;obtain⟨i,j,g,rfl,rfl,R,aB,ao,aL,b,V,H⟩:=hrel;have e:(m:Int)-(i:Int)=((m-i:Nat):Int):=N;obtain⟨s,ai⟩:=ex (m-i);rw[ai]at e;have U:=qX ai;clear ai an G;obtain b|S|b:=θ i j
  .
   have Q:((i:Int)==(j:Int))=false:=by simp;omega
   have T:¬(j:Int)<(i:Int):=N;obtain⟨q,al⟩:=ex (m+j-i);have b:(m:Int)+(j:Int)-(i:Int)=(q:Int):=N;have I:=ac.o g s q i wr H.o (by have:=U.o;omega) N;have O:=qX I;have aa:sE (Ü (Œ g s q i) s m (m+(j - i))=Ü f x m y):=by show _=_;rw[<-V.o,<-al,<-U.o];exact (by
     funext k
     simp only[Ü,Œ];by_cases E:m-i<=k/\k<m-i+(m+(j-i))-m
     rw[Æ E,Ä N,Ä N,Æ N]
     rw[Ä E];by_cases G:m-i+(m+(j-i))-m<=k/\k<m+(j-i)
     .
      rw[Æ G,Æ N,Æ N]
      congr 1;omega
     rw[Ä G];by_cases ab:m+j-i<=k/\k<m+j
     .
      rw[Ä N,Æ N,Ä N,Æ N]
      congr 1;omega
     rw[Ä N,Ä N,Ä N,Ä N])
   clear I al V H;go_wp2_with fail;refine O.o.mono ?_
   rintro e w1⟨rfl,E⟩;have Z:=qX E;clear E O;go_wp2
   go_roundg (i+(j-i))
   case measure=>omega
   case rel=>exact⟨i,j-i,_,J,nd,R,aB,N,N,lr,by show _=_;rw[U.o];exact aa.o,Z⟩
  .
   subst S;have I:=ac.o g s m i wr H.o (by have:=U.o;omega) N;have O:=qX I;have aa:sE (Œ g s m i=Ü f x m y):=by show _=_;rw[<-V.o,<-U.o];exact (by
     funext k
     simp only[Ü,Œ];by_cases E:m-i<=k/\k<m-i+i
     rw[Æ E,Æ N]
     by_cases G:m<=k/\k<m+i
     .
      rw[Ä E,Æ G,Ä N,Æ N]
      congr 1;omega
     rw[Ä E,Ä G,Ä N,Ä N])
   clear I V H;go_wp2_with fail;refine O.o.mono ?_
   rintro e w1⟨rfl,E⟩;rw[aa.o]at E;have Z:=qX E;clear E O;go_wp2
   go_end0;exact⟨J,Z.o⟩
  let Q:((i:Int)==(j:Int))=false:=by simp;omega
  let T:(j:Int)<(i:Int):=N;let I:=ac.o g s m j wr H.o (by have:=U.o;omega) N;have O:=qX I;have aa:sE (Ü (Œ g s m j) (m - (i - j)) m (m+j)=Ü f x m y):=by show _=_;rw[<-V.o,<-U.o];exact (by
    funext k
    simp only[Ü,Œ];by_cases E:m-i<=k/\k<m-i+j
    rw[Ä N,Ä N,Æ E,Æ N]
    by_cases G:m-(i-j)<=k/\k<m-(i-j)+(m+j)-m
    .
     rw[Æ G,Ä N,Æ N,Ä N,Æ N]
     congr 1;omega
    rw[Ä G];by_cases ab:m-(i-j)+(m+j)-m<=k/\k<m+j
    rw[Æ ab,Ä N,Ä N,Ä N,Æ N]
    rw[Ä ab,Ä N,Ä N,Ä N,Ä N])
  clear I V H;go_wp2_with fail;refine O.o.mono ?_
  rintro e w1⟨rfl,E⟩;have Z:=qX E;clear E O;go_wp2
  go_roundg (i-j+j)
  case measure=>omega
  case rel=>exact⟨i-j,j,_,nd,J,N,N,ao,aL,lr,aa,Z⟩
def Lx (a b:Int):=if a<b then -1 else if b<a then 1 else 0
def TK{a b}:Lx a b<0↔a<b:=by unfold Lx;split;omega;split<;>omega
def Tryz.j (args:Array Vl)(W:M):Sem.run sr (callFunc 91 args) W=.ok (.enter 91 args) W:=kr
def Lg (p q:Pk)(w:M):s8 sr 91 #[.agg #[.q p.b,.q p.h,.q p.a],.agg #[.q q.b,.q q.h,.q q.a]] w λe w'=>e=.r (.q (Lx p.a q.a))/\zW w w':=by
 obtain⟨U,O,E⟩:=p;obtain⟨Y,p,G⟩:=q;have I:sE (∀W:M,s8 sr 92 #[.q E,.q G] W λe w'=>e=.r (.q (Lx E G))/\w'=W):=λW=>by
   by_cases V:E<G
   .
    have I:sE (Lx E G= -1):=by show _=_;unfold Lx;rw[Æ V]
    go_in
    go_wp2
    go_ret;exact⟨ť (λz=>xt (.q z)) I.o.symm,J⟩
   by_cases Z:G<E
   .
    have I:sE (Lx E G=1):=by show _=_;unfold Lx;rw[Ä V,Æ Z]
    go_in
    go_wp2
    go_ret;exact⟨ť (λz=>xt (.q z)) I.o.symm,J⟩
   have I:sE (Lx E G=0):=by show _=_;unfold Lx;rw[Ä V,Ä Z]
   go_in
   go_wp2
   go_ret;exact⟨ť (λz=>xt (.q z)) I.o.symm,J⟩
 have e:zW w (w.alloc (.c #[.q U,.q O,.q E] 68)):=ba;have q:sE (zW w ((w.alloc (.c #[.q U,.q O,.q E] 68)).alloc (.c #[.q Y,.q p,.q G] 68))):=e.alloc e.size _;show s8 sr 91 #[.agg #[.q U,.int _ O,.int _ E],.agg #[.int _ Y,.int _ p,.int _ G]] w λe w'=>e=.r (.int _ _)/\Below _ w w'
 go_in
 go_wp2_with fail;apply(I.o _).mono;rintro e e⟨rfl,rfl⟩;go_wp2
 go_ret;exact⟨J,q.o⟩
def Av (E:Nat->Pk)(x:Nat):=(E x).a
def ZY (w0:M) b off n cap pk f x y(w:M)(h:AY w0 b off n pk f w)(hxy:x<=y)(hy:y<=n)(hn:n<=1000)(hnum:∀i j,x<=i->i<j->j<y->f i<f j):s8 sr 156 #[.sl b off n cap,.q (x:Int),.q (y:Int),.func (.func 91) #[] #[]] w λe w'=>e=.r (.t #[])/\∃g,Ñ (Av pk) f g x y/\AY w0 b off n pk g w':=by
 have e:=qX h;have HN:=qX hnum;have hcall:=Tryz.j;clear h hnum;go_in
 go_wp2_with fail;go_loopg[8] (y-x)(λgk iv wr=>∃(i:Nat)(g:Nat->Nat),iv=.q (i:Int)/\x<i/\(i<=y\/g=f/\i=x+1)/\y-i<=gk/\sE (Ñ (Av pk) f g x i)/\sE (AY w0 b off n pk g wr))
 case atStart=>exact⟨x+1,f,by go_num,N,.inr ⟨J,J⟩,N,⟨JL.I _ _ _,λi j se L h3=>N⟩,e⟩
 case round=>
  clear e;obtain⟨i,g,rfl,hxi,hiy,hgk,Q,H⟩:=hrel;by_cases hlt:i<y
  .
   have hltz:(i:Int)<(y:Int):=N;have HL:sE (õ g x i (i+1)):=λk l se L h3 h4=>by
    obtain rfl:l=i:=N;rw[Q.o.1.p l N];obtain⟨k',k1,k2,k3⟩:=Q.o.1.l k se L;rw[k3];exact HN.o k' l k1 k2 hlt
   clear hiy;go_wp2_with fail;obtain⟨W0,hW0⟩:∃W,W=wr:=⟨_,J⟩
   subst hW0;obtain⟨gO,hgO⟩:∃z,z=gk:=⟨_,J⟩
   subst hgO;go_loopg[9] i (λgk2 jv wr=>∃p:Nat,jv=.q (p:Int)/\x<=p/\p<=i/\p<=gk2/\sE (p=i\/Av pk (g i)<Av pk (g p))/\sE (AY w0 b off n pk (Ü g p i (i+1)) wr))
   case atStart=>exact⟨i,J,N,lr,lr,.inl J,by show AY _ _ _ _ _ _ _;rw[Yq];exact H.o⟩
   case round=>
    obtain⟨p,rfl,hxp,hpi,hgk2,HHi,H'⟩:=hrel;clear H;have OUT:sE ((p=x\/Av pk (g (p-1))<=Av pk (g i))->Ñ (Av pk) f (Ü g p i (i+1)) x (i+1)):=λhlo=>by
     have hm:=nC hxp hpi Q.o.2 HL.o hlo HHi.o;exact⟨(Q.o.1.q lr N).G hm.1,hm.2⟩
    have r9:sE (Ü g p i (i+1) p=g i):=by show Ü _ _ _ _ _=_;simp only[Ü];rw[Æ N];congr 1;omega
    by_cases hxp':x<p
    .
     have hxz:(x:Int)<(p:Int):=N;have hxd:decide ((x:Int)<(p:Int))=true:=by simpa using hxz
     obtain⟨q,hq⟩:=ex (p-1);have P:sE (p=q+1):=by show _=_;omega
     have O:sE (Ü g p i (i+1) q=g q):=by show Ü _ _ _ _ _=_;simp only[Ü];rw[Ä N,Ä N]
     have U:sE (ů (Ü g p i (i+1)) p q=Ü g q i (i+1)):=by show _=_;rw[P.o];exact bu g N
     rw[hq]at OUT;obtain⟨k,e⟩:=ex (Ü g p i (i+1));rw[e]at H' r9 O U OUT;have hpn:p<n:=N;have hqn:q<n:=N;have hpq:p≠q:=N;have wq:ua.wrap ((p:Int)-1)=(q:Int):=by rw[jQ];omega
     have wq':(p:Int)-1=(q:Int):=N;clear e hq;have a0:=H'.o.row.e p hpn;have a1:=H'.o.row.a p hpn;have a2:=H'.o.row.k p hpn;have b0:=H'.o.row.e q hqn;have b1:=H'.o.row.a q hqn;have b2:=H'.o.row.k q hqn;have hpz:(p:Int)<(n:Int):=N;have hqz:(q:Int)<(n:Int):=N;have HC:sE (∀l:Ï wr,Ë 91 #[.agg #[.q (pk (k p)).b,.q (pk (k p)).h,.q (pk (k p)).a],.agg #[.q (pk (k q)).b,.q (pk (k q)).h,.q (pk (k q)).a]] l.w λe w'=>e=.r (.q (Lx (pk (k p)).a (pk (k q)).a))/\∃l':Ï wr,w'=l'.w):=Ï.j λW _=>Lg _ _ W
     obtain⟨r,e⟩:=ex (Lx (pk (k p)).a (pk (k q)).a);have hrl:r<0↔(pk (k p)).a<(pk (k q)).a:=by rw[<-e];exact TK
     have HRL:=qX hrl;rw[e]at HC;generalize (pk (k p)).b=u0 at a0 HC;generalize (pk (k p)).h=u1 at a1 HC;generalize (pk (k p)).a=u2 at a2 HC;generalize (pk (k q)).b=v0 at b0 HC;generalize (pk (k q)).h=v1 at b1 HC;generalize (pk (k q)).a=v2 at b2 HC;have y0:=λl:Ï wr=>l.E a0
     have r7:=λl:Ï wr=>l.E a1
     have y2:=λl:Ï wr=>l.E a2
     have y3:=λl:Ï wr=>l.E b0
     have L:=λl:Ï wr=>l.E b1
     have K:=λl:Ï wr=>l.E b2
     have hne:Nonempty (Ï wr):=⟨⟨wr,br⟩⟩
     clear e hrl a0 a1 a2 b0 b1 b2;by_cases hless:r<0
     .
      have hlt2:=HRL.o.1 hless;rw[r9.out,O.out]at hlt2;have HT:=qX hlt2;have se:decide (r<0)=true:=by simpa using hless
      clear hlt2 HRL;go_wp2_with fail;refine Dh kr kr ?_
      repeat (go_big_quiet_step (exact HC.o _))
      refine zv ?_
      rintro _⟨gq,rfl⟩;have H1:=qX (H'.o.later gq.a);generalize gq.w=W1 at H1⊢;clear HC y0 r7 y2 y3 L K hne gq;clear hless se hxd;have hpz:(p:Int)<(n:Int):=N;have hqz:(q:Int)<(n:Int):=N;have a0:=H1.o.row.e p hpn;have a1:=H1.o.row.a p hpn;have a2:=H1.o.row.k p hpn;have b0:=H1.o.row.e q hqn;have b1:=H1.o.row.a q hqn;have b2:=H1.o.row.k q hqn;have f0:=H1.o.row.d (off+p*3);have f1:=H1.o.row.d (off+p*3+1);have f2:=H1.o.row.d (off+p*3+2);have g0:=H1.o.row.d (off+q*3);have g1:=H1.o.row.d (off+q*3+1);have g2:=H1.o.row.d (off+q*3+2);have H2:∃V,sE ((Eh (Eh W1 b (off+p*3) (pk (k q))) b (off+q*3) (pk (k p))).drew=V)/\sE (AY w0 b off n pk (Ü g q i (i+1)) V):=⟨_,J,by show AY _ _ _ _ _ _ _;rw[<-U.o];exact(H1.o.l hpn hqn).drew⟩
      have l:(Eh W1 b (off+p*3) (pk (k q))).cell? (C b (off+q*3))=A (.q (pk (k q)).b):=by rw[ET _ _ _ _ N];exact b0
      have k1:(Eh W1 b (off+p*3) (pk (k q))).cell? (C b (off+q*3+1))=A (.q (pk (k q)).h):=by rw[ET _ _ _ _ N];exact b1
      have k2:(Eh W1 b (off+p*3) (pk (k q))).cell? (C b (off+q*3+2))=A (.q (pk (k q)).a):=by rw[ET _ _ _ _ N];exact b2
      obtain⟨V,HV,HVS⟩:=H2;unfold Eh at HV l k1 k2;obtain⟨u0,hu0⟩:=ex ((pk (k p)).b);obtain⟨u1,hu1⟩:=ex ((pk (k p)).h);obtain⟨u2,hu2⟩:=ex ((pk (k p)).a);obtain⟨v0,hv0⟩:=ex ((pk (k q)).b);obtain⟨v1,hv1⟩:=ex ((pk (k q)).h);obtain⟨v2,hv2⟩:=ex ((pk (k q)).a);rw[hu0]at a0 HV;rw[hu1]at a1 HV;rw[hu2]at a2 HV;rw[hv0]at b0 HV l k1 k2;rw[hv1]at b1 HV l k1 k2;rw[hv2]at b2 HV l k1 k2;clear hu0 hu1 hu2 hv0 hv1 hv2;clear H1;go_wp2
      go_region;rw[HV.o];clear HV a0 a1 a2 b0 b1 b2 f0 f1 f2 g0 g1 g2 l k1 k2;go_wp2
      go_roundg q
      case measure=>have:=P.o;omega
      case rel=>exact⟨q,by go_num,by have:=P.o;omega,by have:=P.o;omega,lr,.inr HT.o,HVS⟩
     have hge:¬(pk (k p)).a<(pk (k q)).a:=λh=>hless (HRL.o.2 h)
     rw[r9.out,O.out]at hge;have HM2:sE (Ñ (Av pk) f k x (i+1)):=OUT.out (.inr (by unfold Av;omega));have se:decide (r<0)=false:=by simpa using hless
     clear hge HRL;go_wp2_with fail;refine Dh kr kr ?_
     repeat (go_big_quiet_step (exact HC.o _))
     refine zv ?_
     rintro _⟨gq,rfl⟩;have H1:=qX (H'.o.later gq.a);generalize gq.w=W1 at H1⊢;clear HC y0 r7 y2 y3 L K hne gq;clear hless se hxd;go_wp2
     go_roundg (y-(i+1))
     case measure=>omega
     case rel=>exact⟨i+1,k,by go_num,N,.inl N,lr,HM2,H1⟩
    have hxz:¬(x:Int)<(p:Int):=N;have hxd:decide ((x:Int)<(p:Int))=false:=by simpa using hxz
    have HM2:sE (Ñ (Av pk) f (Ü g p i (i+1)) x (i+1)):=OUT.out (.inl N);have hne:Nonempty (Ï wr):=⟨⟨wr,br⟩⟩
    go_wp2_with fail;refine Dh kr kr ?_
    repeat (go_big_quiet_step (fail))
    refine zv ?_
    rintro _⟨gq,rfl⟩;have H1:=qX (H'.o.later gq.a);generalize gq.w=W1 at H1⊢;clear hne gq;go_wp2
    go_roundg (y-(i+1))
    case measure=>omega
    case rel=>exact⟨i+1,_,by go_num,N,.inl N,lr,HM2,H1⟩
  have hltz:¬(i:Int)<(y:Int):=N;have HM2:sE (Ñ (Av pk) f g x y):=by
   obtain h|h:=hiy
   obtain rfl:i=y:=N;exact Q.o
   rw[h.1];have:=h.2;exact⟨JL.I _ _ _,λk l se L h3=>N⟩
  go_wp2
  go_end0;exact⟨J,g,HM2.o,H.o⟩
end Go.Proofs.YtaoikkhlnhfkfaaGreatDoor
