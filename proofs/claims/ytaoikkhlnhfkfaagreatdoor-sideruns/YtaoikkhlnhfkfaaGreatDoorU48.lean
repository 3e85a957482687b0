/- Proved: for every gate, every list of lists of packets and every number of workers, the call of floodgatelaw3.SideRuns returns true (side.Runs, many plays side by side with goroutines, answers as one play after the other), and each argument reads afterwards as it read before. Conditions: the row's own (the listed variables hold what the initialisers leave; the arguments lie in memory and are of the sizes that it lets). -/
import Derived.Test.YtaoikkhlnhfkfaaGreatDoorU00
import Derived.Test.YtaoikkhlnhfkfaaGreatDoorU47
import Derived.Test.YtaoikkhlnhfkfaaGreatDoorU36
import Derived.SizedLaws
import Derived.Test.YtaoikkhlnhfkfaaGreatDoorCards
import Derived.Conc.Holds
set_option maxRecDepth 100000
set_option linter.defProp false
set_option linter.unusedSimpArgs false
set_option linter.unusedVariables false
namespace Go.Proofs.YtaoikkhlnhfkfaaGreatDoor
open Go renaming maxLen->s7,World->tz,Value->xn,reachBytes->L2,trodAll_cons_mk->Gp
open Option renaming some->A,none->sA
open Bool renaming true->sy,false->ss
open Proofs.Tryz renaming prog->sr,f3->ti,func3->xT,underlying3->ur,underlying25->IU,underlying29->vE,underlying26->CM,checked->GJ
open Code renaming wp_mono->tL
open DataW renaming trod->yW,weightsAll->I0,weights->LR,trod_lt->FA
open Addr renaming add->CN
open Go.Conc Go.RowKit
open Go.ConcR (WgAt)
structure o6 (s0:Nat)(w:M)(g:Cn)(xs:List Vl):Prop where
 a:QB w s0 (.s g.i g.d.length g.b) g.d xs
 e:g.d.length<=g.b
 h:g.b<=s7
 j:Bc w g.g g.h
 d:∀x,g.g=A x->s0<=x.block/\Ju w 3 (.s g.g g.h.length g.a)
 i:g.h.length<=g.a
 k:g.a<=s7
 b:g.g=sA->g.h=[]/\g.a=0
 l:WQ g.d g.h
section
variable {H:Nat->Prop}{s0 n cap:Nat}{w:tz}{ad:Nat->Addr}{la:Option Addr}{g:Cn}{xs ys:List xn}{pss:List (List Pk)}
def oI (o:Qw s0 w ad)(r:DF H w)(c:∀b,H b->s0<=b)(W:o6 s0 w g xs)(D:Ho w s0 (.s la n cap) pss ys)(f:pss.length=n):Y4 H (rE (UK (.s la n cap) (.s g.i g.d.length g.b) (.s g.g g.h.length g.a) xs ys) ad) (tE s0 (UK (.s la n cap) (.s g.i g.d.length g.b) (.s g.g g.h.length g.a) xs ys)) ad n cap la g (λi=>Ŧ (ys.getD i uu)) (λi=>Ν (ys.getD i uu)) (λi=>pss.getD i []) w:=by
 obtain⟨T,a⟩:∃T,T=UK (.s la n cap) (.s g.i g.d.length g.b) (.s g.g g.h.length g.a) xs ys:=⟨_,J⟩
 have Q:∀p,p∈T ↔ Ž 1 (.s la n cap)=A p\/Ž 1 (.s g.i g.d.length g.b)=A p\/Ž 1 (.s g.g g.h.length g.a)=A p\/(∃x∈xs,Ž 2 x=A p)\/∃y∈ys,Ž 3 y=A p:=λp=>by rw[a];exact (by
   simp[UK,Option.mem_toList])
 rw[<-a];clear a;have r8:∀x,Ep x=sy->x<s0:=λx G=>rZ (TS G) o.toW.e
 have hrun:∀x,E9 x=sy->x=sr.globals.size\/Ep x=true:=λx G=>by
  simp only[E9,ł,Ł]at G;obtain(G|G)|G:=G
  . exact .inl (G.trans kr)
  . exact .inr (by rw[G];decide)
  right
  simp only[Ep,CY,ł];exact .inr G
 have a:xs.length=g.d.length:=by have:=W.a.row.1;simpa using this
 have a:ys.length=n:=by have:=D.row.1;rw[<-f];simpa using this
 have sd:∀b,b<s0->¬H b:=λb I G=>by
  have:=c b G;omega
 have b':∀b c t,w.heap[b]? = A (.c c t (0,0))->t≠98->¬H b:=λb c t E O I=>by
  obtain⟨a,c,G⟩:=r b I;have G:w.heap[b]? = A (.c #[.int .u64 a,.int .u32 c] 98 (0,0)):=G;rw[E]at G;injection G with G
  injection G with _ G _
  exact O G
 -- each of the curves
 have I:∀x∈xs,∃S,(∃i:Nat,g.d[i]? = A S/\xs[i]? = A x)/\∃a V,x=.s a S.length V/\Cr w a S/\∀p,a=A p->s0<=p.block/\p=⟨p.block,0,sA⟩/\∃cur,w.heap[p.block]? = A (.c cur 51 (0,0)):=λx G=>by
  obtain⟨i,H⟩:=υ.1 G;obtain⟨S,a,-⟩:=Ao g.d i (by have:=Ap H;omega);obtain⟨a',V,Y,X,-,-,-,r7⟩:=W.a.d i S a;rw[H]at Y;cases Y
  refine⟨S,⟨i,a,H⟩,a',V,J,X,λp c=>?_⟩;subst c;obtain⟨h,cur,b⟩:=W.a.b i _ H p _ _ J;exact⟨(r7 p J).1,h,cur,b⟩
 -- each list of packets
 have B:∀i,i<n->∃a V,ys[i]? = A (.s a (pss.getD i []).length V)/\CF w s0 (.s a (pss.getD i []).length V) (pss.getD i []):=λi H=>by
  obtain⟨u,a,-⟩:=Ao pss i N;obtain⟨x,Y,X,-⟩:=D.d i u a;have e:pss.getD i []=u:=by simp[kA,a]
  obtain⟨a',V,rfl,-⟩:=X.open;rw[e];exact⟨a',V,Y,X⟩
 have v:∀y∈ys,∃u a V,y=.s a u.length V/\AL w a u/\∀p,a=A p->s0<=p.block/\p=⟨p.block,0,sA⟩/\∃cur,w.heap[p.block]? = A (.c cur 68 (0,0)):=λy r9=>by
  obtain⟨i,H⟩:=υ.1 r9;obtain⟨a',V,Y,X⟩:=B i (by have:=Ap H;omega);rw[H]at Y;cases Y
  obtain⟨b0,d,L,-,-,F,K,-⟩:=X.open;cases L
  refine⟨_,a',V,J,F,λp c=>?_⟩;subst c;obtain⟨h,cur,b⟩:=OL X p _ _ J;exact⟨K p J,h,cur,b⟩
 -- the two lists,and the numbers
 have l:∀p,la=A p->s0<=p.block/\p=⟨p.block,0,sA⟩/\∃cur,w.heap[p.block]? = A (.c cur 29 (0,0))/\cur.toList.take n=ys:=λp c=>by
  subst c;obtain⟨-,⟨E,-⟩|⟨b,V,cur,E,O,U,-,-,-,P⟩⟩:=D.row
  . cases E
  cases E
  exact⟨O,J,cur,U,by rw[<-f];simpa using P⟩
 have s:∀p,g.i=A p->s0<=p.block/\p=⟨p.block,0,sA⟩/\∃cur,w.heap[p.block]? = A (.c cur 52 (0,0))/\cur.toList.take g.d.length=xs:=λp c=>by
  obtain⟨-,⟨E,-⟩|⟨b,V,cur,E,O,U,-,-,-,P⟩⟩:=W.a.row
  . rw[c]at E;cases E
  rw[c]at E;cases E
  exact⟨O,J,cur,U,by simpa using P⟩
 have f:∀p,g.g=A p->s0<=p.block/\p=⟨p.block,0,sA⟩/\∃cur,w.heap[p.block]? = A (.c cur 3 (0,0)):=λp c=>by
  obtain⟨E,O⟩:=W.d p c;rw[c]at O;obtain⟨U,cur,P⟩:=O p _ _ J;exact⟨E,U,cur,P⟩
 -- an entry:a row,and what is known of its beginning
 have F:∀b c,(b,c)∈T->s0<=b/\∃cur t,w.heap[b]? = A (.c cur t (0,0))/\t≠98/\∀(j:Nat) z,j<c->cur[j]? = A z->VR (Ė JF) (Ô.j (rE T ad)) z z:=λb c i=>by
  rcases(Q (b,c)).1 i with h|h|h|⟨x,G,h⟩|⟨y,r9,h⟩
  .
   obtain⟨p,m,k,e,rfl,rfl⟩:=LK h;cases e
   obtain⟨E,-,cur,O,U⟩:=l p J;refine⟨E,cur,_,O,dc,λj z a c=>?_⟩;have a:ys[j]? = A z:=by
    rw[<-U,ψ,Æ N];simpa using c
   obtain⟨u,a',V,rfl,-,se⟩:=v z (ĵ a);refine Kz λq b=>.inr (.inr ⟨u.length*3,(Q _).2 (.inr (.inr (.inr (.inr ⟨_,ĵ a,by rw[b];rfl⟩))))⟩)
  .
   obtain⟨p,m,k,e,rfl,rfl⟩:=LK h;injection e with Y X L
   obtain⟨E,-,cur,O,U⟩:=s p Y;refine⟨E,cur,_,O,dc,λj z a c=>?_⟩;have a:xs[j]? = A z:=by
    rw[<-U,ψ,Æ N];simpa using c
   obtain⟨S,-,a',V,rfl,-,se⟩:=I z (ĵ a);refine Kz λq b=>.inr (.inr ⟨S.length*2,(Q _).2 (.inr (.inr (.inr (.inl ⟨_,ĵ a,by rw[b];rfl⟩))))⟩)
  .
   obtain⟨p,m,k,e,rfl,rfl⟩:=LK h;injection e with Y X L
   obtain⟨E,O,cur,U⟩:=f p Y;refine⟨E,cur,_,U,dc,λj z a c=>?_⟩;have R:=W.j;rw[Y,O]at R;obtain⟨q,b⟩:=qJ R (j:=j) N;rw[ND U,c]at b;cases b
   exact VR.int _ _
  .
   obtain⟨p,m,k,rfl,rfl,rfl⟩:=LK h;obtain⟨S,-,a',V,e,R,se⟩:=I _ G;cases e
   obtain⟨E,O,cur,U⟩:=se p J;refine⟨E,cur,_,U,dc,λj z a c=>?_⟩;rw[O]at R;obtain⟨q,b⟩:=xS R (j:=j) a;rw[ND U,c]at b;cases b
   exact VR.int _ _
  obtain⟨p,m,k,rfl,rfl,rfl⟩:=LK h;obtain⟨u,a',V,e,R,se⟩:=v _ r9;cases e
  obtain⟨E,O,cur,U⟩:=se p J;refine⟨E,cur,_,U,dc,λj z a c=>?_⟩;rw[O]at R;obtain⟨q,b⟩:=p9 R (j:=j) a;rw[ND U,c]at b;cases b
  exact VR.int _ _
 have d:∀x,Ep x=sy->tE s0 T x=1:=λx G=>by
  unfold tE;rw[Æ (r8 x G),Æ G]
 have z:∀b c,(b,c)∈T->c<=tE s0 T b:=λb c i=>by
  obtain⟨E,-⟩:=F b c i;unfold tE;rw[Ä N];exact yg i
 have a:∀x v,Ep x=sy->w.cell? ⟨x,0,sA⟩=A v->(Õ (tE s0 T) w).cell? ⟨x,0,sA⟩=A v:=λx v G q=>JX q (by show 0<tE s0 T x;rw[d x G];omega)
 have b:=o.toW.h;have b:=o.toW.e;have Z:=o.toW.j.toErrs9;refine⟨Z,r,λb I=>⟨N,sd b N⟩,λb I=>?_,λb I=>?_,λx G=>.inl G,λb I=>?_,
  ⟨a _ _ dc Z.g,a _ _ dc Z.e,a _ _ dc Z.a,a _ _ dc Z.k,a _ _ dc Z.l,a _ _ dc Z.b,a _ _ dc Z.p,a _ _ dc Z.q,a _ _ dc Z.r,a _ _ dc Z.i⟩,
  ⟨?_,W.e,W.h,?_,W.i,W.k,W.b,W.l⟩,λi H=>?_,λi H=>?_,λx G=>?_,λx G=>?_,λx G=>?_⟩
 .
  obtain I|⟨k,h,rfl⟩|⟨c,I⟩:=I
  .
   obtain rfl|I:=hrun b I
   . have:=o.q;exact⟨N,sd _ o.q⟩
   have:=r8 b I;exact⟨N,sd b this⟩
  . have:=o.toW.u k h;exact⟨N,sd _ this⟩
  obtain⟨E,cur,t,O,U,-⟩:=F b c I;exact⟨AZ O,b' b _ _ O U⟩
 .
  by_cases p:b<s0
  .
   have d:Ep b=ss->∀j,¬j<tE s0 T b:=λH j a=>by
    unfold tE at a;rw[Æ p,H]at a;simp at a
   by_cases m:Ep b=sy
   .
    obtain⟨x,t,E⟩:=o.toW.D b m;refine⟨_,_,_,E,λj y a r9=>?_⟩;have q:(∃k,k<9/\w.cell? ⟨b,0,sA⟩=A (.f 255 (.p (A (ad k)))))\/w.cell? ⟨b,0,sA⟩=A (.f 207 (.agg #[.p (A ⟨10,33,sA⟩)])):=by
     simp only[Ep,CY,ł,Ł,lV,sV,ġ,ĝ,kZ]at m;obtain rfl|rfl|rfl|rfl|rfl|rfl|rfl|rfl|rfl|rfl:=m
     . exact .inr Z.g
     . exact .inl ⟨0,N,Z.e⟩
     . exact .inl ⟨1,N,Z.a⟩
     . exact .inl ⟨2,N,Z.k⟩
     . exact .inl ⟨3,N,Z.l⟩
     . exact .inl ⟨4,N,Z.b⟩
     . exact .inl ⟨5,N,Z.p⟩
     . exact .inl ⟨6,N,Z.q⟩
     . exact .inl ⟨7,N,Z.r⟩
     exact .inl ⟨8,N,Z.i⟩
    cases j with
    |succ j=>simp at r9
    |zero=>
     obtain⟨k,h,e⟩|e:=q
     .
      simp only[World.cell?,E]at e;have:y=.f 255 (.p (A (ad k))):=by
       rw[r9]at e;simpa using e
      subst this;exact VR.e ⟨_,J,VR.ptr ⟨⟨J,.inr (.inl ⟨k,h,J⟩)⟩,J,J⟩⟩
     simp only[World.cell?,E]at e;have:y=.f 207 (.agg #[.p (A ⟨10,33,sA⟩)]):=by
      rw[r9]at e;simpa using e
     subst this;refine VR.e ⟨_,J,VR.e ⟨_,J,J,λi u v a q=>?_⟩⟩;rw[a]at q;cases q
     cases i with
     |zero=>
      cases a
      exact VR.ptr ⟨⟨J,.inl dc⟩,J,J⟩
     |succ i=>simp at a
   have H:Ep b=false:=by simpa using m
   obtain I|⟨k,h,rfl⟩|⟨c,I⟩:=I
   .
    obtain rfl|I:=hrun b I
    . obtain⟨c,t,a,E⟩:=o.a;exact⟨c,t,a,E,λj y a=>absurd a (d H j)⟩
    exact absurd I m
   . obtain⟨c,t,E⟩:=o.toW.j.blk k h;exact⟨c,t,_,E,λj y a=>absurd a (d H j)⟩
   obtain⟨E,-⟩:=F b c I;omega
  have e:∃c,(b,c)∈T:=by
   obtain I|⟨k,h,rfl⟩|I:=I
   .
    obtain rfl|I:=hrun b I
    . exact absurd o.q p
    exact absurd (r8 b I) p
   . exact absurd (o.toW.u k h) p
   exact I
  obtain⟨c,e⟩:=e;obtain⟨-,cur,t,O,-,-⟩:=F b c e;refine⟨cur,t,_,O,λj y a r9=>?_⟩;unfold tE at a;rw[Ä p]at a;obtain⟨c,U,P⟩:=jZ a;obtain⟨-,a,a,se,-,a⟩:=F b c U;rw[O]at se;cases se
  exact a j y P r9
 .
  by_cases p:b<s0
  .
   unfold tE at I;rw[Æ p]at I;by_cases m:Ep b=sy
   .
    left
    simp only[Ep,CY,ł,Ł]at m;simp only[E9,ł,Ł];obtain h|h:=m
    . exact .inl (.inr h)
    exact .inr h
   rw[Ä m]at I;omega
  unfold tE at I;rw[Ä p]at I;obtain⟨c,E,-⟩:=jZ I;exact .inr (.inr ⟨c,E⟩)
 .
  obtain⟨b0,d,X,-,-,R,-⟩:=W.a.open;injection X with X _ L
  subst X;obtain R|⟨b,off,E,O,U⟩:=R
  . exact .inl R
  refine .inr ⟨b,off,E,by rw[Fq];exact O,λi S H=>?_⟩;obtain⟨-,a,cur,-⟩:=s _ E;injection a with _ a _
  subst a;have d:=Ap H;obtain⟨a',V,Y,F,K,r7,e,h⟩:=W.a.d i S H;obtain⟨a,j,a,-⟩:=U i S H;have h:w.cell? ⟨b,0+i,sA⟩=A (.s a' S.length V):=by
   obtain⟨-,-,cur,a,c⟩:=s _ E;have a:w.heap[b]? = A (.c cur 52 (0,0)):=a;rw[ND a,Ă];rw[<-c,ψ,Æ d]at Y;simpa using Y
  refine⟨a',V,JX h ?_,ik F λa o c=>?_,K,r7,e⟩
  .
   show 0+i<tE s0 T b
   have:=z b (g.d.length*1) ((Q _).2 (.inr (.inl (by rw[E];rfl))));omega
  subst c;obtain⟨c,-⟩:=W.a.b i _ Y ⟨a,o,sA⟩ _ _ J;injection c with _ c _
  subst c;have:=z a (S.length*2) ((Q _).2 (.inr (.inr (.inr (.inl ⟨_,ĵ Y,J⟩)))));omega
 .
  refine bH W.j λb o c=>?_
  obtain⟨-,a,-⟩:=f _ c;injection a with _ a _
  subst a;have:=z b (g.h.length*1) ((Q _).2 (.inr (.inr (.inl (by rw[c];rfl)))));omega
 .
  obtain⟨a',V,Y,X⟩:=B i H;have a:ys.getD i uu=.s a' (pss.getD i []).length V:=by simp[kA,Y]
  cases bf:la with
  |none=>
   obtain⟨-,⟨E,O⟩|⟨b,j,cur,E,-⟩⟩:=D.row
   . omega
   rw[bf]at E;cases E
  |some p=>
   obtain⟨E,O,cur,U,P⟩:=l p bf;refine⟨p.block,0,congrArg A O,JX ?_ ?_⟩
   . rw[ND U,Ă];rw[a];rw[<-P,ψ,Æ H]at Y;simpa[Ŧ,Ν]using Y
   show 0+i<tE s0 T p.block
   have:=z p.block (n*1) ((Q _).2 (.inl (by rw[bf];rfl)));omega
 .
  obtain⟨a',V,Y,X⟩:=B i H;have a:ys.getD i uu=.s a' (pss.getD i []).length V:=by simp[kA,Y]
  show CU (Õ (tE s0 T) w) (Ŧ (ys.getD i uu)) (Ν (ys.getD i uu)) (pss.getD i [])
  rw[a];obtain⟨b0,d,L,F,K,r7,e,h⟩:=X.open;cases L
  refine⟨eQ r7 λb o c=>?_,F,K,h⟩;have c:a'=A ⟨b,o,sA⟩:=c;subst c;obtain⟨c,-⟩:=OL X ⟨b,o,sA⟩ _ _ J;injection c with _ c _
  subst c;have:=z b ((pss.getD i []).length*3) ((Q _).2 (.inr (.inr (.inr (.inr ⟨_,ĵ Y,J⟩)))));omega
 . exact .inr (.inr ⟨_,(Q (x.block,g.d.length*1)).2 (.inr (.inl (by rw[G];rfl)))⟩)
 . exact .inr (.inr ⟨_,(Q (x.block,g.h.length*1)).2 (.inr (.inr (.inl (by rw[G];rfl))))⟩)
 exact .inr (.inr ⟨_,(Q (x.block,n*1)).2 (.inl (by rw[G];rfl))⟩)
end
structure Jg (w:M)(ca:oA)(ccap:Nat)(cs:List lI)(na:oA)(ncap:Nat)(ns:lZ):Prop where
 a:EW w ca cs
 e:cs.length<=ccap
 h:ccap<=s7
 j:Bc w na ns
 i:ns.length<=ncap
 k:ncap<=s7
 b:na=sA->ns=[]/\ncap=0
def Jg.q{w U Z cs G O E}(h:Jg w U Z cs G O E)(I:WQ cs E):CS w U Z cs G O E:=⟨h.a,h.e,h.h,h.j,h.i,h.k,h.b,I⟩
open Go.Conc.Lib Go.ConcR.Gen
variable {Z:Nat}{y Y:Vl}{xs:List Vl}
section
variable {H:Nat->Prop}{s0 B:Nat}{v w w1:tz}{ad:Nat->Addr}
def Qw.E (h:Qw s0 w ad)(U:DF H w)(V:∀b,H b->s0<=b)(E:Bp H v w):FV v ad:=by
 refine{h.toW.j.toErrs9.E U E with h:=h.toW.j.h,blk:=λi G=>?_};obtain⟨c,t,O⟩:=h.toW.j.blk i G;exact⟨c,t,E.row (λI=>by have:=V _ I;have:=h.toW.u i G;omega) O sm⟩
def Ie.t{a:oA}{cs}(h:Ie w a cs)(E:Ci w w1):Ie w1 a cs:=by
 obtain rfl|⟨b,off,rfl,G,U⟩:=h
 . exact .inl J
 refine .inr ⟨b,off,J,rZ G E.h,λi a V=>?_⟩;obtain⟨a',cap,O,I⟩:=U i a V;exact⟨a',cap,E.E _ _ O J,I.t E⟩
def Jg.t{U cs E O G}(g:Jg w U Z cs E O G)(h:Ci w w1):Jg w1 U Z cs E O G:=⟨g.a.t h,g.e,g.h,g.j.t h,g.i,g.k,g.b⟩
def PN.t{g ps n wks}{x:Vl}(h:PN g ps n wks x y w)(O:Ci w w1):PN g ps n wks x y w1:=by
 obtain⟨Y,V,Z,⟨I,G,E⟩|⟨I,G,E,U⟩|⟨I,G,⟨i,c,E,U,g,l,w,n⟩|⟨D,E,U,g⟩⟩⟩:=h
 . exact⟨Y,V,Z,.inl ⟨I,G,E.t O⟩⟩
 . exact⟨Y,V,Z,.inr (.inl ⟨I,G,E,U.t O⟩)⟩
 . exact⟨Y,V,Z,.inr (.inr ⟨I,G,.inl ⟨i,c,E,U,g,l,w,n.t O⟩⟩)⟩
 refine⟨Y,V,Z,.inr (.inr ⟨I,G,.inr ⟨D,E,U,λi c=>?_⟩⟩)⟩;obtain⟨x,h,l,w,n,y⟩:=g i c;exact⟨x,h,l,O.E _ _ w J,n.t O,y⟩
def Ci.G (E:Bp H v w):Ci v w:=⟨js E.h.symm,λ_ _ G _=>E.E G⟩
def U6{e:tI}{m}{E:List Vl}(h:v.ownsRow B e Z y m E)(I:Bp H v w)(V:∀b,H b->b<B)(Y:s0<=B):w.ownsRow s0 e Z y m E:=by
 obtain⟨G,U|⟨g,cap,cur,rfl,O,b,r⟩⟩:=h
 . exact⟨G,.inl U⟩
 exact⟨G,.inr ⟨g,cap,cur,J,rX Y O,I.e b (λb=>by have:=V g b;omega),r⟩⟩
def Ho.l{O}(h:Ho v B Y O xs)(E:Bp H v w)(G:∀b,H b->b<B)(I:s0<=B):Ho w s0 Y O xs:=
 ⟨U6 h.row E G I,λi b Z=>by
  obtain⟨x,U,v,V⟩:=h.d i b Z;exact⟨x,U,U6 v E G I,V⟩⟩
def Ho.m{I}(h:Ho w B Y I xs)(G:Am w w1):Ho w1 B Y I xs:=
 ⟨Ai h.row λg _ E=>G.g g E,λi g V=>by
  obtain⟨x,O,Z,U⟩:=h.d i g V;exact⟨x,O,Ai Z λg _ E=>G.g g E,U⟩⟩
def sI{g}(O:QB v B (.s g.i g.d.length g.b) g.d xs)(V:Z<=B)(ap:g.d.length<=g.b)(I:g.b<=s7)(aB:Bc v g.g g.h)(X:∀ad,g.g=A ad->Z<=ad.block/\Ju v 3 (.s g.g g.h.length g.a))(Y:g.h.length<=g.a)(aE:g.a<=s7)(aq:g.g=sA->g.h=[]/\g.a=0)(ax:WQ g.d g.h)(U:Bp H v w)(i:∀b,H b->b<Z)(B:s0<=Z):o6 s0 w g xs:=by
 have aW:xs.length=g.d.length:=by have:=O.row.1;simpa using this
 have H:∀{e:tI}{x:Vl},Ju v e x->(∀ad n c,x=.s (A ad) n c->Z<=ad.block)->Ju w e x:=λ{e x} h E ad n c G=>by
  obtain⟨am,cur,b⟩:=h ad n c G;exact⟨am,cur,U.e b λe=>by have:=i _ e;have:=E ad n c G;omega⟩
 refine⟨⟨U6 O.row U (λb e=>rZ (i b e) V) (rX B V),λi b aC=>?_,λi x E=>H (O.b i x E) λad n c G=>?_⟩,ap,I,aB.t (.G U),λx E=>⟨rX B (X x E).1,H (X x E).2 λad n c G=>?_⟩,Y,aE,aq,ax⟩
 . obtain⟨a',c,Y,aw,aI,e,h,I⟩:=O.d i b aC;exact⟨a',c,Y,aw.t (.G U),aI,e,h,λad b=>⟨rX (rX B V) (I ad b).1,by rw[U.h];exact(I ad b).2.1,(I ad b).2.2⟩⟩
 .
  obtain⟨b,aN,-⟩:=Ao g.d i (by have:=Ap E;omega);obtain⟨a',c,Y,-,-,-,-,I⟩:=O.d i b aN;rw[E,G]at Y;cases Y
  exact rX V (I ad J).1
 injection G with G _ _
 exact(X ad G).1
end
def zQ (H:Nat->Prop)(g:Cn)(w:M)(e:Ending)(v':M):=∃v,Bp H v w/\Am v v'/\∃(g':Cn)(B:Nat)(xs:List Vl),e=.r g'.v/\g'.d=g.d/\g'.k=g.k/\g'.e=g.e/\g'.h=g.h/\QB v' B (.s g'.i g'.d.length g'.b) g'.d xs/\v.heap.size<=B/\g'.d.length<=g'.b/\g'.b<=s7/\Bc v' g'.g g'.h/\(∀ad,g'.g=A ad->v.heap.size<=ad.block/\Ju v' 3 (.s g'.g g'.h.length g'.a))/\g'.h.length<=g'.a/\g'.a<=s7/\(g'.g=sA->g'.h=[]/\g'.a=0)
open Go.ConcR (KK WgAt stA smA rd wr mk)
def xX (f:Func):=A7 (È f)
def q6 (g:Cn)(E:oA) n cap wks(v:M):(xX ti).wp sr (λe a v'=>e=.normal/\a=Ľ g.v (.s E n cap) (.q wks) (.pp v.heap.size 0) (.bool ss) uu uu uu (λ_=>uu)/\∃t,v'=v.alloc (.c #[.s g.i g.d.length g.b,.st g.k,.q g.e,.s g.g g.h.length g.a] t)) (Ľ g.v (.s E n cap) (.q wks) uu uu uu uu uu λ_=>uu) v:=by
 simp only[Cn.v];generalize g.d.length=m;generalize g.h.length=r;simp only[xX,Ľ,È,A7,Ak,ti,é];go_wp2_with fail;exact⟨_,J⟩
section
variable {H:Nat->Prop}{ad:Nat->Addr}{w:tz}{Post:xn->tz->Prop}{s0:Nat}{pss:List (List Pk)}
def Ve{O a'}{todo:lM}{w':M}(I:a'.defers=[])(E:a'.tmps.getD 6 uu=.bool sy)(h:∀d,Post (.bool sy) (w'.at d)):AO sr Post O (G {(base 3).at a' todo with mode:=.returning} []) w':=by
 refine AO.l (fn:=ti) (v:=.bool sy) J I xT (λ_=>?_) (λ_=>by simp[results,ti]) kr h;simp only[Η]at E;simp[results,ti,E]
def vT (X:Qw s0 w ad)(h:DF H w)(m:∀b,H b->s0<=b)(g:Cn)(V:oA) n cap wks(Y:Jg w g.i g.b g.d g.g g.a g.h)(sd:Ie w V pss)(S:pss.length=n)(r:n<=cap)(l:∀(i:Nat) ls,pss[i]? = A ls->ls.length<=9000000000000)(u:∀w',Am w w'->Post (.bool sy) w'):AO sr Post H (G ((base 3).at (Ľ g.v (.s V n cap) (.q wks) uu uu uu uu uu λ_=>uu) [.code (È ti)]) []) w:=by
 have a:È ti=.seq (xX ti) (.seq ((A7 (Ak (È ti)))) (.seq (yL ti) (.seq ((A7 (Ak (EF ti)))) (.seq ((A7 (Ak (Ak (EF ti))))) (.seq (mU ti) (.seq ((A7 (Ak (Ak (Ak (Ak (EF ti))))))) (GY ti))))))):=rfl;rw[a];refine AO.k ?_
 refine AO.g (p:=Di) D6 (Q:=λe a v'=>e=.normal/\a=Ľ g.v (.s V n cap) (.q wks) (.pp w.heap.size 0) (.bool ss) uu uu uu (λ_=>uu)/\∃v,Bp H v w/\Am v v'/\CE v' w.heap.size (.s g.i g.d.length g.b) g.k g.e (.s g.g g.h.length g.a)) ⟨⟨_,xT⟩,J,J⟩ (by decide+kernel) h.y (λv E=>?_) (λe a v' Z=>.inl Z.1) (λe a v' t⟨I,U,v,G,d,r8⟩=>⟨I,U,v,G,d.d t,r8.t (.d _ _)⟩) ?_ (λa' todo v' w' Z=>by cases Z.1)
 .
  refine tL ?_ (q6 g V n cap wks v)
  rintro e a v'⟨I,U,t,rfl⟩;rw[<-E.h]at U;refine⟨I,U,v,E,Am.e ba,?_⟩;rw[E.h];exact EA v _ _ _ _ _
 rintro b v' o⟨-,rfl,v,E,O,e⟩c d;have b:=Am.a E c d O;have i:=e.t (.G c);clear E O c d e v v';have d:=X.m b;have c:=h.later b
 iterate 2 refine AO.k ?_
 refine AO.call J J (by decide) J Tryz.func4 (by decide) J ?_
 walk_nrmf Tryz.ntmps4
 show AO sr Post H (Z7 Tryz.f4 (_::[])) o
 refine gH d.toW c m λP m d c r8=>?_
 refine AO.value (.bool sy) J J (by decide) (λ_=>by go_simp;intro h;simp[Ľ]at h) (λ_=>by simp[go_sem]) ?_
 iterate 2 refine AO.k ?_
 have r9:=b.G d;have b:=X.m r9;have b:=sd.t (.b r9);have b:=Y.t (.b r9);have B:=i.t (.b d);refine AO.g (p:=Di) (a:=Ľ g.v (.s V n cap) (.q wks) (.pp w.heap.size 0) (.bool ss) (.bool sy) uu uu λi=>if i=21 then .bool sy else uu) D6 (Q:=λe a v'=>∃v,Bp P v m/\Am v v'/\zK g.v (.s V n cap) (.q wks) (.pp w.heap.size 0) g.d g.h n e a) ⟨⟨_,xT⟩,J,J⟩ (by decide+kernel) c.y (λv E=>?_) (λe a v'⟨v,_,_,Z⟩=>Z.elim (λq=>.inr q.1) λq=>.inl q.1) (λe a v' t⟨v,U,G,d⟩=>⟨v,U,G.d t,d⟩) ?_ ?_
 .
  refine tL ?_ (pM g V n cap wks w.heap.size g.v uu uu _ v (B.t (.e c E)) (b.a.t (.e c E)) Y.e Y.h Y.i Y.k)
  rintro e a v'⟨I,U⟩;exact⟨v,E,Am.e I,U⟩
 .
  rintro m v' z⟨v,E,O,⟨I,-⟩|⟨-,s,D,d⟩⟩r7 se
  . cases I
  have x:=Am.a E r7 se O;clear E O r7 se v v';obtain⟨e,h,b,rfl⟩:∃e h b,m=Ľ g.v (.s V n cap) (.q wks) (.pp w.heap.size 0) (.bool ss) (.bool sy) e h b:=⟨_,_,_,d⟩
  clear d;have W:=r9.G x;have o:=X.m W;have k:=sd.t (.b W);have h:=c.later x
  iterate 2 refine AO.k ?_
  refine AO.v (.q 0) ?_
  iterate 3 refine AO.k ?_
  refine AO.v (.sn) ?_
  iterate 2 refine AO.k ?_
  refine AO.g (p:=Di) (a:=Ľ g.v (.s V n cap) (.q wks) (.pp w.heap.size 0) (.bool ss) (.bool sy) (.q 0) (.sn) b) D6 (Q:=λe a v'=>∃v,Bp P v z/\Am v v'/\((e=.ret/\a.defers=[]/\a.tmps.getD 6 uu=.bool sy)\/(e=.normal/\∃c y,Ho v' v.heap.size c pss y/\a=Ľ g.v (.s V n cap) (.q wks) (.pp w.heap.size 0) (a.tmps.getD 6 uu) (.bool sy) (a.tmps.getD 8 uu) c λi=>a.tmps.getD i uu))) ⟨⟨_,xT⟩,J,J⟩ (by decide+kernel) h.y (λv E=>?_) (λe a v'⟨v,_,_,Z⟩=>Z.elim (λq=>.inr q.1) λq=>.inl q.1) (λe a v' t⟨v,U,G,d⟩=>⟨v,U,G.d t,IP id (λ⟨i,c,y,a,e⟩=>⟨i,c,y,⟨a.row,a.d⟩,e⟩) d⟩) ?_ ?_
  .
   refine tL ?_ (xC V n cap g.v (.pp w.heap.size 0) wks b v (k.t (.e h E)) S s r l)
   rintro e a v'⟨I,U⟩;exact⟨v,E,Am.e I,IP id (λq=>⟨q.1,q.2.2⟩) U⟩
  .
   rintro l v' K⟨v,E,O,⟨I,-⟩|⟨-,c,b,i,m⟩⟩T r7
   . cases I
   have e:=Am.a E T r7 O;have z:=i.l (s0:=s0) T (λb d=>by rw[<-E.h];exact h.G d) (by rw[<-E.h];exact o.toW.h);obtain⟨H,q,rfl⟩:∃H q,c=.s H n q:=by
    obtain⟨U,⟨rfl,d⟩|⟨b,c,cur,rfl,-⟩⟩:=z.row
    . exact⟨sA,0,by rw[<-S,d]⟩
    exact⟨_,c,by rw[S]⟩
   obtain⟨L,se,G,rfl⟩:∃L se G,l=Ľ g.v (.s V n cap) (.q wks) (.pp w.heap.size 0) L (.bool sy) se (.s H n q) G:=⟨_,_,_,m⟩
   clear m E O T r7 i v v';have F:=W.G e;have b:=h.later e;have T:=B.t (.b (x.G e))
   iterate 2 refine AO.k ?_
   unfold Ľ
   try walk_nrm
   refine AO.h (p:=Di) D6 (Q:=λx v'=>x=g.v/\∃v,Bp P v K/\v'=v) J J (by decide) J b.y (λv E=>?_) ?_
   . obtain⟨c,c,c,c⟩:=T.t (.e b E);refine⟨g.v,v,?_,J,v,E,J⟩;unfold Cn.v;go_simp
   rintro x v' e⟨rfl,v,E,rfl⟩c d;have t:Am K e:=Am.a E c d (Am.I _);clear E c d
   try walk_nrm
   have I:=F.G t;have i:=b.later t;have b:=Y.t (.b I);have k:=X.m I;refine AO.a (argv:=#[g.v]) J J (by decide) J Tryz.func8 (by decide) J (by simp[go_sem]) ?_
   refine AO.j (p:=Di) (R:=zQ P g e) D6 Tryz.func8 J (by decide+kernel) i.y (λv E=>(by
     have Y:=(b.t (.e i E))
     refine(gB g.i g.b g.d g.k g.e g.g g.a g.h v Y.a Y.j Y.b D).mono ?_
     rintro e v'⟨e,x,c',r7,rfl,-,U,m,o,K,F,c,⟨B,y,b,h⟩,l,d⟩;exact⟨v,E,Am.e d,⟨e,c',x,r7,g.d,g.k,g.e,g.h⟩,B,y,J,J,J,J,J,h,b,U,m,o,l,K,F,c⟩)) (λe w'⟨v,_,_,g',B,y,h,_⟩=>⟨_,h⟩) λx v' m b e o=>?_
   obtain⟨v,E,O,g',B,y,c,U,j,f,F,K,x,r7,b',Z,h,B,R,y⟩:=b;cases c
   have c:=Am.a E e o O;have l:=sI K x r7 b' Z h B R y (by rw[U,F];exact D) e (λb d=>by rw[<-E.h];exact i.G d) (by rw[<-E.h];exact k.toW.h);clear E O e o K x r7 b' Z h B R y v v';have e:=I.G c;have b:=i.later c;have i:=X.m e;have d:=z.m (t.G c);rw[Frame.finish_at]
   try walk_nrm
   refine AO.v (.s H n q) ?_;try walk_nrm;refine AO.v (.q wks) ?_;try walk_nrm;refine AO.call J J (by decide) J Tryz.func7 (by decide) J ?_
   walk_nrmf Tryz.ntmps7
   show AO sr Post P (YS Tryz.f7 g'.v H n q wks _) m
   refine uM (oI i b r8 l d S) λm x y B o z h k=>?_
   have r7:∀b,m b->s0<=b:=λb d=>(h b d).elim (r8 b) λh=>rX i.toW.h h
   walk_nrm
   refine AO.v (.t #[x,y]) ?_;try walk_nrm;refine AO.v x ?_;try walk_nrm;refine AO.v y ?_;try walk_nrm;refine AO.v x ?_;try walk_nrm;refine AO.v y ?_;try walk_nrm;refine AO.k ?_
   have l:PN g (λi=>pss.getD i []) n wks x y B:=by
    have:=k.e;unfold PN Cn.j Cn.p at this⊢;rw[U,j,f,F]at this;exact this
   have b:=e.G o;have k:=X.m b;have h:=(Y.t (.b b)).q D;have D:=sd.t (.b b);have sd:=T.t (.b ((t.G c).G o));refine AO.g (p:=Di) (a:=l2 g.v (.s V n cap) (.q wks) (.pp w.heap.size 0) L (.bool sy) se (.s H n q) x y λi=>if i=58 then .t #[x,y]else if i=59 then g.v else if i=60 then g'.v else if i=61 then .s H n q else if i=62 then .q wks else if i=63 then .t #[x,y]else if i=64 then x else if i=65 then y else G i) D6 (Q:=λe a v'=>e=.ret/\a.defers=[]/\a.tmps.getD 6 uu=.bool sy/\∃v,Bp m v B/\Am v v') ⟨⟨_,xT⟩,J,J⟩ (by decide+kernel) z.y (λv E=>?_) (λe a v' Z=>.inr Z.1) (λe a v' t⟨I,U,G,v,d,r8⟩=>⟨I,U,G,v,d,r8.d t⟩) (λa' v' w' Z=>by cases Z.1) ?_
   .
    have a:Ci B v:=.e z E;refine tL ?_ (zm V cap w.heap.size wks g.v L (.bool sy) se (.s H n q) x y _ v ad (k.E z r7 E) s S (D.t a) r (sd.t a) (h.t a) (l.t a))
    rintro e a v'⟨I,U,G,d⟩;exact⟨I,U,G,v,E,Am.e d⟩
   rintro a todo v' h⟨-,d,c,v,E,O⟩g e;have a:=Am.a E g e O;exact Ve d c λd=>u _ ((b.G a).G (Am.B h d))
  rintro l todo v' K⟨v,E,O,⟨-,a,c⟩|⟨I,-⟩⟩T r7
  . have F:=Am.a E T r7 O;exact Ve a c λd=>u _ ((W.G F).G (Am.B K d))
  cases I
 rintro m todo v' z⟨v,E,O,⟨-,a,c⟩|⟨I,-⟩⟩r7 se
 . have W:=Am.a E r7 se O;exact Ve a c λd=>u _ ((r9.G W).G (Am.B z d))
 cases I
end
open Go.ChangeShapes Go.WideShapes Go.ChangeAt Go.Deep
section
variable {H:Type}{enc:TypeId×xn->H}{W:tz}{fuel:Nat}{cs:List xn}{x:DataW H×List MemPlace}
def Tryz.xj:sr.cellsOf 23=1:=kr
def Tryz.Cw:sr.cellsOf 9=1:=kr
def Tryz.T:sr.cellsOf 25=4:=kr
def nX (h:yW enc sr W 0 (λ_=>sy) sy fuel 23 cs=A x):∃a cap G,cs=[.s a G.length cap]/\Bc W a G/\G.length<=cap/\cap<=s7/\(a=sA->G=[]/\cap=0):=by
 obtain⟨rfl,_⟩|⟨x,I,Y,U,rfl,_,e,i,b,_,V,a⟩:=open_ints Tryz.underlying23 ur Tryz.a h
 . exact⟨sA,0,[],J,.inl J,sm,by simp[s7],λ_=>⟨J,J⟩⟩
 have a:U.length=Y:=by simpa using b
 refine⟨A x,Y,U.take I,by rw[Ε,a,Nat.min_eq_left e],?_,by rw[Ε];omega,i,λe=>by cases e⟩;by_cases a:I=0
 . subst a;exact .inl sm
 obtain⟨b,off,spot⟩:=x;have O:=V 0 N;have Z:spot=none:=by simpa[CN]using lu O
 subst Z;refine .inr ⟨b,off,J,by simpa[CN]using BZ O,λi y E=>?_⟩;rw[ψ]at E;split at E
 .
  next hil=>
  have:=V i N;rw[κ,List.getD,E]at this;exact this
 cases E
def ku{Z}{v:Vl}{d p}(aL:Value.okWide sr W .any Z 25 v)
  (h:DataW.Trod enc sr W 0 (λ_=>sy) sy 25 v d p):
  ∃I G cs Y per O U E,v=.agg #[.s I (cs:List lI).length G,.st Y,.q per,.s O (E:lZ).length U]/\Jg W I G cs O U E:=by
 obtain⟨av,rfl,aj⟩:=okWide_struct IU aL;obtain⟨fuel,aE⟩:=h;obtain⟨xs,k,-,-,-,ap,V⟩:=DataW.trod_struct IU aE;rw[Tryz.T]at aj;obtain⟨l⟩:=av
 match l,aj,xs,ap with
 |[a5,a1,a2,aW],_,[aN,a4,a3,a0],_=>
  have ac:=V 0 _ J;have ak:=V 1 _ J;have ab:=V 2 _ J;have an:=V 3 _ J;simp[Value.cells,Tryz.w,Tryz.Cw,Tryz.a,Tryz.xj]at ac ak ab an
  obtain⟨I,G,ao,aa,ax,aq,aG⟩:=fo ac;obtain⟨Y,al,-,-⟩:=DataW.trod_string Tryz.underlying9 ak;obtain⟨per,ai,-,-⟩:=kB ur ab;obtain⟨O,U,E,am,aw,aC,aI,aB⟩:=nX an;simp at aa al ai am
  subst aa al ai am;exact⟨I,G,ao,Y,per,O,U,E,J,ax,aq,aG,aw,aC,aI,aB⟩
end
section
variable {H:Type}{enc:TypeId×xn->H}{W:tz}{fuel:Nat}{cs:List xn}{x:DataW H×List MemPlace}
def Tryz.A2:sr.cellsOf 29=1:=kr
def Tryz.Me:sr.bytesOf 68=24:=kr
def NB{P:pG}{e:tI}{d:DataW H}{n}(H:n∈d.weights P e):∀{l},d∈l->n∈I0 P e l
 |c::r,h=>by
  simp only[I0,ĭ];obtain rfl|h:=sV.1 h
  . exact .inl H
  exact .inr (NB H h)
def nZ (h:yW enc sr W 0 (λ_=>sy) sy fuel 29 cs=A x)(ao:∀n∈x.1.weights sr 29,n<=L2):∃a cap ps,cs=[.s a (ps:List Pk).length cap]/\CU W a cap ps/\ps.length<=9000000000000:=by
 have p:∀a len cap,cs=[.s a len cap]->len<=9000000000000:=λa len cap e=>by
  obtain⟨E,-⟩|⟨a,a,a,m,n,D,a,E,-,aa,-,a,aw,-⟩:=open_slice vE h
  .
   rw[e]at E;cases E
   omega
  rw[e]at E;cases E
  have:=ao ((len+(m-len))*24) (by rw[aw];simp[LR,vE,Tryz.Me]);unfold L2 at this;omega
 obtain rfl|⟨y,l,c,n,rfl,aa,x,an⟩:=RP vE Tryz.underlying68 kr J J J Tryz.a Tryz.a Tryz.a h
 . exact⟨sA,0,[],J,⟨.inl J,sm,by simp[s7],λ_=>⟨J,J⟩⟩,sm⟩
 have aq:∀i,i<l->∃q:Int×Int×Int,W.cell? (y.add (i*3))=A (.q q.1)/\W.cell? (y.add (i*3+1))=A (.q q.2.1)/\W.cell? (y.add (i*3+2))=A (.q q.2.2):=by
  intro i I;obtain⟨e,e,e,e,e,e,G,U,O,ak,av,aj⟩:=an i I;obtain⟨al,V,_,_⟩:=kB ur ak;obtain⟨ai,ac,_,_⟩:=kB ur av;obtain⟨aB,E,_,_⟩:=kB ur aj;simp at V ac E
  subst V ac E;exact⟨(al,ai,aB),G,U,O⟩
 obtain⟨q,Z⟩:=choose_lt aq;refine⟨A y,c,(List.range l).map λi=>⟨(q i).1,(q i).2.1,(q i).2.2⟩,sm,⟨?_,by simpa using aa,x,λh=>by cases h⟩,by simpa using p _ _ _ J⟩;by_cases G:l=0
 . subst G;exact .inl sm
 obtain⟨b,off,spot⟩:=y;have Y:=(Z 0 N).1;have a:spot=none:=by simpa[CN]using lu Y
 subst a;refine .inr ⟨b,off,J,by simpa[CN]using BZ Y,λi p I=>?_⟩;have ab:i<l:=by
  obtain h|h:=nR i l
  . exact h
  simp[h]at I
 simp[ab]at I
 subst I;obtain⟨G,U,O⟩:=Z i ab;rw[κ]at G U O;exact⟨G,by rw[lq];exact U,by rw[lq];exact O⟩
def pJ (h:yW enc sr W 0 (λ_=>sy) sy fuel 26 cs=A x)(ao:∀n∈x.1.weights sr 26,n<=L2):∃a cap I,cs=[.s a (I:List (List Pk)).length cap]/\Ie W a I/\I.length<=cap/\∀(i:Nat) ls,I[i]? = A ls->ls.length<=9000000000000:=by
 obtain⟨rfl,_⟩|⟨ad,len,cap,m,n,D,i,rfl,i,av,i,ai,ab,G⟩:=open_slice CM h
 . exact⟨sA,0,[],J,.inl J,sm,λi ls h=>by simp at h⟩
 have h:len<=m:=by rw[ai];split<;>omega
 have D:∀i,i<len->∃q:oA×Nat×List Pk,W.cell? (ad.add i)=A (.s q.1 q.2.2.length q.2.1)/\CU W q.1 q.2.1 q.2.2/\q.2.2.length<=9000000000000:=by
  intro i E;obtain⟨cs',Z,ac⟩:=G i N;rw[Tryz.A2]at Z;obtain⟨a',aj,ls,rfl,q,G⟩:=nZ ac λk al=>ao k (by
   rw[ab];simp only[LR,CM,sV,ĭ];exact .inr (.inl (NB al (Ő.2 ⟨i,ρ.2 E,J⟩))))
  obtain⟨_,_,h⟩:=World.cells?_some Z;have aa:=h 0 N;rw[add_add,jL,kt]at aa;exact⟨(a',aj,ls),by simpa using aa,q,G⟩
 obtain⟨q,O⟩:=choose_lt D;refine⟨A ad,cap,(List.range len).map λi=>(q i).2.2,sm,?_,by simpa using av,λi ls E=>?_⟩
 .
  by_cases b:len=0
  . subst b;exact .inl sm
  obtain⟨b,off,spot⟩:=ad;have V:=(O 0 N).1;have a:spot=none:=by simpa[CN]using lu V
  subst a;refine .inr ⟨b,off,J,by simpa[CN]using BZ V,λi ls E=>?_⟩;have G:i<len:=by
   obtain h|h:=nR i len
   . exact h
   simp[h]at E
  simp[G]at E
  obtain⟨U,Y,-⟩:=O i G;rw[E]at U Y;rw[κ]at U;exact⟨(q i).1,(q i).2.1,U,Y⟩
 have G:i<len:=by
  obtain h|h:=nR i len
  . exact h
  simp[h]at E
 simp[G]at E
 rw[<-E];exact(O i G).2.2
end
def jV (args:Array Vl) E O I(h:args= #[E,O,I]):G (Frame.enter sr 3 args .normal) []=G ((base 3).at (Ľ E O I uu uu uu uu uu λ_=>uu) [.code (È ti)]) []:=by
 subst h;rw[enter_at (c:=È ti) #[E,O,I] xT J];unfold Ľ
 walk_nrmf Tryz.ntmps3
def Xj{Post:Vl->M->Prop}{W:M}{ad E}(U:Qw W.heap.size W ad)(g:Cn)(I:oA) cap wks(Y:Jg W g.i g.b g.d g.g g.a g.h)(a:Ie W I E)(Z:E.length<=cap)(h:∀(i:Nat) ls,E[i]? = A ls->ls.length<=9000000000000)(V:∀w',Am W w'->Post (.bool sy) w'):Cc sr Post (solo (G (Frame.enter sr 3 #[g.v,.s I E.length cap,.q wks] .normal) []) W) #[]:=by
 rw[jV _ _ _ _ J];refine(vT (H:=λ_=>False) U (λb O=>O.elim) (λb O=>O.elim) g I E.length cap wks Y a J Z h V).d #[_] sA #[] (λ_=>0) 0 J (leavers_one _ _) ⟨past_nil.clean,λi a Z Y=>IP id (λh=>h.1.elim) (past_nil.known i a Z Y),past_nil.over,past_nil.hears,past_nil.seen⟩ (uD _)
def Am.z{W w':M}(h:Am W w'):Below W.heap.size W.blind w'.blind:=⟨h.p.1,J,h.p.2,h.h,λk E=>h.g k E⟩
def q5 os(aB:os.Started) H(enc:tI×Vl->H):ReturnsInLeavingWide {} GJ os 3 .any (λw args=>(Rows.sideRunsSpec.pre enc sr ti [] ss w args/\laidMetH sr Rows.sideRunsRow.laid w)/\sizedMet enc sr ti (OpenSpec.ofChange Rows.sideRunsSpec) ss w args)
   (Rows.sideRunsSpec.post enc sr ti ss sy ss ss):=by
 refine returnsInLeavingWide_of_good (C:=GJ) Tryz.E aB
  (ChangeSpec.witness_shaped (enc:=enc) (C:=GJ) (os:=os) (X:=λw _=>laidMetH sr Rows.sideRunsRow.laid w) ss (World.doorLaid sr 187 os) #[.agg #[.sn,.st ⟨#[]⟩,.q 0,.sn],.sn,.q 0] 8 rfl (World.shaped_of_RefB kr kr) kr kr kr ((laidMetH_of_parts3 (fuel:=8) (laidMet_of_run' 8 kr kr) kr kr))) ?_
 intro w tape i _ Z _ bf k _;obtain⟨_,_,_,bk,j,_,_,_,_,ap⟩:=bf;obtain rfl:bk=Tryz.f3:=Ö (j.symm.trans xT);obtain⟨⟨-,Y⟩,-,ds,gs,a2,a5,am⟩:=k;obtain⟨W,V⟩:=ex (w.forCall tape i);have a1:laidMetH sr Rows.sideRunsRow.laid W:=by rw[<-V];exact Y.of_heap (by rfl)
 have hW:DataW.Whole enc sr ti.params.toList Rows.sideRunsSpec.vars ss W.blind i.args.toList ds gs a2:=by rw[<-V];exact DataW.Whole.of_heap (by rfl) a5
 rw[V]at Z ap⊢;have O:∀(j:Nat) t v,ti.params[j]? = A t->i.args[j]? = A v->Value.okWide sr W .any w.heap.size t v:=ap;have n:sr.globals.size<=W.heap.size:=by
  have I:(((begin sr (λ_ _=>0) default).world.heap[sr.globals.size-1]?).bind Obj.row?).isSome=true:=kr;obtain⟨⟨zero,t⟩,E⟩:=Option.isSome_iff_exists.1 I;obtain⟨cs,a9,-⟩:=Z.1 _ zero t (Θ kr) E;have:=ī a9;omega
 obtain⟨ad,bj⟩:=Ws a1 Z n;obtain⟨args,a6⟩:=ex i.args;rw[a6]at O hW⊢;have bc:=hW;obtain⟨p,q,i,n,rfl,bZ,bK⟩:=hW;have aj:DataW.TrodAll enc sr W.blind 0 (λ_=>sy) sy ti.params.toList args.toList ds p:=i;rw[Tryz.params3]at aj O am;obtain⟨bl,aL,Y,d0,bw,bs,bh,k,ax,rfl,rfl,rfl,I,E,aa⟩:=trodAll_three aj;obtain⟨rfl,rfl⟩:=trodVars_none n;have V:∀x∈bh,x.block<W.blind.heap.size:=by obtain⟨m,U⟩:=I;exact FA m _ _ _ U
 have Z:∀x∈k,x.block<W.blind.heap.size:=by obtain⟨m,U⟩:=E;exact FA m _ _ _ U
 have X:∀x∈ax,x.block<W.blind.heap.size:=by obtain⟨m,U⟩:=aa;exact FA m _ _ _ U
 have aI:=I;have U:=E;have x:=aa;obtain⟨ai,ac,cs,bm,per,ak,al,ab,rfl,G⟩:=ku (W:=W.blind) (O 0 25 bl J J) I;obtain⟨an,n,cap,rfl⟩:=okWide_slice CM (O 1 26 aL J J);obtain⟨wks,rfl⟩:=okWide_int ur (O 2 3 Y J J);obtain⟨bx,E⟩:=E;obtain⟨a',bt,be,ao,n,I,a0⟩:=pJ E λk E=>by
  have:=pd.1 am k (DataW.weights_mem_each (j:=1) J J k E);simpa using this
 simp[Value.cells]at ao
 obtain⟨rfl,rfl,rfl⟩:=ao;have bp:Ie W an be:=n.t ⟨lr,λ_ _ Y _=>Y⟩;have aC:Jg W ai ac cs ak al ab:=⟨G.a,G.e,G.h,G.j,G.i,G.k,G.b⟩
 refine Xj bj ⟨ai,ak,ac,al,cs,bm,per,ab⟩ an cap wks aC bp I a0 λbv a8=>?_
 have bel:=a8.z;exact⟨_,_,_,[],_,[],bc,trodAll_mk1 (shut_bool Tryz.underlying4 _),
  (Gp (Below.trod Tryz.F kr (Θ kr) aI bel V) (Gp (Below.trod Tryz.F kr (Θ kr) U bel Z) (Gp (Below.trod Tryz.F kr (Θ kr) x bel X) trodAll_mk0))),J,bel.frame _,λh=>by cases h⟩
def Tz I{p s c} kinds O E G g(W:c.holds p s)(V:c.wfByText s=sy)(X:c.laidByTextAt I p kinds O)
  (U:c.start=.entering)(D:c.noBlocks=ss/\c.again=ss)(Y:p.checked.prog.mainIs=A (E.1,E.2.toList))(h:(!E.1&&E.2.isEmpty&&!G)=ss)
  (T:∀f fn,p.checked.prog.funcNamed c.func=A f->p.checked.prog.funcs[f]? = A fn->G=p.checked.prog.looks []/\∀(j:Nat) t,fn.params[j]? = A t->p.checked.prog.wantsStandIn t=ss)
  (f:g=c.goesBy p.checked.prog):
  Claim7.holds p (.plain s) {stood:={row:=c,standIns:=[],harness:=E,looks:=G},kinds:=[],alts:=[],goes:=g,laidByText:=sy,laidKinds:=kinds,laidTests:=O,laidLooks:=I}:=by
 have Z:∀r:OpenClaim,Claim7.isSixth {stood:={row:=r,standIns:=[],harness:=E,looks:=G},kinds:=[]}=false:=λr=>by simpa[Claim7.isSixth]using h
 exact⟨Claim7.tied_new_at I kinds O (Claim7.new_of_sixth W E G U D Y (Z c) T) V,λD c=>(by cases c),X,(λh=>by cases h),f⟩
theorem sideRuns_holds:Rows.SideRunsCardSaid:=
 Tz .later Rows.sideRunsCard.laidKinds sy Rows.sideRunsCard.stood.harness sy sy
  (OpenClaim.holds_of_wide_leaving 3 ti J J J J J J J ⟨J,J,J,J,J⟩ J J J J J kr xT kr
     (Θ kr) (by unfold Func.isWrapper;rw[Ä (j7 kr)];exact⟨J,J⟩)
     (λf O H enc _=>q5 f O H enc)) kr sideRuns_row_tie J ⟨J,J⟩ kr J
  (λf j G I=>by
   obtain rfl:f=3:=Ö ((show sr.funcNamed Rows.sideRunsRow.func=A 3 by kernel_rfl).symm.trans G)|>.symm;obtain rfl:j=Tryz.f3:=(Ö (xT.symm.trans I)).symm;exact⟨kr,λj t E=>by
    rw[Tryz.params3]at E;have U:t=25\/t=26\/t=3:=by
     match j,E with
     |0,E=>exact .inl (by simpa using E.symm)
     |1,E=>exact .inr (.inl (by simpa using E.symm))
     |2,E=>exact .inr (.inr (by simpa using E.symm))
     |j+3,E=>simp at E
    obtain rfl|rfl|rfl:=U
    . exact(show sr.wantsStandIn 25=ss by kernel_rfl)
    . exact(show sr.wantsStandIn 26=ss by kernel_rfl)
    exact (show sr.wantsStandIn 3=ss by kernel_rfl)⟩)
  kr
#print axioms sideRuns_holds
end Go.Proofs.YtaoikkhlnhfkfaaGreatDoor
