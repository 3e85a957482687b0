import Derived.Test.YtaoikkhlnhfkfaaGreatDoorU00
import Derived.Test.YtaoikkhlnhfkfaaGreatDoorU42
import Derived.Test.YtaoikkhlnhfkfaaGreatDoorU35
set_option maxHeartbeats 4000000
set_option maxRecDepth 100000
set_option linter.defProp false
set_option linter.unusedSimpArgs false
set_option linter.unusedVariables false
namespace Go.Proofs.YtaoikkhlnhfkfaaGreatDoor
open Bool renaming false->ss,true->sy
open Go renaming Func->zJ,Addr->xr,World->tz,undef->yf,results->uK,maxLen->s7,wpList_append_lies->xl
open Proofs.Tryz renaming f7->uc,prog->sr,func7->AE,f3->ti
open Option renaming some->A,none->sA
open World renaming cell?->sY
open Code renaming wp_mono->tL
open RowKit renaming Hid->sE,Below->vl
open Go.Conc Go.RowKit Go.Conc.Lib Go.ConcR.Gen
open Go.ConcR (KK WgAt stA smA rd wr mk)
def iE (G:Vl)(E:oA)(n cap:Nat)(wks:Int):Act:=⟨#[G,.s E n cap,.q wks,uu,uu,uu,uu,uu,uu,uu,uu,uu,uu,uu,uu,uu,uu,uu,uu,uu,uu,uu,uu,uu,uu,uu,uu,uu,uu],[]⟩
def UW (I:Vl)(G:oA)(n cap:Nat)(wks:Int)(E:Nat):Act:=⟨#[I,.s G n cap,.q wks,.pp E 0,.pp (E+1) 0,uu,.sn,.n,uu,uu,uu,uu,uu,uu,uu,uu,uu,uu,uu,uu,uu,uu,uu,uu,uu,uu,uu,uu,uu],[]⟩
def ZO (I:Vl)(G:oA)(n cap:Nat)(wks:Int)(E:Nat):Act:=⟨#[I,.s G n cap,.q wks,.pp E 0,.pp (E+1) 0,uu,.sn,.n,.n,uu,.s G n cap,.q n,.q wks,.n,.n,.bool ss,uu,uu,uu,uu,uu,uu,uu,uu,uu,uu,uu,uu,uu],[]⟩
def Zr (O:Vl)(I:oA)(n cap:Nat)(wks:Int)(G:Nat)(E:Vl):Act:=⟨#[O,.s I n cap,.q wks,.pp G 0,.pp (G+1) 0,uu,.sn,.n,.n,E,.s I n cap,.q n,.q wks,.n,.n,.bool ss,uu,O,E,uu,uu,uu,uu,uu,uu,uu,uu,uu,uu],[]⟩
def UL (I:Vl)(G:oA)(n cap:Nat)(wks:Int)(E:Nat):Act:=⟨#[I,.s G n cap,.q wks,.pp E 0,.pp (E+1) 0,uu,.sn,.n,.n,.n,.s G n cap,.q n,.q wks,.n,.n,.bool ss,uu,I,.n,.n,.bool ss,uu,uu,uu,uu,uu,uu,uu,uu],[]⟩
def vL (f:zJ):=A7 (È f)
def vG (f:zJ):=A7 (Ak (È f))
def aX (f:zJ):=A7 (Ak (Ak (È f)))
def VZ (f:zJ):=Ak (aX f)
section
variable {la:Option xr}{n cap:Nat}{wks:Int}
def pD (g:Cn)(v:M):(vL uc).wp sr (λe a v'=>e=.normal/\a=UW g.v la n cap wks v.heap.size/\∃G E,v'=(v.alloc (.c #[.s g.i g.d.length g.b,.st g.k,.q g.e,.s g.g g.h.length g.a] G)).alloc (.c #[.s la n cap] E)) (iE g.v la n cap wks) v:=by
 simp only[Cn.v];generalize g.d.length=m;generalize g.h.length=r;simp only[vL,iE,UW,È,A7,Ak,uc,é];go_wp2_with fail;exact⟨_,_,J⟩
def rN U I ad(v:M)(O:Errs9 v ad)(Z:v.cell? (C (I+1) 0)=A (.s la n cap)):(vG uc).wp sr (λe a v'=>v'=v/\((e=.ret/\a.defers=[]/\a.tmps.getD 6 uu=.sn/\∃k:Nat,k<9/\Bl n wks=k+1/\a.tmps.getD 7 uu=.f 255 (.p (A (ad k))))\/(e=.normal/\Bl n wks=0/\a=ZO U la n cap wks I))) (UW U la n cap wks I) v:=by
 have V:=qX (QW n wks v ad O);clear O;simp only[vG,UW,ZO,È,A7,Ak,uc,é];go_wp2_with (apply V.o.mono)
 rintro e Y⟨rfl,⟨E,rfl⟩|⟨E,rfl⟩|⟨E,rfl⟩⟩
 . have G:=qX E;clear E;go_wp2_with fail;exact⟨2,N,by rw[G.o];rfl,J⟩
 . have G:=qX E;clear E;go_wp2_with fail;exact⟨1,N,by rw[G.o];rfl,J⟩
 have G:=qX E;clear E;go_wp2_with fail;exact G.o
def rS I G(E:Vl)(O:E=.n\/∃t x,E=.f t x)(v:M):(VZ uc).wp sr (λe a v'=>v'=v/\((e=.ret/\a.defers=[]/\a.tmps.getD 6 uu=.sn/\a.tmps.getD 7 uu=E/\E≠.n)\/(e=.normal/\E=.n/\a=UL I la n cap wks G))) (Zr I la n cap wks G E) v:=by
 obtain rfl|⟨t,x,rfl⟩:=O
 . simp only[VZ,aX,Zr,UL,È,A7,Ak,uc,é];go_wp2_with fail
 simp only[VZ,aX,Zr,UL,È,A7,Ak,uc,é];go_wp2_with fail
end
open Go.ConcR (KK WgAt stA smA rd wr mk)
structure Y4 (H R:Nat->Prop)(T:Nat->Nat)(ad:Nat->xr)(n cap:Nat)(la:oA)(g:Cn)(a:Nat->oA)(capi:Nat->Nat)(ps:Nat->List Pk)(w:M):Prop where
 j:Errs9 w ad
 d:DF H w
 e:∀b,b<sr.globals.size->b<w.heap.size/\¬H b
 f:∀b,R b->b<w.heap.size/\¬H b
 k:Ķ (Ė JF) R T w
 l:∀x,E9 x=sy->R x
 p:∀b,0<T b->R b
 r:Errs9 (Õ T w) ad
 q:CS (Õ T w) g.i g.b g.d g.g g.a g.h
 m:∀i,i<n->∃B off,la=A (C B off)/\(Õ T w).cell? (C B (off+i))=A (.s (a i) (ps i).length (capi i))
 h:∀i,i<n->CU (Õ T w) (a i) (capi i) (ps i)
 t:∀x,g.i=A x->R x.block
 u:∀x,g.g=A x->R x.block
 v:∀x,la=A x->R x.block
def iZ (g:Cn)(ps:Nat->List Pk)(n:Nat)(wks:Int)(x y:Vl)(w:M):=
 (Bl n wks≠0/\x=.sn/\Bo w y (Bl n wks) (-1))\/
 (Bl n wks=0/\∃c p,GV g.d (Ê g.k.toList) g.e g.h c p/\0<c/\x=.sn/\Bo w y c p)\/
 (Bl n wks=0/\GV g.d (Ê g.k.toList) g.e g.h 0 (-1)/\NL (λi=>nM g (ps i) w) (λi=>yz g (ps i)) n x y w)
def Kz{F S}{a:oA}{n c}(h:∀x,a=A x->S x.block):VR F (Ô.j S) (.s a n c) (.s a n c):=by
 cases a with
 |none=>exact VR.e ⟨sA,J,sk⟩
 |some x=>exact VR.e ⟨A x,J,⟨J,h x J⟩,J,J⟩
section
variable {H R:Nat->Prop}{T:Nat->Nat}{ad:Nat->xr}{n cap:Nat}{la:Option xr}{g:Cn}{a:Nat->Option xr}{capi:Nat->Nat}{ps:Nat->List Pk}{w w1:tz}
def Y4.s{c b:tI}(h:Y4 H R T ad n cap la g a capi ps w)(O:Am w w1)(i:n<=100)
  (X:w1.heap[w.heap.size]? = A (.c #[.s g.i g.d.length g.b,.st g.k,.q g.e,.s g.g g.h.length g.a] c (0,0)))(W:w1.heap[w.heap.size+1]? = A (.c #[.s la n cap] b (0,0))):
  JY H (λb=>R b\/b=w.heap.size\/b=w.heap.size+1) (λb=>if b=w.heap.size then 4 else if b=w.heap.size+1 then 1 else T b) ad w.heap.size (w.heap.size+1) n cap la g a capi ps w1:=by
 have Z:∀b,R b->b<w.heap.size:=λb I=>(h.f b I).1
 have B:∀b,b<w.heap.size->(if b=w.heap.size then 4 else if b=w.heap.size+1 then 1 else T b)=T b:=λb I=>by rw[Ä (by omega),Ä (by omega)]
 have n:(if w.heap.size=w.heap.size then 4 else if w.heap.size=w.heap.size+1 then 1 else T w.heap.size)=4:=by rw[Æ J]
 have H:(if w.heap.size+1=w.heap.size then 4 else if w.heap.size+1=w.heap.size+1 then 1 else T (w.heap.size+1))=1:=by rw[Ä (by omega),Æ J]
 have Y:(Ô.j R).d (Ô.j λb=>R b\/b=w.heap.size\/b=w.heap.size+1):=λa b a=>⟨a.1,.inl a.2⟩
 have a:Ci (Õ T w) (Õ (λb=>if b=w.heap.size then 4 else if b=w.heap.size+1 then 1 else T b) w1):=by
  refine⟨by rw[Fq,Fq];exact O.h,λp x G _=>?_⟩;let⟨b,j⟩:=VA G;have c:=Z p.block (h.p p.block (Nat.lt_of_le_of_lt (uD _) b));rw[El p (by have:=B p.block c;show p.off<(if p.block=w.heap.size then 4 else if p.block=w.heap.size+1 then 1 else T p.block);rw[this];exact b)];exact O.E j
 have c:∀(j:Nat) x,(#[.s g.i g.d.length g.b,.st g.k,.q g.e,.s g.g g.h.length g.a]:Array Vl)[j]? = A x->(Õ (λb=>if b=w.heap.size then 4 else if b=w.heap.size+1 then 1 else T b) w1).cell? (C w.heap.size j)=A x:=λj x G=>by
  have g:=BI G;rw[El _ (by rw[n];exact g)];simp only[sY,X];simpa using G
 refine⟨i,h.j.m O,h.d.later O,λb I=>⟨rZ (h.e b I).1 O.h,(h.e b I).2⟩,⟨λx G=>?_,λx G=>.inl (h.l x G),.inr (.inl J),.inr (.inr J),?_,λb I=>?_,h.r.t a,⟨c 0 _ J,c 1 _ J,c 2 _ J,c 3 _ J⟩,h.q.t a,?_,λi n=>?_,λi n=>(h.h i n).t a⟩,?_⟩
 .
  obtain G|rfl|rfl:=G
  . let⟨c,t,g,V,U⟩:=h.k x G;exact⟨c,t,g,(O.g x (Z x G)).trans V,λj y g E=>(U j y (by rw[B x (Z x G)]at g;exact g) E).l Y⟩
  .
   refine⟨_,_,_,X,λj y _ E=>?_⟩
   match j,E with
   |0,E=>cases E;exact Kz λx G=>.inl (h.t x G)
   |1,E=>cases E;exact VR.e J
   |2,E=>cases E;exact VR.int _ _
   |3,E=>cases E;exact Kz λx G=>.inl (h.u x G)
   |j+4,E=>simp at E
  refine⟨_,_,_,W,λj y _ E=>?_⟩
  match j,E with
  |0,E=>cases E;exact Kz λx G=>.inl (h.v x G)
  |j+1,E=>simp at E
 .
  refine m8 λY=>?_
  have:=(h.e w1.heap.size Y).1;have:=O.h;omega
 .
  by_cases V:b=w.heap.size
  . exact .inr (.inl V)
  by_cases U:b=w.heap.size+1
  . exact .inr (.inr U)
  rw[Ä V,Ä U]at I;exact .inl (h.p b I)
 . rw[El _ (by rw[H];exact Nat.zero_lt_one)];simp[sY,W]
 . let⟨B,off,V,U⟩:=h.m i n;exact⟨B,off,V,a.E _ _ U J⟩
 rintro b (I|rfl|rfl)
 . exact⟨rZ (Z b I) O.h,(h.f b I).2⟩
 . exact⟨AZ X,λY=>by have:=h.d.G Y;omega⟩
 exact⟨AZ W,λY=>by have:=h.d.G Y;omega⟩
def qK (ad:Nat->xr)(c p:Int)(e:Ending)(w':M):=Errs9 w' ad/\∃E,e=.r E/\Bo w' E c p
def yA{Z V c p}(h:JY H R T ad Z V n cap la g a capi ps w)(Y:GV g.d (Ê g.k.toList) g.e g.h c p):Ď sr 17 #[g.v] (Õ T w) (qK ad c p):=by
 refine⟨λt=>?_,λe w'⟨_,E,G,_⟩=>⟨E,G⟩⟩;have O:=Ci.d (Õ T w) t;have I:=h.call.j.t O;apply(RS.a g.i g.b g.d g.k g.e g.g g.a g.h _ ad c p I (h.call.q.t O) Y).mono
 rintro e w'⟨E,rfl,G,U⟩;exact⟨I.d U,E,J,G⟩
def oH{Z V c p}{Post:Vl->M->Prop}{b}{cs:lF}(h:JY H R T ad Z V n cap la g a capi ps w)(n:(∀x,g.i=A x->R x.block)/\∀x,g.g=A x->R x.block)(r:GV g.d (Ê g.k.toList) g.e g.h c p)
  (V:∀I w',Am w w'->Bo w' I c p->AO sr Post H (G (b.finish I) cs) w'):AO sr Post H (G (Frame.enter sr 17 #[g.v] .normal) (b::cs)) w:=by
 have a:=FC.v (P:=sr) (T:=T) (w:=w) QY h.call.k h.call.l (f:=17) (args:=#[g.v]) (by decide+kernel) ⟨_,_,Tryz.func17,J⟩ (λj x E=>by
  match j,E with
  |0,E=>cases E;exact (by
    refine VR.e ⟨_,J,J,λi x y E f=>?_⟩;rw[E]at f;cases f
    match i,E with
    |0,E=>cases E;exact Kz n.1
    |1,E=>cases E;exact VR.e J
    |2,E=>cases E;exact VR.int _ _
    |3,E=>cases E;exact Kz n.2
    |i+4,E=>simp at E)
  |j+1,E=>simp at E) (b::cs)
 have f:=yA h r;refine AO.goes (R:=R) J QY h.call.d f a.y (λb U=>(h.f b U).2) (λb U=>h.d.G U) (λv w' g b=>?_) _ (XJ QY h.call.d f a.y) _ _ _ _ a (λx y a _=>a.2) (Am.I w);obtain⟨x,r,L,a,f,t,j,⟨-,I,n,O⟩,w,f,i⟩:=g;obtain rfl:I=a:=(Ending.returned.inj n).symm;have g:=h.j.m b;have h:MX r:=λz a=>i z (by
  unfold E9;rw[show[3,1,0,4,5,6,7,8,2].contains z=sy from List.contains_iff_mem.2 a];simp)
 have a:Bo (À x t) I c p:=⟨O.code.u λ_=>J,O.a,O.b⟩
 have Y:Bo (À w' j) v c p:=a.e f h (g.u λ_=>J) w;exact V v w' b ⟨Y.code.u λ_=>J,Y.a,Y.b⟩
end
open Go.ConcR (KK WgAt stA smA rd wr mk)
def YS (f:zJ)(I:Vl)(E:oA)(n cap:Nat)(wks:Int)(cs:lF):gR:=G ((base 7).at (iE I E n cap wks) [.code (È f)]) cs
section
variable {H R:Nat->Prop}{T:Nat->Nat}{ad:Nat->xr}{cs:List Frame}{w:tz}{Post:Value->tz->Prop}{n cap:Nat}{wks:Int}{la:Option xr}{g:Cn}{a:Nat->Option xr}{capi:Nat->Nat}{ps:Nat->List Pk}
def uM (h:Y4 H R T ad n cap la g a capi ps w){b₀:Frame}{a₀ ops i rest k}
  (se:∀(R) x y w',Am w w'->DF R w'->(∀b,R b->H b\/w.heap.size<=b)->iZ g ps n wks x y w'->AO sr Post R (G (b₀.at (a₀.put ((ops[i]?).bind (·.dst)) (.t #[x,y])) (.inRegion ops rest::k)) cs) w'):
  AO sr Post H (YS uc g.v la n cap wks (b₀.at a₀ (.inRegion ops (i::rest)::k)::cs)) w:=by
 let⟨r9,K,G⟩:=RG g.d (IX g.k.toList) g.e g.h;unfold YS;have a:È uc=.seq (vL uc) (.seq (vG uc) (.seq (.seq (A7 (aX uc)) (VZ uc)) (.seq (A7 (Ak (Ak (Ak (È uc))))) .ret))):=rfl;rw[a];refine AO.k ?_
 refine AO.g (p:=Di) D6 (Q:=(λe a v'=>e=.normal/\∃v,Bp H v w/\Am v v'/\a=UW g.v la n cap wks w.heap.size/\∃i k,v'.heap[w.heap.size]? = A (.c #[.s g.i g.d.length g.b,.st g.k,.q g.e,.s g.g g.h.length g.a] i (0,0))/\v'.heap[w.heap.size+1]? = A (.c #[.s la n cap] k (0,0)))) ⟨⟨_,AE⟩,J,J⟩ (by decide+kernel) h.d.y (λv E=>?_) (λe a v' b=>.inl b.1) (λe a v' t⟨V,v,I,U,Y⟩=>⟨V,v,I,U.d t,Y⟩) ?_ (λa' todo v' w' b=>by cases b.1)
 .
  refine tL ?_ (pD g v)
  rintro e a v'⟨V,I,i,k,rfl⟩;rw[<-E.h]at I;have a:(v.alloc (.c #[.s g.i g.d.length g.b,.st g.k,.q g.e,.s g.g g.h.length g.a] i)).heap.size=w.heap.size+1:=by rw[Cx,E.h]
  refine⟨V,v,E,Am.e (ba.alloc (by rw[Cx];omega) _),I,i,k,?_,?_⟩
  . rw[Ø _ _ (by omega),E.h];exact Ù _ _
  rw[<-a];exact Ù _ _
 rintro a' v' q⟨-,v,E,O,rfl,i,k,k,i⟩a e;have P:=Am.a E a e O;have y:=a.e k λb=>by have:=h.d.G b;omega
 have x:=a.e i λb=>by have:=h.d.G b;omega
 clear E O k i a e v v';have i:=h.d.later P;have r7:=h.j.m P;have F:q.cell? ⟨w.heap.size+1,0,sA⟩=A (.s la n cap):=by simp[sY,x]
 refine AO.k ?_
 refine AO.g (p:=Di) D6 (Q:=(λe a v'=>(∃v,Bp H v q/\Am v v')/\
   ((e=.ret/\a.defers=[]/\a.tmps.getD 6 yf=.s sA 0 0/\∃k:Nat,k<9/\Bl n wks=k+1/\a.tmps.getD 7 yf=.f 255 (.p (A (ad k))))\/(e=.normal/\Bl n wks=0/\a=ZO g.v la n cap wks w.heap.size)))) ⟨⟨_,AE⟩,J,J⟩ (by decide+kernel) i.y (λv E=>?_) (λe a v' b=>b.2.elim (λq=>.inr q.1) λq=>.inl q.1) (λe a v' t⟨⟨v,I,U⟩,Y⟩=>⟨⟨v,I,U.d t⟩,Y⟩) ?_ ?_
 .
  refine tL ?_ (rN g.v w.heap.size ad v (r7.E i E) (i.E E F (by simp) (by simp)))
  rintro e a v'⟨rfl,q⟩;exact⟨⟨v',E,Am.I _⟩,q⟩
 .
  rintro a' v' S⟨⟨v,E,O⟩,⟨V,-⟩|⟨-,L,rfl⟩⟩W X
  . cases V
  have k:=Am.a E W X O;clear E O W X v v';have i:=P.G k;have e:=h.d.later i;let⟨D,F,b⟩:=cK L;have b:=(k.g _ (AZ y)).trans y;have R:=(k.g _ (AZ x)).trans x;have r7:=h.s i (by omega) b R
  iterate 2 refine AO.k ?_
  have k:A7 (aX uc)=A7 (A7 (Ak (Ak (È uc)))):=rfl;rw[k];unfold ZO;simp only[È,A7,Ak,uc,é];refine AO.k ?_
  try walk_nrm
  refine AO.h (p:=Di) D6 (Q:=λx v'=>x=g.v/\∃v,Bp H v S/\v'=v) J J (by decide) J e.y (λv E=>?_) ?_
  . refine⟨g.v,v,?_,J,v,E,J⟩;have k:=e.E E (a:=⟨w.heap.size,0,sA⟩) (x:=.s g.i g.d.length g.b) (by simp[sY,b]) (by simp) (by simp);have k:=e.E E (a:=⟨w.heap.size,1,sA⟩) (x:=.st g.k) (by simp[sY,b]) (by simp) (by simp);have k:=e.E E (a:=⟨w.heap.size,2,sA⟩) (x:=.q g.e) (by simp[sY,b]) (by simp) (by simp);have k:=e.E E (a:=⟨w.heap.size,3,sA⟩) (x:=.s g.g g.h.length g.a) (by simp[sY,b]) (by simp) (by simp);unfold Cn.v;go_simp
  rintro x v' k⟨rfl,v,E,rfl⟩b e;have y:Am S k:=Am.a E b e (Am.I _);clear E b e
  try walk_nrm
  have b:=r7.later y;apply AO.a (argv:=#[g.v]) J J (by decide) J Tryz.func17 (by decide) J (by simp[go_sem])
  refine oH b ⟨λx k=>.inl (h.t x k),λx k=>.inl (h.u x k)⟩ G λZ q k T=>?_
  have X:=(i.G y).G k;have b:=h.d.later X;rw[Frame.finish_at]
  try walk_nrm
  apply AO.v Z;try walk_nrm;refine AO.k ?_
  have i:Z=.n\/∃t x,Z=.f t x:=by
   obtain⟨e,-,-⟩|⟨e,-⟩:=G.d
   . exact .inl (T.a e)
   exact .inr (T.b (by omega))
  refine AO.g (c:=VZ uc) (a:=Zr g.v la n cap wks w.heap.size Z) (p:=Di) D6 (Q:=(λe a v'=>(∃v,Bp H v q/\Am v v')/\
    ((e=.ret/\a.defers=[]/\a.tmps.getD 6 yf=.s sA 0 0/\a.tmps.getD 7 yf=Z/\Z≠.n)\/(e=.normal/\Z=.n/\a=UL g.v la n cap wks w.heap.size)))) ⟨⟨_,AE⟩,J,J⟩ (by decide+kernel) b.y (λv E=>?_) (λe a v' b=>b.2.elim (λq=>.inr q.1) λq=>.inl q.1) (λe a v' t⟨⟨v,I,U⟩,Y⟩=>⟨⟨v,I,U.d t⟩,Y⟩) ?_ ?_
  .
   refine tL ?_ (rS g.v w.heap.size Z i v)
   rintro e a v'⟨rfl,q⟩;exact⟨⟨v',E,Am.I _⟩,q⟩
  .
   rintro a' v' q⟨⟨v,E,O⟩,⟨V,-⟩|⟨-,rfl,rfl⟩⟩W S
   . cases V
   have g:=Am.a E W S O;clear E O W S v v';have a:=X.G g;have b:=h.d.later a;have c:r9=0/\K= -1:=by
    obtain⟨i,h,-⟩|⟨e,-⟩:=G.d
    . exact⟨i,h⟩
    let⟨t,x,i⟩:=T.b (by omega);cases i
   obtain⟨rfl,rfl⟩:=c;have c:=(y.G k).G g;have g:=(c.g _ (AZ R)).trans R;have e:q.cell? ⟨w.heap.size+1,0,sA⟩=A (.s la n cap):=by simp[sY,g]
   unfold UL
   iterate 2 refine AO.k ?_
   try walk_nrm
   refine AO.h (p:=Di) D6 (Q:=λx v'=>x=.s la n cap/\∃v,Bp H v q/\v'=v) J J (by decide) J b.y (λv E=>?_) ?_
   . refine⟨.s la n cap,v,?_,J,v,E,J⟩;have:=b.E E e (by simp) (by simp);go_simp
   rintro x v' h⟨rfl,v,E,rfl⟩b g;have e:Am q h:=Am.a E b g (Am.I _);clear E b g
   try walk_nrm
   apply AO.v (.q n);try walk_nrm;apply AO.v (.q wks);try walk_nrm;apply AO.value (ē sy w.heap.size (w.heap.size+1)) J J (by decide) (λ_=>by go_simp;rfl) (λ_=>by simp[go_sem]);try walk_nrm;apply AO.call J J (by decide) J Tryz.func18 (by decide) J
   walk_nrmf Tryz.ntmps18
   apply(λh=>h)
   refine dR (r7.later (c.G e)) ⟨D,F⟩ λR x y b b' k i g=>?_
   walk_nrm
   apply AO.v x;try walk_nrm;apply AO.v y;try walk_nrm;apply AO.v x;try walk_nrm;apply AO.v y;try walk_nrm
   iterate 2 refine AO.k ?_
   apply AO.e (fn:=uc) (v:=.t #[x,y]) J J AE (λ_=>by simp[uK,uc]) (λ_=>by simp[uK,uc])
   have c:=(a.G e).G b';exact se R x y b c k (λb c=>IP id (λk=>rX (a.G e).h k) (i b c)) (.inr (.inr ⟨L,G,g⟩))
  rintro a' todo v' q⟨⟨v,E,O⟩,⟨-,I,U,Y,n⟩|⟨V,-⟩⟩W S
  .
   have g:=Am.a E W S O;have a:=X.G g;have k:0<r9:=by
    obtain⟨i,-,-⟩|⟨e,-⟩:=G.d
    . exact absurd (T.a i) n
    exact e
   refine AO.e (fn:=uc) (v:=.t #[.s sA 0 0,Z]) J I AE (λ_=>?_) (λ_=>by simp[uK,uc]) ?_
   . simp only[Η]at U Y;simp[uK,uc,U,Y]
   refine se H _ _ q a (h.d.later a) (λb c=>.inl c) (.inr (.inl ⟨L,r9,K,G,k,J,?_⟩));exact T.t (.b g)
  cases V
 rintro a' todo v' S⟨⟨v,E,O⟩,⟨-,I,U,a,Y,n,b⟩|⟨V,-⟩⟩W X
 .
  have k:=Am.a E W X O;have i:=P.G k;refine AO.e (fn:=uc) (v:=.t #[.s sA 0 0,.f 255 (.p (A (ad a)))]) J I AE (λ_=>?_) (λ_=>by simp[uK,uc]) ?_
  . simp only[Η]at U b;simp[uK,uc,U,b]
  refine se H _ _ S i (h.d.later i) (λb c=>.inl c) (.inl ⟨by omega,J,?_⟩);rw[n];exact CJ (h.j.m i) a Y
 cases V
end
variable {w w':M}{B:Nat}{v:Vl}{xs:List Vl}
def Ľ (E O Z U I Y G V:Vl)(f:Nat->Vl):Act:=⟨#[E,O,Z,U,f 4,f 5,I,Y,G,V,f 10,f 11,f 12,f 13,f 14,f 15,f 16,f 17,f 18,f 19,f 20,f 21,f 22,f 23,f 24,f 25,f 26,f 27,f 28,f 29,f 30,f 31,f 32,f 33,f 34,f 35,f 36,f 37,f 38,f 39,f 40,f 41,f 42,f 43,f 44,f 45,f 46,f 47,f 48,f 49,f 50,f 51,f 52,f 53,f 54,f 55,f 56,f 57,f 58,f 59,f 60,f 61,f 62,f 63,f 64,f 65,f 66,f 67,f 68,f 69,f 70,f 71,f 72,f 73,f 74,f 75,f 76,f 77,f 78,f 79,f 80,f 81,f 82,f 83,f 84,f 85,f 86,f 87,f 88,f 89,f 90,f 91,f 92,f 93,f 94,f 95,f 96,f 97,f 98,f 99,f 100,f 101,f 102,f 103,f 104,f 105,f 106,f 107,f 108,f 109,f 110,f 111,f 112,f 113,f 114,f 115,f 116,f 117,f 118,f 119,f 120,f 121,f 122,f 123,f 124,f 125,f 126,f 127,f 128,f 129,f 130,f 131,f 132,f 133,f 134,f 135,f 136,f 137,f 138,f 139,f 140,f 141,f 142],[]⟩
def l2 (E U ab Y O aa I Z G V:Vl)(f:Nat->Vl):Act:=⟨#[E,U,ab,Y,f 4,f 5,O,aa,I,Z,f 10,f 11,G,V,f 14,f 15,f 16,f 17,f 18,f 19,f 20,f 21,f 22,f 23,f 24,f 25,f 26,f 27,f 28,f 29,f 30,f 31,f 32,f 33,f 34,f 35,f 36,f 37,f 38,f 39,f 40,f 41,f 42,f 43,f 44,f 45,f 46,f 47,f 48,f 49,f 50,f 51,f 52,f 53,f 54,f 55,f 56,f 57,f 58,f 59,f 60,f 61,f 62,f 63,f 64,f 65,f 66,f 67,f 68,f 69,f 70,f 71,f 72,f 73,f 74,f 75,f 76,f 77,f 78,f 79,f 80,f 81,f 82,f 83,f 84,f 85,f 86,f 87,f 88,f 89,f 90,f 91,f 92,f 93,f 94,f 95,f 96,f 97,f 98,f 99,f 100,f 101,f 102,f 103,f 104,f 105,f 106,f 107,f 108,f 109,f 110,f 111,f 112,f 113,f 114,f 115,f 116,f 117,f 118,f 119,f 120,f 121,f 122,f 123,f 124,f 125,f 126,f 127,f 128,f 129,f 130,f 131,f 132,f 133,f 134,f 135,f 136,f 137,f 138,f 139,f 140,f 141,f 142],[]⟩
structure Ho (w:M)(B:Nat)(v:Vl)(cs:List (List Pk))(xs:List Vl):Prop where
 row:w.ownsRow B 29 1 v cs.length xs
 d:∀(i:Nat) ls,cs[i]? = A ls->∃x,xs[i]? = A x/\CF w B x ls/\∀g,x.ownBlock=A g->v.ownBlock≠A g
def Ho.later{cs}(h:Ho w B v cs xs)(G:zW w w'):Ho w' B v cs xs:=by
 refine⟨Ai h.row λg _ E=>G.block g E,λi g V=>?_⟩;let⟨x,I,U,O⟩:=h.d i g V;exact⟨x,I,Ai U λg _ E=>G.block g E,O⟩
def Ho.I{cs}(h:Ho w B v cs xs){ls}{x:Vl}(T:CF w B x ls)(W:∀g,x.ownBlock=A g->v.ownBlock≠A g){g O}
  (i:w'.ownsRow B 29 1 (.sl g 0 (cs.length+1) O) (cs.length+1) (xs++[x]))(e:w.grownBy w' v.ownBlock)(G:v.ownBlock=A g\/g=w.heap.size):Ho w' B (.sl g 0 (cs.length+1) O) (cs++[ls]) (xs++[x]):=by
 have S:xs.length=cs.length:=by have:=h.row.1;simpa using this
 have X:∀y l,CF w B y l->(∀g,y.ownBlock=A g->v.ownBlock≠A g)->CF w' B y l/\∀g',y.ownBlock=A g'->(Value.sl g 0 (cs.length+1) O).ownBlock≠A g':=λy l V U=>by
  refine⟨Ai V λk Z I=>e.block k I λe=>U k Z e.symm,λg' Y e=>?_⟩;obtain rfl:g=g':=Ö e;obtain G|G:=G
  . exact U g Y G
  have:=(AC V Y).2;omega
 refine⟨by rw[ý];exact i,λi l E=>?_⟩;obtain I|e:=nR i cs.length
 . rw[č I]at E;let⟨y,e,k,g⟩:=h.d i l E;exact⟨y,by rw[č N];exact e,X y l k g⟩
 have e:i=cs.length:=by
  have:=Ap E;simp at this
  omega
 subst e;obtain rfl:ls=l:=by simpa using E
 exact⟨x,by rw[<-S];simp,X x ls T W⟩
def Ie (w:M)(a:oA)(cs:List (List Pk)):=
 cs=[]\/∃b off,a=A (C b off)/\b<w.heap.size/\∀(i:Nat) ls,cs[i]? = A ls->∃a' cap,w.cell? (C b (off+i))=A (.s a' ls.length cap)/\CU w a' cap ls
def Ie.h{a cs}(h:Ie w a cs)(E:1<=cs.length):∃b off,a=A (C b off)/\b<w.heap.size/\∀(i) ls,cs[i]? = A ls->∃a' cap,w.cell? (C b (off+i))=A (.s a' ls.length cap)/\CU w a' cap ls:=by
 obtain rfl|h:=h
 . simp at E
 exact h
def EF (f:zJ):=Ak (Ak (È f))
def yL (f:zJ):=A7 (EF f)
def mU (f:zJ):=A7 (Ak (Ak (Ak (EF f))))
def Tryz.Mb:(sr.info? 29).map (λi=>(i.zero,i.size,i.bytes))=A (A (.sn),1,24):=kr
def fG (G I U O:Vl)(cs:List (List Pk))(v:M)(e:Exit)(a:Act)(v':M):=zW v v'/\
 ((e=.ret/\a.defers=[]/\a.tmps.getD 6 uu=.bool sy)\/
  (e=.normal/\(∀(i:Nat)(ls:List Pk),cs[i]? = A ls ->ls.length<= 120)/\∃E xs,Ho v' v.heap.size E cs xs/\a=Ľ G I U O (a.tmps.getD 6 uu) (.bool sy) (a.tmps.getD 8 uu) E λi=>a.tmps.getD i uu))
section
variable {cs:List (List Pk)}
def xC ca n ccap(g h:Value) wks(f:Nat ->Value)(v:tz)(hc:Ie v ca cs)(j:cs.length=n)(hn:n<= 110)(hcap:n<= ccap)(hsz:∀(i:Nat) ls,cs[i]? = A ls ->ls.length<= 9000000000000):
  (mU ti).wp sr (fG g (.slice ca n ccap) (.int .i64 wks) h cs v) (Ľ g (.slice ca n ccap) (.int .i64 wks) h (.bool ss) (.bool sy) (.int .i64 0) (.slice sA 0 0) f) v:=by
 obtain⟨iL,hiL,hzL0,hzL1,hzL2⟩:=ó Tryz.Mb
 have HC:sE (Ie v ca cs):=hc
 have HM:sE (cs.length=n):=j
 have HZ:sE (∀(i:Nat) ls,cs[i]? = A ls ->ls.length<= 9000000000000):=hsz
 have HQ0:sE (∀e a v',vl v.heap.size v v' ->e=.ret ->a.defers=[] ->a.tmps.getD 6 yf=.bool sy ->fG g (.slice ca n ccap) (.int .i64 wks) h cs v e a v'):=λe a v' h1 h2 U R=>⟨h1,.inl ⟨h2,U,R⟩⟩
 clear hc j hsz
 simp only[mU,EF,Ľ,È,A7,Ak,ti,é]
 go_wp2_with fail
 go_loopg[8,9,10] n (λgk sv v9 iv wr=>∃(i s:Nat),gk+i=n/\iv=.int .i64 i/\sv=.int .i64 s/\s<= 120/\vl v.heap.size v wr/\(∀(j:Nat)(ls:List Pk),j<i ->cs[j]? = A ls ->ls.length<= 120)/\∃xs,Ho wr v.heap.size v9 (cs.take i) xs)
 case atStart=>exact⟨0,0,by omega,J,J,by omega,br,λj ls hj=>by omega,[],⟨Ĉ _ _ _ _,λi ls h=>by simp at h⟩⟩
 case round=>
  obtain⟨i,s,hi',rfl,rfl,hs,hb,hle,xs,hown⟩:=hrel
  have HR:sE (vl v.heap.size v wr/\(∀(j:Nat)(ls:List Pk),j<i ->cs[j]? = A ls ->ls.length<= 120)):=⟨hb,hle⟩
  have S:sE (Ho wr v.heap.size _ (cs.take i) xs):=hown
  clear hb hle hown
  by_cases him:i<n
  .
   obtain⟨ls,hls,-⟩:=Ao cs i (by rw[HM.o];exact him)
   obtain⟨cb,co,rfl,-,hcc⟩:=HC.o.h (by rw[HM.o];omega)
   obtain⟨a',cap,g,hlies⟩:=hcc i ls hls
   have R:=HZ.o i ls hls
   have hlc:=hlies.b
   have cj':=jf HR.o.1 g
   have HLs:sE (cs[i]? = A ls):=hls
   have HTk:sE (cs.take (i+1)=cs.take i++[ls]/\(cs.take i).length=i):=⟨by rw[Δ,hls];rfl,by rw[Ε,HM.o];omega⟩
   by_cases h20:120<s+ls.length
   .
    obtain⟨q,hq⟩:=ex ls.length
    rw[hq]at cj' h20 hlc R
    clear hcc g hlies hls
    go_wp2_with fail
    exact HQ0.o _ _ _ HR.o.1 J J J
   .
    have HOl:sE (Calls sr 6 #[.slice a' ls.length cap] wr λe w'=>∃v,e=.returned v/\CF w' wr.heap.size v ls/\vl wr.heap.size wr w'):=by
     apply Io;have hl:=(hlies.h.d HR.o.1)
     have f:=hlies.a
     obtain⟨i0,hi,hz0,hz1,hz2⟩:=ó Tryz.l
     cases a' with
     |none=>
      obtain⟨rfl,rfl⟩:=f J
      show Calls sr 6 #[.slice sA 0 0] wr _
      go_in
      go_wp2
      go_ret
      exact⟨_,J,Ĉ _ _ _ _,br⟩
     |some ad=>
      have H1:sE (∀j u,(Dk ls)[j]? = A u ->wr.cell? (ad.add j)=A u):=Qh hl
      have H2:sE ((Dk ls).length=ls.length*3):=O3 ls
      have H3:sE (∀u∈Dk ls,u.oneCell'=sy):=PG ls
      clear hl f
      go_in
      go_wp2_with (at_builtin;apply wpList_append_own _ J _ _ 29 J wr.heap.size 68 i0 (.agg #[.int .i64 0,.int .i64 0,.int .i64 0]) 3 24 Tryz.underlying29 hi hz0 hz1 hz2 J (by decide) (.slice sA 0 0) 0 [] J (Ĉ _ _ _ _) ad ls.length cap (Dk ls) J H2.o H1.o H3.o (by unfold s7;omega) (by omega) lr;intro v' w3 hown' hgrow3 hnil3)
      go_ret
      refine⟨_,J,by simpa[CF] using hown',?_⟩
      exact br.grown hgrow3 lr (nofun)
    have HLe:sE (∀(j:Nat)(l:List Pk),j<i+1 ->cs[j]? = A l ->l.length<= 120):=λj l hj hl=>by
     by_cases hji:j<i
     . exact HR.o.2 j l hji hl
     .
      obtain rfl:j=i:=by omega
      rw[hls]at hl
      cases hl
      omega
    obtain⟨q,hq⟩:=ex ls.length
    have HQ:sE (ls.length=q):=hq
    rw[hq]at cj' h20 hlc HOl R
    clear hcc g hlies hls hq
    go_wp2_with fail
    apply HOl.o.mono
    rintro e w5⟨v5,rfl,hov,hb5⟩
    have hO5:=S.o.later hb5
    have hw5:=HR.o.1.size
    obtain⟨la,lcap,rfl,hl1,hl2,-⟩:=hov.open
    have hne:∀g,(Value.slice la ls.length lcap).ownBlock=A g ->u9.ownBlock≠A g:=λg hg e=>by
     have h1:=(AC hov hg).1
     have h2:=(AC S.o.row e).2
     omega
    rw[HQ.o]at hl1 hne hov⊢
    have hb6:vl w5.heap.size w5 (w5.alloc (.cells #[.slice la q lcap] 29)):=ba
    have hbw:vl v.heap.size v w5:=HR.o.1.trans (hb5.mono hw5)
    have HY:sE (Ho (w5.alloc (.cells #[.slice la q lcap] 29)) v.heap.size u9 (cs.take i) xs/\CF (w5.alloc (.cells #[.slice la q lcap] 29)) v.heap.size (.slice la q lcap) ls/\(∀g,(Value.slice la q lcap).ownBlock=A g ->u9.ownBlock≠A g)/\v.heap.size<= (w5.alloc (.cells #[.slice la q lcap] 29)).heap.size/\vl v.heap.size v (w5.alloc (.cells #[.slice la q lcap] 29))):=⟨hO5.later hb6,Ai (BA hov hw5) λg _ hlt=>hb6.block g hlt,hne,rX hbw.size hb6.size,hbw.tr hb6⟩
    have hrow:=HY.o.1.row
    rw[HTk.o.2]at hrow
    have HRow:sE ((w5.alloc (.cells #[.slice la q lcap] 29)).ownsRow v.heap.size 29 1 u9 i xs):=hrow
    clear hov hb5 hO5 hl1 hl2 hne hb6 hbw hrow hw5
    go_wp2_with (at_builtin;go_must (apply xl _ J _ _ 26 J v.heap.size 29 iL (.slice sA 0 0) 1 24 Tryz.underlying26 hiL hzL0 hzL1 hzL2 J (by decide) u9 i xs J HRow.o ⟨w5.heap.size,0,sA⟩ 1 1 [.slice la q lcap] J J (by intro j u hj;cases j with|zero=>(have:u=.slice la q lcap:=by simpa using hj.symm);rw[this];simp[Addr.add]|succ j=>simp at hj) (by intro u hu;rw[Đ.1 hu];rfl) (by decide) (by unfold s7;omega) (by omega) HY.o.2.2.2.1 _ J;intro g cap' a h1 h2 U R;have HPut:sE (vl v.heap.size v a/\∃xs,Ho a v.heap.size (.slice (A ⟨g,0,sA⟩) (i+1) cap') (cs.take (i+1)) xs):=⟨HY.o.2.2.2.2.grown h2 HY.o.2.2.2.1 (λk T=>(AC HRow.o T).1),_,by rw[HTk.o.1];exact HTk.o.2▸HY.o.1.I HY.o.2.1 HY.o.2.2.1 (by rw[HTk.o.2];exact h1) h2 U⟩;clear h1 h2 U R))
    go_roundg (gk - 1)
    case measure=>omega
    case rel=>exact⟨i+1,s+q,by omega,by go_num,by go_num,by omega,HPut.o.1,HLe.o,HPut.o.2⟩
  .
   obtain rfl:i=n:=by omega
   go_wp2_with fail
   have htk:cs.take i=cs:=by rw[<-HM.o];exact ln
   have a:=S.o
   rw[htk]at a
   refine⟨HR.o.1,.inr ⟨J,λj ls hj=>HR.o.2 j ls (by have:=Ap hj;rw[HM.o]at this;exact this) hj,_,xs,a,J⟩⟩
end
open Go.ConcR (WgAt)
variable {b j:Nat}{a:oA}{ls:lI}
structure Qw (s0:Nat)(w:M)(ad:Nat->xr):Prop where
 toW:We s0 w ad
 a:∃c t fz,w.heap[sr.globals.size]? = A (.c c t fz)
 q:sr.globals.size<s0
def Qw.m{s0}{w w1:M}{ad}(h:Qw s0 w ad)(E:Am w w1):Qw s0 w1 ad:=by
 refine⟨h.toW.m E,?_,h.q⟩;let⟨c,t,I,G⟩:=h.a;exact⟨c,t,I,(E.g _ (AZ G)).trans G⟩
def Ž (k:Nat):Vl->Option (Nat×Nat)
 |.slice (A a) n _=>A (a.block,n*k)
 |_=>sA
def Oz (b:Nat):List (Nat×Nat)->Nat
 |[]=>0
 |(x,c)::l=>max (if x=b then c else 0) (Oz b l)
def yg{b c}:∀{l},(b,c)∈l->c<=Oz b l
 |(x,d)::l,h=>by
  obtain h|h:=sV.1 h
  .
   cases h
   simp only[Oz,ô];exact Nat.le_max_left _ _
  exact rX (yg h) (Nat.le_max_right _ _)
def jZ{b j}:∀{l},j<Oz b l->∃c,(b,c)∈l/\j<c
 |[],h=>by cases h
 |(x,d)::l,h=>by
  simp only[Oz]at h;by_cases E:j<(if x=b then d else 0)
  .
   by_cases G:x=b
   . subst G;rw[Æ J]at E;exact⟨d,sm,E⟩
   rw[Ä G]at E;omega
  let⟨c,I,O⟩:=jZ (b:=b) (j:=j) (l:=l) N;exact⟨c,Ĥ _ I,O⟩
def UK (I G E:Vl)(xs O:List Vl):=(Ž 1 I).toList++((Ž 1 G).toList++((Ž 1 E).toList++(xs.filterMap (Ž 2)++O.filterMap (Ž 3))))
def rE (E:List (Nat×Nat))(ad:Nat->xr)(b:Nat):=E9 b=sy\/(∃k,k<9/\b=(ad k).block)\/∃c,(b,c)∈E
def tE (s0:Nat)(E:List (Nat×Nat))(b:Nat):=if b<s0 then(if Ep b=sy then 1 else 0)else Oz b E
def LK{k c v}(h:Ž k v=A (b,c)):∃a n cap,v=.s (A a) n cap/\a.block=b/\n*k=c:=by
 cases v<;>simp only[Ž]at h<;>try cases h
 rename_i a n cap
 cases a with
 |none=>cases h
 |some a=>
  simp only[Ž,k6,ž]at h;exact⟨a,n,cap,J,h.1,h.2⟩
def JX{T}{w:M}{a}{x:Vl}(h:w.cell? a=A x)(E:a.off<T a.block):(Õ T w).cell? a=A x:=by rw[El a E];exact h
section
variable {T:Nat->Nat}{w:tz}
def ik (h:Cr w a ls)(O:∀b o,a=A (C b o)->o+ls.length*2<=T b):Cr (Õ T w) a ls:=by
 obtain h|⟨b,off,E,I,G⟩:=h
 . exact .inl h
 refine .inr ⟨b,off,E,by rw[Fq];exact I,λi x y h=>?_⟩;have U:=O b off E;have V:i<ls.length:=(ŭ.1 h).1;exact⟨JX (G i x y h).1 (by show off+i*2<T b;omega),JX (G i x y h).2 (by show off+i*2+1<T b;omega)⟩
def bH{ls:lZ}(h:Bc w a ls)(I:∀b o,a=A (C b o)->o+ls.length<=T b):Bc (Õ T w) a ls:=by
 obtain h|⟨b,off,E,G,O⟩:=h
 . exact .inl h
 refine .inr ⟨b,off,E,by rw[Fq];exact G,λi x h=>?_⟩;have U:=I b off E;have V:i<ls.length:=(ŭ.1 h).1;exact JX (O i x h) (by show off+i<T b;omega)
def eQ{ls}(h:AL w a ls)(O:∀b o,a=A (C b o)->o+ls.length*3<=T b):AL (Õ T w) a ls:=by
 obtain h|⟨b,off,G,I,E⟩:=h
 . exact .inl h
 refine .inr ⟨b,off,G,by rw[Fq];exact I,λi p h=>?_⟩;have U:=O b off G;have V:i<ls.length:=(ŭ.1 h).1;exact⟨JX (E i p h).1 (by show off+i*3<T b;omega),JX (E i p h).2.1 (by show off+i*3+1<T b;omega),JX (E i p h).2.2 (by show off+i*3+2<T b;omega)⟩
end
def ND{w:M}{cur:Array Vl}{e:tI}(h:w.heap[b]? = A (.c cur e (0,0))):w.cell? (C b j)=cur[j]?:=by simp[sY,h]
def xS{w:M}(h:Cr w (sa b 0) ls)(G:j<ls.length*2):∃z,w.cell? (C b j)=A (.q z):=by
 obtain rfl|⟨U,off,e,-,I⟩:=h
 . simp at G
 cases e
 obtain⟨⟨x,y⟩,O,-⟩:=Ao ls (j/2) N;have:=I (j/2) x y O;obtain E|E:=Nat.mod_two_eq_zero_or_one j
 . rw[show 0+j/2*2=j by omega]at this;exact⟨x,this.1⟩
 rw[show 0+j/2*2+1=j by omega]at this;exact⟨y,this.2⟩
def qJ{w:M}{ls:lZ}(h:Bc w (sa b 0) ls)(E:j<ls.length):∃z,w.cell? (C b j)=A (.q z):=by
 obtain⟨O,off,e,-,G⟩:=h.h N;cases e
 obtain⟨x,I,-⟩:=Ao ls j E;have:=G j x I;rw[Ă]at this;exact⟨x,this⟩
def p9{w:M}{ls}(h:AL w (sa b 0) ls)(Y:j<ls.length*3):∃z,w.cell? (C b j)=A (.q z):=by
 obtain⟨Z,off,e,-,U⟩:=h.h N;cases e
 obtain⟨p,V,-⟩:=Ao ls (j/3) N;let⟨G,I,O⟩:=U (j/3) p V;have E:j%3=0\/j%3=1\/j%3=2:=N;obtain E|E|E:=E
 . rw[show 0+j/3*3=j by omega]at G;exact⟨_,G⟩
 . rw[show 0+j/3*3+1=j by omega]at I;exact⟨_,I⟩
 rw[show 0+j/3*3+2=j by omega]at O;exact⟨_,O⟩
open Go.ChangeShapes Go.WideShapes Go.ChangeAt
def Zb{W:M}(V:W.ShapedOpen sr){g}(Y:g<sr.globals.size)(U:(((begin sr (λ_ _=>0) default).world.heap[g]?).bind Obj.row?).map (λp=>p.1.size)=A 1):∃x t,W.heap[g]? = A (.c #[x] t (0,0)):=by
 let⟨⟨zero,t⟩,O,I⟩:=ė.1 U;obtain⟨p,E,G,-⟩:=V.1 g zero t Y O;have G:=G.trans I;let⟨l⟩:=p
 match l,G,E with
 |[y],_,E=>exact⟨y,t,E⟩
def bD{W:M}(I:W.ShapedOpen sr){g}(E:Ep g=sy):∃x t,W.heap[g]? = A (.c #[x] t (0,0)):=by
 have G:=E;simp only[Ep,CY,ł,Ł,lV,sV,ġ,ĝ,kZ]at G;have O:=TS E;obtain rfl|rfl|rfl|rfl|rfl|rfl|rfl|rfl|rfl|rfl:=G<;>exact Zb I O kr
def WA{W:M}(h:laidMetH sr Rows.sideRunsRow.laid W)(Y:W.ShapedOpen sr)(s:sr.globals.size<=W.heap.size):∃ad,We W.heap.size W ad:=by
 let⟨ad,E,Z⟩:=Wp h;have o:∀g,Ep g=sy->∃h v,W.cell? (C g 0)=A (.f h v):=λg I=>by
  simp only[Ep,CY,ł,Ł,lV,sV,ġ,ĝ,kZ]at I;obtain rfl|rfl|rfl|rfl|rfl|rfl|rfl|rfl|rfl|rfl:=I
  . exact⟨_,_,E.g⟩
  . exact⟨_,_,E.e⟩
  . exact⟨_,_,E.a⟩
  . exact⟨_,_,E.k⟩
  . exact⟨_,_,E.l⟩
  . exact⟨_,_,E.b⟩
  . exact⟨_,_,E.p⟩
  . exact⟨_,_,E.q⟩
  . exact⟨_,_,E.r⟩
  exact⟨_,_,E.i⟩
 refine⟨ad,E,λg I=>bD Y I,λk O=>?_,λk O=>?_,s,lr⟩
 .
  cases aa:Ep (ad k).block with
  |false=>rfl
  |true=>
   let⟨s,G⟩:=Z k O;let⟨x,t,V⟩:=bD Y aa;let⟨h,v,s⟩:=o _ aa;have g:x=.f h v:=by simpa[sY,V]using s
   subst g;unfold sY at G;rw[V]at G;simp at G
   obtain⟨-,U⟩:=G;rcases hoff:(ad k).off with _|o<;>rw[hoff]at U<;>simp at U
 let⟨s,G⟩:=Z k O;exact BZ G
def Ws{W:M}(h:laidMetH sr Rows.sideRunsRow.laid W)(O:W.ShapedOpen sr)(Y:sr.globals.size<=W.heap.size):∃ad,Qw W.heap.size W ad:=by
 let⟨ad,U⟩:=WA h O Y;let⟨o,Z,G,V,I⟩:=O.2 _ lr (Θ kr);have E:((begin sr (λ_ _=>0) default).world.heap[sr.globals.size]?).map (λo=>match o with|.cells _ _ _=>sy|_=>ss)=A true:=kr;rw[Ο,Ä dc]at I;subst I;rw[V]at E;refine⟨ad,U,?_,AZ G⟩;cases o<;>first|exact⟨_,_,_,G⟩|(simp at E;done)
def zK (E I U O:Vl)(cs:List lI)(G:lZ)(n:Nat)(e:Exit)(a:Act):=(e=.ret/\a.defers=[]/\a.tmps.getD 6 uu=.bool sy)\/(e=.normal/\n<=110/\WQ cs G/\a=Ľ E I U O (.bool ss) (.bool sy) (a.tmps.getD 8 uu) (a.tmps.getD 9 uu) λi=>a.tmps.getD i uu)
def rk (E I U O:Vl)(cs:List lI)(G:lZ)(n:Nat)(v:M)(e:Exit)(a:Act)(v':M):=zW v v'/\zK E I U O cs G n e a
def pM (g:Cn)(m:oA) n cap wks U Z ax av f(v:M)(r:CE v U (.s g.i g.d.length g.b) g.k g.e (.s g.g g.h.length g.a))(O:EW v g.i g.d)(E:g.d.length<=g.b)(X:g.b<=s7)(G:g.h.length<=g.a)(e:g.a<=s7):(yL ti).wp sr (rk Z (.s m n cap) (.q wks) (.pp U 0) g.d g.h n v) (Ľ Z (.s m n cap) (.q wks) (.pp U 0) (.bool ss) (.bool sy) ax av f) v:=by
 have I:=qX (uB g.i g.b g.d g.k g.e g.g g.a g.h v O E X G e);obtain⟨f,m,m,v⟩:=r;let⟨r,Y⟩:=ex g.d;let⟨U,V⟩:=ex g.h;rw[Y]at f I;rw[V]at v I;rw[Y,V];let⟨m,g⟩:=ex r.length;let⟨r,m⟩:=ex U.length;rw[g]at f I;rw[m]at v I;clear O E X G e Y V;by_cases e:110<n
 .
  simp only[yL,EF,Ľ,È,A7,Ak,ti,é];go_wp2_with fail;apply I.o.mono
  rintro e f⟨rfl|⟨rfl,O⟩,E⟩
  . have G:=qX E;clear E;go_wp2_with fail;exact⟨G.o,.inl ⟨J,J,J⟩⟩
  have G:=qX E;clear E O;go_wp2_with fail;exact⟨G.o,.inl ⟨J,J,J⟩⟩
 have g:sE (n<=110):=by
  show n<=110
  omega
 simp only[yL,EF,Ľ,È,A7,Ak,ti,é];go_wp2_with fail;apply I.o.mono
 rintro e f⟨rfl|⟨rfl,O⟩,E⟩
 . have G:=qX E;clear E;go_wp2_with fail;exact⟨G.o,.inl ⟨J,J,J⟩⟩
 have G:=qY E O;clear E O;go_wp2_with fail;exact⟨G.o.1,.inr ⟨J,g.o,G.o.2,J⟩⟩
/-! ### behind the call -/
def GY (f:zJ):=Ak (Ak (Ak (Ak (Ak (EF f)))))
def xP (f:zJ):=A7 (GY f)
def nz (f:zJ):=A7 (Ak (GY f))
def vF (f:zJ):=A7 (Ak (Ak (GY f)))
def m5 (f:zJ):=A7 (Ak (Ak (Ak (GY f))))
def VJ (f:zJ):=Ak (Ak (Ak (Ak (GY f))))
def vz:GY ti=.seq (xP ti) (.seq (nz ti) (.seq (vF ti) (.seq (m5 ti) (VJ ti)))):=rfl
def jr ps out f now n:FE ps out f now (n+1)=FE ps out f now n++if Aj ps n=f/\AA out n=ss/\Ay ps n<=now then[n]else[]:=by
 unfold FE;rw[lj];by_cases h:Aj ps n=f/\AA out n=ss/\Ay ps n<=now
 . simp_all
 simp_all
def sZ ps out f now n:(FE ps out f now n).length<=n:=by
 have:=List.length_filter_le (λi=>Aj ps i==f&&!AA out i&&decide (Ay ps i<=now)) (List.range n);rwa[List.length_range]at this
def Wu (w:M)(B:Nat)(v:Vl)(xs:lN):=w.ownsRow B 3 1 v xs.length (É (Au xs))
def mI{q:Prop}(h:q:=by
 clear G;go_wp2
 go_roundg (n-(k+1))
 case measure=>omega
 case rel=>exact⟨k+1,rfl,N,by go_num,by rw[I.o];exact E.o.1,E.o.2⟩):q:=h
def bP (e:oA) bf ps aw out(f:Nat) now(w:M)(aE:AL w e ps)(ai:Ar ps)(am:FM w aw ps.length out):Calls sr 95 #[.s e ps.length bf,.sl aw 0 ps.length ps.length,.q (f:Int),.q now] w λe w'=>∃v,e=.r v/\Wu w' w.heap.size v (FE ps out f now ps.length)/\zW w w':=by
 let⟨Q,X,R,S,T⟩:=ó Tryz.b;have a3:=qY aE ai;have a2:=qX am;have p:=ai.j;clear aE ai am;let⟨n,al⟩:=ex ps.length;have a0:=qX al;rw[al]at p a2⊢;clear al;go_in
 go_wp2_with fail;go_loopg[9,10] n (λh v p wr=>∃k:Nat,h=n-k/\k<=n/\p=.q (k:Int)/\Wu wr w.z v (FE ps out f now k)/\zW w wr)
 case atStart=>exact⟨0,J,uD _,J,Ĉ _ _ _ _,br⟩
 case round=>
  obtain⟨k,rfl,h,rfl,ao,p⟩:=hrel;have O:=qY ao p;have v:=sZ ps out f now k;let⟨q,V⟩:=ex (FE ps out f now k);rw[V]at v;have W:=qX V;have E:sE (Wu wr w.z u9 q/\zW w wr):=by rw[<-V];exact O.o
  clear ao p V;by_cases an:k<n
  .
   obtain⟨p,U,-⟩:=Ao ps k (by rw[a0.o];exact an);let⟨fl,h,aG,ax⟩:=OM a3.o.2 U;obtain⟨aI,aC,rfl,-,aj⟩:=a3.o.1.h (by rw[a0.o];omega);let⟨ac,aa⟩:=ex p.a;have p:wr.cell? (C aI (aC+k*3))=A (.q fl):=by rw[<-aG];exact jf O.o.2 (aj k _ U).1
   have p:wr.cell? (C aI (aC+k*3+2))=A (.q ac):=by rw[<-aa];exact jf O.o.2 (aj k _ U).2.2
   have Y:=jf O.o.2 (a2.o.E k an);let⟨D,ab⟩:=ex (AA out k);rw[ab]at Y;have G:sE (FE ps out f now (k+1)=q++if fl=f/\D=ss/\ac<=now then[k]else[]):=by
    show _=_
    rw[jr,W.o,ax,ab,AQ U,aa]
   clear aj U aG ax aa ab;by_cases ak:fl=f
   .
    have V:((fl:Int)==(f:Int))=true:=by simp;omega
    cases D with
    |true=>
     have I:sE (FE ps out f now (k+1)=q):=by
      show _=_
      rw[G.o,Ä (λh=>by cases h.2.1),ζ]
     exact mI
    |false=>
     by_cases aL:ac<=now
     .
      have I:sE (FE ps out f now (k+1)=q++[k]):=by
       show _=_
       rw[G.o,Æ ⟨ak,J,aL⟩]
      have Y:zW wr (wr.alloc (.c #[.q (k:Int)] 3)):=ba;have aB:=qX (Ai E.o.1 (λg' _ h=>Y.block g' h));have h:sE (∀j u,(É [(k:Int)])[j]? = A u->(wr.alloc (.c #[.q (k:Int)] 3)).cell? (Addr.add (C wr.z 0) j)=A u):=World.news_of_block (cs:=#[.q (k:Int)]) (t:=3) (ř wr _);have Z:sE (w.z<=(wr.alloc (.c #[.q (k:Int)] 3)).z/\zW w (wr.alloc (.c #[.q (k:Int)] 3))):=⟨rX E.o.2.size Y.size,E.o.2.tr Y⟩
      clear G ak Y;go_wp2_with (at_builtin;go_must (apply xl _ J _ _ 23 J w.z 3 Q (.q 0) 1 8 Tryz.underlying23 X R S T J dc u9 q.length (É (Au q)) J aB.o (C wr.z 0) 1 1 (É [(k:Int)]) J J h.o (Ff _) dc (by unfold s7;omega) N Z.o.1 _ J;intro S E j av aW u T;have aq:sE (Wu j w.z (.sl S 0 (q.length+1) E) (q++[k])/\zW w j):=⟨(by unfold Wu;rw[ý,FJ];exact av),Z.o.2.grown aW Z.o.2.size (λj j=>(AC aB.o j).1)⟩;clear av aW u T))
      go_roundg (n-(k+1))
      case measure=>omega
      case rel=>exact⟨k+1,J,N,by go_num,by rw[I.o];exact aq.o.1,aq.o.2⟩
     have I:sE (FE ps out f now (k+1)=q):=by
      show _=_
      rw[G.o,Ä (λh=>aL h.2.2),ζ]
     exact mI
   have V:((fl:Int)==(f:Int))=false:=by simp;omega
   have I:sE (FE ps out f now (k+1)=q):=by
    show _=_
    rw[G.o,Ä (λh=>ak h.1),ζ]
   exact mI
  obtain rfl:k=n:=N;go_wp2
  go_ret;exact⟨u9,J,O.o.1,O.o.2⟩
end Go.Proofs.YtaoikkhlnhfkfaaGreatDoor
