import Derived.Test.YtaoikkhlnhfkfaaGreatDoorU00
import Derived.Test.YtaoikkhlnhfkfaaGreatDoorU37
import Derived.BigRegion
set_option maxHeartbeats 4000000
set_option maxRecDepth 100000
set_option linter.defProp false
set_option linter.unusedSimpArgs false
set_option linter.unusedVariables false
namespace Go.Proofs.YtaoikkhlnhfkfaaGreatDoor
open Option renaming some->A,none->sA
open Go renaming World->tz,Value->xn,Calls->s8,maxLen->s7
open RowKit renaming Below->vl,Hid->sE
open Proofs.Tryz renaming prog->sr,underlying23->ue
open IntKind renaming i64->ua
open Go.RowKit
variable {S:Nat ->Prop}{f:Nat}{x:Int}{w2:M}{v':Vl}
def JJ:Option Nat->Int
 |some f=>f
 |none=>-1
structure Cq (w:M)(g:Nat)(pv qv:Vl)(vq:Nat->Vl)(cr:Nat->Int)(rv:Vl)(sv:Int)(n:Nat):Prop where
 e:w.cell? (C g 0)=A pv
 a:w.cell? (C g 1)=A qv
 q:∀f,f<8->w.cell? (C g (2+f))=A (vq f)
 t:∀f,f<8->w.cell? (C g (10+f))=A (.q (cr f))
 k:w.cell? (C g 18)=A rv
 d:w.cell? (C g 19)=A (.q sv)
 b:w.cell? (C g 20)=A (.q (n:Int))
 h:∀i,w.frozen? (C g i)=false
section
variable {w w':tz}{g:Nat}{pv qv:xn}{vq:Nat->xn}{cr:Nat->Int}{rv:xn}{sv:Int}{n:Nat}
def Cq.G (h:Cq w g pv qv vq cr rv sv n):g<w.heap.size:=BZ h.e
def Cq.r (h:Cq w g pv qv vq cr rv sv n)(I:Ç S w w')(G:¬S g):Cq w' g pv qv vq cr rv sv n:=by
 let e:∀i,w'.cell? (C g i)=w.cell? ⟨g,i,_⟩:=λi=>I.E (p:=⟨g,i,_⟩) h.G G
 exact⟨by rw[e];exact h.e,by rw[e];exact h.a,λf E=>by rw[e];exact h.q f E,λf E=>by rw[e];exact h.t f E,by rw[e];exact h.k,by rw[e];exact h.d,by rw[e];exact h.b,λi=>by rw[I.s (p:=⟨g,i,_⟩) h.G G];exact h.h i⟩
def ĉ (w:M) g i j(v:Vl)(h:i≠j):(w.setCell (C g i) v).cell? (C g j)=w.cell? (C g j):=
 sF _ _ _ _ (λe=>h (by injection e))
def Cq.p (h:Cq w g pv qv vq cr rv sv n)(G:f<8)(v:Vl):Cq (w.setCell (C g (2+f)) v) g pv qv (A8 vq f v) cr rv sv n:=by
 refine⟨by rw[ĉ _ _ _ _ _ N];exact h.e,by rw[ĉ _ _ _ _ _ N];exact h.a,λj E=>?_,λj E=>by rw[ĉ _ _ _ _ _ N];exact h.t j E,by rw[ĉ _ _ _ _ _ N];exact h.k,by rw[ĉ _ _ _ _ _ N];exact h.d,by rw[ĉ _ _ _ _ _ N];exact h.b,λi=>by rw[ñ];exact h.h i⟩;by_cases e:j=f
 . subst e;rw[AX];exact ŏ _ _ _ (h.q j E)
 rw[Az _ _ e,ĉ _ _ _ _ _ N];exact h.q j E
def Cq.l (h:Cq w g pv qv vq cr rv sv n)(G:f<8) x:Cq (w.setCell (C g (10+f)) (.q x)) g pv qv vq (A8 cr f x) rv sv n:=by
 refine⟨by rw[ĉ _ _ _ _ _ N];exact h.e,by rw[ĉ _ _ _ _ _ N];exact h.a,λj E=>by rw[ĉ _ _ _ _ _ N];exact h.q j E,λj E=>?_,by rw[ĉ _ _ _ _ _ N];exact h.k,by rw[ĉ _ _ _ _ _ N];exact h.d,by rw[ĉ _ _ _ _ _ N];exact h.b,λi=>by rw[ñ];exact h.h i⟩;by_cases e:j=f
 . subst e;rw[AX];exact ŏ _ _ _ (h.t j E)
 rw[Az _ _ e,ĉ _ _ _ _ _ N];exact h.t j E
def Cq.j (h:Cq w g pv qv vq cr rv sv n)(v:Vl):Cq (w.setCell (C g 18) v) g pv qv vq cr v sv n:=
 ⟨by rw[ĉ _ _ _ _ _ N];exact h.e,by rw[ĉ _ _ _ _ _ N];exact h.a,λj E=>by rw[ĉ _ _ _ _ _ N];exact h.q j E,λj E=>by rw[ĉ _ _ _ _ _ N];exact h.t j E,ŏ _ _ _ h.k,by rw[ĉ _ _ _ _ _ N];exact h.d,by rw[ĉ _ _ _ _ _ N];exact h.b,λi=>by rw[ñ];exact h.h i⟩
def Cq.s (h:Cq w g pv qv vq cr rv sv n) x:Cq (w.setCell (C g 19) (.q x)) g pv qv vq cr rv x n:=
 ⟨by rw[ĉ _ _ _ _ _ N];exact h.e,by rw[ĉ _ _ _ _ _ N];exact h.a,λj E=>by rw[ĉ _ _ _ _ _ N];exact h.q j E,λj E=>by rw[ĉ _ _ _ _ _ N];exact h.t j E,by rw[ĉ _ _ _ _ _ N];exact h.k,ŏ _ _ _ h.d,by rw[ĉ _ _ _ _ _ N];exact h.b,λi=>by rw[ñ];exact h.h i⟩
def Cq.m (h:Cq w g pv qv vq cr rv sv n)(x:Nat):Cq (w.setCell (C g 20) (.q (x:Int))) g pv qv vq cr rv sv x:=
 ⟨by rw[ĉ _ _ _ _ _ N];exact h.e,by rw[ĉ _ _ _ _ _ N];exact h.a,λj E=>by rw[ĉ _ _ _ _ _ N];exact h.q j E,λj E=>by rw[ĉ _ _ _ _ _ N];exact h.t j E,by rw[ĉ _ _ _ _ _ N];exact h.k,by rw[ĉ _ _ _ _ _ N];exact h.d,ŏ _ _ _ h.b,λi=>by rw[ñ];exact h.h i⟩
end
def Bj (g:Nat)(F:Nat->Nat->Prop)(E:Vl)(k:Nat):=k=g\/(∃f,f<8/\F f k)\/E.ownBlock=A k
structure AU (B g:Nat)(pv qv:Vl)(w:M)(vq:Nat->Vl)(F:Nat->Nat->Prop)(rv:Vl)(d:Ð)(n:Nat):Prop where
 cells:Cq w g pv qv vq d.cr rv (JJ d.i) n
 b:∀f,f<8->BG w B (vq f) (F f) (d.a f)
 row:w.ownsRow B 3 1 rv d.row.length (É (Au d.row))
 apart:∀f,f<8->¬F f g/\(∀k,F f k->rv.ownBlock≠A k)/\∀f' k,f'<8->F f k->F f' k->f=f'
 e:rv.ownBlock≠A g
 t:B<=g
section
variable {B g:Nat}{pv qv:xn}{w w':tz}{vq:Nat->xn}{F:Nat->Nat->Prop}{rv:xn}{d:Ð}{n:Nat}
def AU.a (h:AU B g pv qv w vq F rv d n):∀k,Bj g F rv k->B<=k/\k<w.heap.size:=by
 rintro k (rfl|⟨f,G,E⟩|E)
 . exact⟨h.t,h.cells.G⟩
 . exact(h.b f G).a k E
 exact AC h.row E
def AU.r (h:AU B g pv qv w vq F rv d n)(G:Ç S w w')(I:∀k,Bj g F rv k->¬S k):AU B g pv qv w' vq F rv d n:=
 ⟨h.cells.r G (I g (.inl J)),λf O=>(h.b f O).r G (λk E=>I k (.inr (.inl ⟨f,O,E⟩))),Ai h.row (λk U E=>G.block k E (I k (.inr (.inr U)))),h.apart,h.e,h.t⟩
def AU.later (h:AU B g pv qv w vq F rv d n)(E:zW w w'):=h.r (S:=λ_=>False) (.e E) (λ_ _ h=>h)
def Ia (w:M) g i(v:Vl):Ç (λk=>k=g) w (w.setCell (C g i) v):=Ç.g (S:=λk=>k=g) (Ç.I _ w) (p:=⟨g,i,_⟩) J v
def AU.h (h:AU B g pv qv w vq F rv d n) i(v:Vl):(∀f,f<8->BG (w.setCell (C g i) v) B (vq f) (F f) (d.a f))/\(w.setCell (C g i) v).ownsRow B 3 1 rv d.row.length (É (Au d.row)):=
 ⟨λf G=>(h.b f G).r (Ia w g i v) (λk E e=>(h.apart f G).1 (by rw[<-e];exact E)),Ai h.row (λk I E=>(Ia w g i v).block k E (λe=>h.e (by rw[<-e];exact I)))⟩
def AU.l (h:AU B g pv qv w vq F rv d n)(E:f<8) x:AU B g pv qv (w.setCell (C g (10+f)) (.q x)) vq F rv {d with cr:=A8 d.cr f x} n:=
 ⟨h.cells.l E x,(h.h ..).1,(h.h ..).2,h.apart,h.e,h.t⟩
def AU.s (h:AU B g pv qv w vq F rv d n) s(E:JJ s=x):AU B g pv qv (w.setCell (C g 19) (.q x)) vq F rv {d with i:=s} n:=
 ⟨by rw[<-E];exact h.cells.s _,(h.h ..).1,(h.h ..).2,h.apart,h.e,h.t⟩
def AU.m (h:AU B g pv qv w vq F rv d n)(m:Nat)(E:(m:Int)=x):AU B g pv qv (w.setCell (C g 20) (.q x)) vq F rv d m:=
 ⟨by rw[<-E];exact h.cells.m m,(h.h ..).1,(h.h ..).2,h.apart,h.e,h.t⟩
def AU.j (h:AU B g pv qv w vq F rv d n){r':lN}(O:Ç (λk=>rv.ownBlock=A k) w w2)(Y:w2.ownsRow B 3 1 v' r'.length (É (Au r')))(V:∀k,v'.ownBlock=A k->rv.ownBlock=A k\/w.heap.size<=k):AU B g pv qv (w2.setCell (C g 18) v') vq F v' {d with row:=r'} n:=by
 let U:v'.ownBlock≠A g:=λe=>by
  obtain I|I:=V g e
  . exact h.e I
  have:=h.cells.G;omega
 refine⟨(h.cells.r O (λe=>h.e e)).j v',λf G=>?_,?_,λf G=>⟨(h.apart f G).1,λk E e=>?_,(h.apart f G).2.2⟩,U,h.t⟩
 . exact((h.b f G).r O (λk E e=>(h.apart f G).2.1 k E e)).r (Ia w2 g 18 v') (λk E e=>(h.apart f G).1 (by rw[<-e];exact E))
 . exact Ai Y (λk Z E=>(Ia w2 g 18 v').block k E (λe=>U (by rw[<-e];exact Z)))
 obtain I|I:=V k e
 . exact(h.apart f G).2.1 k E I
 have:=((h.b f G).a k E).2;omega
def AU.p (h:AU B g pv qv w vq F rv d n)(U:f<8){Y}{q':lN}(ab:Ç (F f) w w2)(aq:BG w2 B v' Y q')(ac:∀k,Y k->F f k\/w.heap.size<=k):AU B g pv qv (w2.setCell (C g (2+f)) v') (A8 vq f v') (A8 F f Y) rv {d with a:=A8 d.a f q'} n:=by
 let V:¬Y g:=λe=>by
  obtain O|O:=ac g e
  . exact(h.apart f U).1 O
  have:=h.cells.G;omega
 let O:=Ia w2 g (2+f) v';refine⟨(h.cells.r ab (h.apart f U).1).p U v',λj I=>?_,?_,λj I=>?_,h.e,h.t⟩
 .
  by_cases e:j=f
  .
   subst e;show BG _ B (A8 vq j v' j) (A8 F j Y j) (A8 d.a j q' j)
   rw[AX,AX,AX];exact aq.r O (λk E e=>V (by rw[<-e];exact E))
  show BG _ B (A8 vq f v' j) (A8 F f Y j) (A8 d.a f q' j)
  rw[Az _ _ e,Az _ _ e,Az _ _ e];exact((h.b j I).r ab (λk E G=>e ((h.apart j I).2.2 f k U E G))).r O (λk E e'=>(h.apart j I).1 (by rw[<-e'];exact E))
 . refine Ai (Ai h.row (λk i E=>ab.block k E (λe=>(h.apart f U).2.1 k e i))) (λk i E=>O.block k E (λe=>h.e (by rw[<-e];exact i)))
 let key:∀i,i<8->∀k,A8 F f Y i k->(i=f/\Y k)\/(i≠f/\F i k):=λi _ k E=>by
  by_cases e:i=f
  . subst e;rw[AX]at E;exact .inl ⟨J,E⟩
  rw[Az _ _ e]at E;exact .inr ⟨e,E⟩
 let X:∀k,Y k->∀i,i<8->i≠f->F i k->False:=λk E i G Z e=>by
  obtain O|O:=ac k E
  . exact Z ((h.apart i G).2.2 f k U e O)
  have:=((h.b i G).a k e).2;omega
 refine⟨λE=>?_,λk E e=>?_,λZ k i E G=>?_⟩
 .
  obtain⟨-,E⟩|⟨-,E⟩:=key j I g E
  . exact V E
  exact(h.apart j I).1 E
 .
  obtain⟨-,E⟩|⟨-,E⟩:=key j I k E
  .
   obtain O|O:=ac k E
   . exact(h.apart f U).2.1 k O e
   have:=(AC h.row e).2;omega
  exact(h.apart j I).2.1 k E e
 obtain⟨e,E⟩|⟨e,E⟩:=key j I k E
 .
  obtain⟨V,G⟩|⟨V,G⟩:=key Z i k G
  . rw[e,V]
  exact(X k E Z i V G).elim
 obtain⟨V,G⟩|⟨V,G⟩:=key Z i k G
 . exact(X k G j I e E).elim
 exact(h.apart j I).2.2 Z k i E G
end
structure Cy (B:Nat)(W0:M)(g:Nat)(pv qv:Vl)(w:M)(D:Nat->Prop)(q:TQ):Prop where
 b:vl B W0 w
 parts:∃vq F rv,AU B g pv qv w vq F rv q.d q.n/\∀k,D k↔Bj g F rv k
section
variable {B:Nat}{W0:tz}{g:Nat}{pv qv:xn}{w w':tz}{D:Nat->Prop}{q:TQ}
def Cy.a (h:Cy B W0 g pv qv w D q):∀k,D k->B<=k/\k<w.heap.size:=by
 obtain⟨O,F,U,I,G⟩:=h.parts;exact λk E=>I.a k ((G k).1 E)
def Cy.t (h:Cy B W0 g pv qv w D q):B<=w.heap.size:=by
 obtain⟨O,F,I,E,G⟩:=h.parts;have:=E.cells.G;have:=E.t;omega
def Cy.r (h:Cy B W0 g pv qv w D q)(G:Ç S w w')(Y:∀k,D k->¬S k)(V:∀k,S k->B<=k):Cy B W0 g pv qv w' D q:=by
 obtain⟨O,F,Z,U,E⟩:=h.parts;exact⟨h.b.trans (G.d h.t V),O,F,Z,U.r G (λk I=>Y k ((E k).2 I)),E⟩
def Cy.later (h:Cy B W0 g pv qv w D q)(E:zW w w'):=h.r (S:=λ_=>False) (.e E) (λ_ _ h=>h) (λ_ h=>h.elim)
def Cy.alloc (h:Cy B W0 g pv qv w D q) o:Cy B W0 g pv qv (w.alloc o) D q:=h.later ba
def wD B G g V E:Kw (Cy B G g V E) B:=⟨λ_ _ _ h=>h.a,λ_ _ _ _ _ h O U I=>h.r O U I⟩
def Cy.u (h:Cy B W0 g pv qv w D q)(E:zW w w'):Bh (Cy B W0 g pv qv) w w' D q:=⟨D,h.later E,.e E,λ_ G=>.inl G⟩
def Cy.e{U F E V I q'}(h:Cy B W0 g pv qv w D q)(Z:∀k,D k↔Bj g F V k)(O:Ç D w w')(Y:AU B g pv qv w' U E I q'.d q'.n)(aa:∀k,Bj g E I k->Bj g F V k\/w.heap.size<=k):Bh (Cy B W0 g pv qv) w w' D q':=
 ⟨_,⟨h.b.trans (O.d h.t λk G=>(h.a k G).1),_,E,_,Y,λ_=>Iff.rfl⟩,O,λk G=>by simp_all⟩
end
variable {w:M}{V:Vl}{g r9 k:Nat}{F:Nat ->Nat ->Prop}
def qg B I g U G D q w(h:Cy B I g U G w D q):s8 sr 148 #[.pp g 0] w λe w'=>e=.r (.q (q.n:Int))/\w'=w:=by
 obtain⟨V,F,Y,E,O⟩:=h.parts;have Z:=E.cells.b;clear E O h;go_in
 go_wp2
 go_ret;exact⟨J,J⟩
def bY B g(av:oA) ak aE ps aG F aB d n w(h:AU B g (.s av ps.length ak) aE w aG F aB d n)(al:AL w av ps)(a4:ps.length<=300) f k(r:lN) p(an:d.i=A f)(V:f<8)(ab:d.a f=k::r)(U:ps[k]? = A p) b(aa:decide (p.h<=d.cr f)=b):s8 sr 160 #[.pp g 0] w λe w'=>e=.r (.bool b)/\∃m,w'=w.drewN m:=by
 have x:=Ap U;obtain⟨S,off,rfl,x,G⟩:=al.h N;let Z:=(G k p U).2.1;let O:=h.b f V;rw[ab]at O;obtain⟨x,x,cap,T,R,Q,se,-,-,-⟩:=O.first;have P:=h.cells.e;let E:=h.cells.d;let Y:=h.cells.q f V;let I:=h.cells.t f V;rw[T]at Y;rw[an]at E;have cs':w.cell? (C g 19)=A (.q (f:Int)):=E;obtain⟨x,r9⟩:=ex (d.cr f);obtain⟨y,W⟩:=ex p.h;rw[r9]at I aa;rw[W]at Z aa;obtain⟨m,X⟩:=ex (r.length+1);rw[X]at Y R;have L:0<m:=N;let L:m<=maxLen:=rX R Q;unfold s7 at Q L;have L:decide ((m:Int)<=0)=false:=by simp;omega
 clear h al G O T an E ab U r9 W X;go_in
 go_wp2
 go_quiet (fail);obtain⟨G,E⟩:=ex (w.drewN nq);have L:=qX E;have r9:G.cell? (C g 0)=A (.sl S off ps.length ak):=by rw[<-E];exact P
 have r9:G.cell? (C g 19)=A (.q (f:Int)):=by rw[<-E];exact cs'
 have r9:G.cell? (C g (10+f))=A (.q x):=by rw[<-E];exact I
 have x:G.cell? (C S (off+k*3+1))=A (.q y):=by rw[<-E];exact Z
 rw[E];clear E P cs' I Z Y se;go_wp2
 go_quiet (fail);go_wp2
 go_ret;exact⟨J,_,by rw[<-L.o,ν]⟩
def K5{P:pG}{ops:aO}{o}{a:Act}{K:Act->M->Prop}{Q:Exit->Act->M->Prop}{V}(I:o.guard=sA) s x(t:tI)
  (O:o.op=.call {callee:=.builtin .append,args:=#[s,x],argTypes:=#[t,t]})
  (e:tI) i(z:Vl) bytes(ht:P.underlying t=A (.slice e))(hi:P.info? e=A i)(hz:i.zero=A z)(hsize:i.size=1)(hby:i.bytes=bytes)(hzs:z.cells.size=1) B(v:Vl) F(k:Nat)(xs:lN)(hs:a.eval s=v)(h:BG w B v F xs)(hBw:B<=w.heap.size) ad c(hx:a.eval x=.slice (A ad) 1 c)(hk:w.cell? ad=A (.q (k:Int)))(h63:xs.length+1<=s7)(hbytes:(xs.length+1)*bytes<=140737488355328)
  (hK:∀E cap w',Rq w w' B F E (xs.length+1) cap (xs++[k])->K (a.put o.dst (.slice E (xs.length+1) cap)) w'):
  if Region.wanted o (yielded ops a.tmps)=true then Oper.wp P o a w K Q else V:=by
 let G:Region.wanted o (yielded ops a.tmps)=true:=by simp[Region.wanted,I]
 rw[Æ G];obtain⟨E,cap,w',hrun,U⟩:=Md (P:=P) w t o.type e i z bytes ht hi hz hsize hby hzs B v F k xs h hBw ad c hk h63 hbytes;unfold Oper.wp;simp[execOp,O,resolve,invoke,builtin,hs,hx,hrun,Result.andThen]
 exact hK E cap w' U
def L9{f Y}(O:f<8)(h:∀k,Y k->F f k\/r9<=k)(E:Bj g (A8 F f Y) V k):Bj g F V k\/r9<=k:=by
 obtain rfl|⟨j,I,E⟩|E:=E
 . exact .inl (.inl J)
 .
  by_cases e:j=f
  .
   subst e;rw[AX]at E;obtain G|G:=h k E
   . exact .inl (.inr (.inl ⟨j,I,G⟩))
   exact .inr G
  rw[Az _ _ e]at E;exact .inl (.inr (.inl ⟨j,I,E⟩))
 exact .inl (.inr (.inr E))
def OI{v'}(h:∀k,v'.ownBlock=A k->V.ownBlock=A k\/r9<=k)(E:Bj g F v' k):Bj g F V k\/r9<=k:=by
 obtain rfl|E|E:=E
 . exact .inl (.inl J)
 . exact .inl (.inr (.inl E))
 obtain G|G:=h k E
 . exact .inl (.inr (.inr G))
 exact .inr G
structure Cj (B g:Nat)(pv qv:Vl)(w w':M)(F:Nat->Nat->Prop)(rv:Vl)(d:Ð)(n:Nat):Prop where
 e:∃vq' F' rv',AU B g pv qv w' vq' F' rv' d n/\∀k,Bj g F' rv' k->Bj g F rv k\/w.heap.size<=k
 r:Ç (Bj g F rv) w w'
def Cj.h{B U I w' D q q' G}(h:Cy B U g V I w D q)(O:∀k,D k↔Bj g F G k)(E:Cj B g V I w w' F G q'.d q'.n):Bh (Cy B U g V I) w w' D q':=by
 obtain⟨X,X,X,X,Z⟩:=E.e;exact h.e O (E.r.l λk Y=>(O k).2 Y) X Z
def Uy B g(ao:oA) aI aG ps be F aj d n w(h:AU B g (.s ao ps.length aI) aG w be F aj d n)(aN:AL w ao ps)(bK:ps.length<=300)(k f:Nat) p(al:ps[k]? = A p)(aq:p.b=(f:Int))(E:f<8)(aC:d.a f≠[])(aW:(d.a f).length<=300)(b0:n<=1000)(a0:B<=w.heap.size):s8 sr 146 #[.pp g 0,.q (k:Int)] w λe w'=>e=.r (.t #[])/\Cj B g (.s ao ps.length aI) aG w w' F aj {d with a:=A8 d.a f (d.a f++[k])} (n+1):=by
 obtain⟨K,H,r7,r8,z⟩:=ó Tryz.b;have j:=Ap al;obtain⟨j,off,rfl,j,R⟩:=aN.h N;let j:=(R k p al).1;rw[aq]at j;let j:(f:Int)<8:=N;have m:=qX h;have G:=qX a0;let P:sE (Ç (Bj g F aj) w w):=Ç.I ..;let r9:sE (w.heap.size<=w.heap.size):=lr;have j:=h.cells.e;let L:0<(d.a f).length:=k9.2 aC;obtain⟨Z,cap,W,T,S⟩:=(m.o.b f E).h;let U:=m.o.cells.q f E;rw[W]at U;let V:=qX W;obtain⟨j,O⟩:=ex (d.a f);rw[O]at U T aW V;have Q:=qX O;let X:zW w (w.drew.alloc (.c #[.q (k:Int)] 3)):=br.drew.alloc lr _;have I:=qX (m.o.later X);have D:sE (BG (w.drew.alloc (.c #[.q (k:Int)] 3)) B (.s Z j.length cap) (F f) j):=by
  let m:=I.o.b f E;let e:(d:Ð).a f=j:=O;rwa[V.o,e]at m
 let se:sE ((w.drew.alloc (.c #[.q (k:Int)] 3)).cell? (C w.heap.size 0)=A (.q (k:Int))):=(cell_of_row _ _ 0 _ _ _ (ř w.drew _)).trans J;have sd:sE (B<=(w.drew.alloc (.c #[.q (k:Int)] 3)).heap.size):=rX G.o X.size;obtain⟨m,G⟩:=ex j.length;have Y:=qX G;rw[G]at U T aW V;rw[Q.o,G]at L;have L:((m:Int)==0)=false:=by simp;omega
 let L:m<=maxLen:=rX T S;unfold s7 at S L;have L:=qX O;let Q:(w.alloc (.c #[.q (k:Int)] 3)).cell? (C g (2+f))=A (.s Z m cap):=jf ba U;clear W O G X;clear h aN R al aq aC a0;go_in
 go_wp2_with fail;go_region_law
  (first
   | (refine K5 rfl _ _ 23 rfl 3 K (.q 0) 8 ue H r7 r8 z rfl B (.slice Z m cap) (F f) k j rfl (by have:=D.o;rwa[Y.o]at this) sd.o (C w.heap.size 0) 1 J se.o (by rw[Y.o];unfold s7;omega) (by rw[Y.o];omega) ?_
      intro r8 D G S;rw[Y.o]at S⊢;obtain⟨W,T,R,O⟩:=S;have U:sE (BG G B (.s r8 (m+1) D) W (j++[k])/\(∀k,W k->F f k\/w.heap.size+1<=k)/\Ç (F f) (w.drew.alloc (.c #[.q (k:Int)] 3)) G):=⟨T,(by simpa using R),O⟩
      have K:G.cell? (C g (2+f))=A (.s Z m cap):=by
        have:=(I.o.cells.r O (I.o.apart f E).1).q f E;rwa[V.o]at this
      have m:G.frozen? (C g (2+f))=false:=(I.o.cells.r O (I.o.apart f E).1).h _;clear T R O)
   |fail)
 all_goals
  let j:=qX (I.o.p E U.o.2.2 U.o.1 (by simpa using U.o.2.1));let z:=j.o.cells.b;let z:=j.o.cells.h 20;clear K m;go_wp2
  go_end0;refine⟨J,⟨_,_,_,(by rw[L.o];exact j.o.m (n+1) N),λj G=>?_⟩,?_⟩
  .
   obtain m|m:=L9 E (λj G=>U.o.2.1 j G) G
   . exact .inl m
   exact .inr (by have:=r9.o;omega)
  exact(P.o.G (((Ç.e (br.drew.alloc lr _)).G (U.o.2.2.l λj G=>.inr (.inl ⟨f,E,G⟩))).G ((Ia ..).l λj G=>.inl G))).G ((Ia ..).l λj G=>.inl G)
def TE B g(a2:oA) bc bq ps cm F O d n w(h:AU B g (.s a2 ps.length bc) bq w cm F O d n)(bs:AL w a2 ps)(ct:ps.length<=300)(k f:Nat) p(a5:ps[k]? = A p)(bg:p.b=(f:Int))(I:f<8)(av:d.a f=[])(b':d.row.length<=8)(b2:n<=1000)(a1:B<=w.heap.size):s8 sr 146 #[.pp g 0,.q (k:Int)] w λe w'=>e=.r (.t #[])/\Cj B g (.s a2 ps.length bc) bq w w' F O {d with a:=A8 d.a f (d.a f++[k]),row:=d.row++[f]} (n+1):=by
 obtain⟨r9,K,R,D,Q⟩:=ó Tryz.b;have j:=Ap a5;obtain⟨j,off,rfl,j,L⟩:=bs.h (by omega);have j:=(L k p a5).1;rw[bg]at j;have j:(f:Int)<8:=by omega
 have H:(d.a f).length<=300:=by rw[av];simp
 have j:=qX h;have j:=h.cells.e;have z:=h.cells.k;have E:=h.cells.q f I;obtain⟨j,m,se,u,S⟩:=(h.b f I).h;rw[se,av]at E;have r8:w.cell? (C g (2+f))=A (.s j 0 m):=E;have m:zW w (w.alloc (.c #[.q (f:Int)] 3)):=ba;have G:=qX (h.later m);have sd:sE (∀j u,(É [(f:Int)])[j]? = A u->(w.alloc (.c #[.q (f:Int)] 3)).cell? (Addr.add (C w.heap.size 0) j)=A u):=World.news_of_block (cs:=#[.q (f:Int)]) (t:=3) (ř w _);have r7:sE (B<=(w.alloc (.c #[.q (f:Int)] 3)).heap.size/\(w.alloc (.c #[.q (f:Int)] 3)).heap.size=w.heap.size+1):=⟨rX a1 m.size,by simp⟩
 obtain⟨V,j⟩:=ex d.row.length;have P:=qX j;rw[j]at b';have X:=qX a1;have t:=qX av;unfold s7 at S;clear h bs L a5 bg a1 av E se m j;go_in
 go_wp2_with (at_builtin;go_must (refine wpList_append_lies _ rfl _ _ 23 rfl B 3 r9 (.q 0) 1 8 ue K R D Q rfl (by decide) O V (É (Au d.row)) rfl (by have:=G.o.row;rwa[P.o]at this) (C w.heap.size 0) 1 1 (É [(f:Int)]) J J sd.o (Ff _) (by decide) (by unfold s7;omega) (by omega) r7.o.1 _ J ?_;intro U t m se j L sd;have S:Ç (λk=>O.ownBlock=A k) (w.alloc (.c #[.q (f:Int)] 3)) m:=⟨j.os,j.tape,j.output,j.size,λk u b2=>j.block k u (λe=>b2 e.symm)⟩;have E:=G.o.cells.r S (λe=>G.o.e e);have W:=E.k;have T:=E.h 18;have u:sE (m.ownsRow B 3 1 (.sl U 0 (V+1) t) (V+1) (É (Au d.row)++É [(f:Int)])/\Ç (λk=>O.ownBlock=A k) (w.alloc (.c #[.q (f:Int)] 3)) m/\(O.ownBlock=A U\/U=(w.alloc (.c #[.q (f:Int)] 3)).heap.size)):=⟨se,S,L⟩;clear se j L sd S E))
 have se:sE (∀k,(Value.sl U 0 (V+1) t).ownBlock=A k->O.ownBlock=A k\/(w.alloc (.c #[.q (f:Int)] 3)).heap.size<=k):=λj E=>by
  have e:U=j:=Ö E;obtain Z|Z:=u.o.2.2
  . exact .inl (by rw[<-e];exact Z)
  exact .inr (by rw[<-e,Z];exact lr)
 have L:=qX (G.o.j u.o.2.1 (by rw[ý,FJ,P.o];exact u.o.1) se.o);have S:sE (Ç (Bj g F O) w (m.setCell (C g 18) (.sl U 0 (V+1) t))):=((Ç.e ba).G (u.o.2.1.l λj E=>.inr (.inr E))).G ((Ia _ _ _ _).l λj E=>.inl E);obtain⟨G,j⟩:=ex (m.setCell (C g 18) (.sl U 0 (V+1) t));rw[j]at L S⊢;have m:=qX L.o;have u:sE (Ç (Bj g F (.sl U 0 (V+1) t)) G G):=Ç.I _ _;have L:=qX S.o.h;have u:sE (B<=G.heap.size):=rX X.o L.o;clear j W T z r8;obtain⟨Z,cap,t,X,P⟩:=(m.o.b f I).h;simp only at t X;have E:=m.o.cells.q f I;rw[t]at E;have U:=qX t;obtain⟨j,V⟩:=ex (d.a f);rw[V]at E X H U;have W:zW G (G.drew.alloc (.c #[.q (k:Int)] 3)):=br.drew.alloc lr _;have Y:=qX (m.o.later W);have sd:sE (BG (G.drew.alloc (.c #[.q (k:Int)] 3)) B (.s Z j.length cap) (F f) j):=by
  have m:=Y.o.b f I;have e:({d with row:=d.row++[f]}:Ð).a f=j:=V;rwa[U.o,e]at m
 have r8:sE ((G.drew.alloc (.c #[.q (k:Int)] 3)).cell? (C G.heap.size 0)=A (.q (k:Int))):=(cell_of_row _ _ 0 _ _ _ (ř G.drew _)).trans J;have z:sE (B<=(G.drew.alloc (.c #[.q (k:Int)] 3)).heap.size):=rX u.o W.size;obtain⟨m,T⟩:=ex j.length;have u:=qX T;rw[T]at E X H U;have H:m<=maxLen:=rX X P;unfold s7 at P H;have P:=qX V;have H:(G.alloc (.c #[.q (k:Int)] 3)).cell? (C g (2+f))=A (.s Z m cap):=jf ba E;clear t V T W;go_region_law
  (first
   | (refine K5 rfl _ _ 23 rfl 3 r9 (.q 0) 8 ue K R D Q rfl B (.slice Z m cap) (F f) k j rfl (by have:=sd.o;rwa[u.o]at this) z.o (C G.heap.size 0) 1 J r8.o (by rw[u.o];unfold s7;omega) (by rw[u.o];omega) ?_
      intro z sd E t;rw[u.o]at t⊢;obtain⟨H,K,r9,u⟩:=t;have t:sE (BG E B (.s z (m+1) sd) H (j++[k])/\(∀k,H k->F f k\/G.heap.size+1<=k)/\Ç (F f) (G.drew.alloc (.c #[.q (k:Int)] 3)) E):=⟨K,(by simpa using r9),u⟩
      have W:E.cell? (C g (2+f))=A (.s Z m cap):=by
        have:=(Y.o.cells.r u (Y.o.apart f I).1).q f I;rwa[U.o]at this
      have T:E.frozen? (C g (2+f))=false:=(Y.o.cells.r u (Y.o.apart f I).1).h _;clear K r9 u)
   |fail)
 all_goals
  have j:=qX (Y.o.p I t.o.2.2 t.o.1 (by simpa using t.o.2.1));have m:=j.o.cells.b;have m:=j.o.cells.h 20;clear W T;go_wp2
  go_end0;refine⟨J,⟨_,_,_,(by rw[P.o];exact j.o.m (n+1) (by omega)),λj E=>?_⟩,?_⟩
  .
   obtain Z|Z:=L9 I (λj E=>t.o.2.1 j E) E
   .
    exact (by
    obtain j|j:=OI se.o Z
    . exact .inl j
    exact .inr (by have:=r7.o.2;omega))
   exact .inr (by have:=L.o;omega)
  exact(S.o.G (((Ç.e (br.drew.alloc lr _)).G (t.o.2.2.l λj E=>.inr (.inl ⟨f,I,E⟩))).G ((Ia _ _ _ _).l λj E=>.inl E))).G ((Ia _ _ _ _).l λj E=>.inl E)
def RJ{α}(f:Nat->α) k x y:A8 (A8 f k x) k y=A8 f k y:=by
 funext i
 unfold A8;split<;>rfl
def kI B g(aj:xn)(al:oA) aa G(av:Nat->xn) F(a3:xn) d n(w:tz)(h:AU B g aj (.s al G.length aa) w av F a3 d n)(a7:Bc w al G)(ab:Ef 1 3000 G) f r(ax:d.row=f::r)(ap:f<8)(be:0<=d.cr f)(bm:d.cr f<=1000000)(a9:d.row.length<=8)(bs:B<=w.heap.size)(a4:∀ad,al=A ad->ad.block<B):s8 sr 159 #[.p (A ⟨g,0,sA⟩)] w λe w'=>e=.r (.t #[])/\Cj B g aj (.s al G.length aa) w w' F a3 (d.p (Cb G) f r) n:=by
 obtain⟨U,off,rfl,bw,r9⟩:=a7.h (by rw[ab.len];omega);obtain⟨x,Y,-⟩:=Ao G f (by rw[ab.len];exact ap);have bK:=ab.d f x Y;have bj:sE (Cb G f=x):=KG Y;have P:=r9 f x Y;have O:=h.row;rw[ax]at O a9;rw[<-AJ]at O;obtain⟨E,cap,bd,I,L,S⟩:=Qm O (by rw[AJ];simp);subst bd;have bq:w.cell? ⟨E,0,sA⟩=A (.int .i64 f):=S 0 _ J;have T:=h.cells.k;have bn:=h.cells.d;have bc:=h.cells.h 19;have V:sE (AU B g aj (.s (A ⟨U,off,sA⟩) G.length aa) (w.setCell ⟨g,19,sA⟩ (.int .i64 f)) av F (.s (A ⟨E,0,sA⟩) (Au (f::r)).length cap) {d with i:=A f} n):=h.s (A f) J;have Z:(Au (f::r)).length=r.length+1:=by rw[AJ];rfl
 have Q:sE (Ë 158 #[.s (A ⟨E,0,sA⟩) (r.length+1) cap,.int .i64 0,.int .i64 1] (w.setCell ⟨g,19,sA⟩ (.int .i64 f)) λe w'=>e=.r (.s (A ⟨E,0,sA⟩) r.length cap)/\w'.ownsRow B 3 1 (.s (A ⟨E,0,sA⟩) r.length cap) r.length (É (Au r))/\Ç (λk=>k=E) (w.setCell ⟨g,19,sA⟩ (.int .i64 f)) w'):=by
  have c:=V.o.row;have e:({d with i:=A f}:Ð).row=f::r:=ax;rw[e]at c;have j:=P8 B E cap 0 (Au (f::r)) (w.setCell ⟨g,19,sA⟩ (.int .i64 f)) (by rw[Z]at c⊢;exact c) (by rw[Z];omega) I L;rw[Z]at j;exact j
 rw[Z]at T I;rw[Z]at V;obtain⟨m,j⟩:=ex r.length;have bf:sE (r.length=m):=j;obtain⟨c,X⟩:=ex (d.cr f);have se:sE (d.cr f=c):=X;rw[X]at be bm;rw[j]at Q V T I;have R:=ab.len;rw[R]at V;have b2:m<=8:=by rw[<-j];simp at a9;omega
 have bk:sE (∀W,vl B w W->W.cell? ⟨U,off+f,sA⟩=A (.int .i64 x)):=λW bg=>by
  rw[bg.cell (p:=⟨U,off+f,sA⟩) (show U<B from a4 ⟨U,off,sA⟩ J)];exact P
 unfold s7 at L;have bl:sE (B<=w.heap.size):=bs;have bp:sE ((Au (f::r)).length=m+1):=by rw[<-j];exact Z
 have bv:sE (∀k,Bj g F (.s (A ⟨E,0,sA⟩) (m+1) cap) k->B<=k):=λk I=>(h.a k I).1
 clear h a7 r9 O S Y ax j X ab a4 P;go_in
 go_wp2_with fail;refine Q.o.mono ?_
 rintro e p⟨rfl,O,I⟩;have W:sE (p.ownsRow B 3 1 (.s (A ⟨E,0,sA⟩) m cap) m (É (Au r))/\Ç (λk=>k=E) (w.setCell ⟨g,19,sA⟩ (.int .i64 f)) p):=⟨O,I⟩
 have j:=V.o.cells.r I (λe=>V.o.e (by rw[e];rfl));have bh:=j.k;have bt:=j.h 18;clear O I j;go_wp2_with fail;have Y:sE (AU B g aj (.s (A ⟨U,off,sA⟩) 8 aa) (p.setCell ⟨g,18,sA⟩ (.s (A ⟨E,0,sA⟩) m cap)) av F (.s (A ⟨E,0,sA⟩) m cap) {d with i:=A f,row:=r} n):=V.o.j (W.o.2.l λk I=>by rw[I];rfl) (by rw[bf.o];exact W.o.1) (λk I=>.inl I);have V:sE (Ç (Bj g F (.s (A ⟨E,0,sA⟩) (m+1) cap)) w (p.setCell ⟨g,18,sA⟩ (.s (A ⟨E,0,sA⟩) m cap))):=(((Ia _ _ _ _).l λj O=>.inl O).G (W.o.2.l λj O=>.inr (.inr (by rw[O];rfl)))).G ((Ia _ _ _ _).l λj O=>.inl O);have r9:sE (vl B w (p.setCell ⟨g,18,sA⟩ (.s (A ⟨E,0,sA⟩) m cap))):=V.o.d bl.o (λk I=>bv.o k I);obtain⟨j,k⟩:=ex (p.setCell ⟨g,18,sA⟩ (.s (A ⟨E,0,sA⟩) m cap));rw[k]at Y V r9⊢;have bZ:j.cell? ⟨g,1,sA⟩=A (.s (A ⟨U,off,sA⟩) 8 aa):=Y.o.cells.a;have b0:j.cell? ⟨g,10+f,sA⟩=A (.int .i64 c):=by rw[<-se.o];exact Y.o.cells.t f ap
 have bx:j.cell? ⟨g,19,sA⟩=A (.int .i64 f):=Y.o.cells.d;have b1:=bk.o j r9.o;have b4:=Y.o.cells.h (10+f);have b5:(f:Int)<8:=by omega
 have b3:ua.wrap (c+x)=c+x:=Ĵ _ (by omega);clear k bh bt T bn bc bq;go_region
 all_goals
  go_wp2
  go_end0;have e:d.p (Cb G) f r={d with i:=A f,row:=r,cr:=A8 d.cr f (c+x)}:=by unfold Ð.p;rw[se.o,bj.o]
  rw[e,R,bp.o];refine⟨J,⟨_,_,_,(Y.o.l ap (c+x)).later br.drew,λj O=>?_⟩,?_⟩
  . exact OI (λk I=>.inl I) O
  exact(V.o.G ((Ia _ _ _ _).l λj O=>.inl O)).drew
def U2 B g k V off aa L Z ab F I d n w(h:AU B g (.sl V off L aa) Z w ab F I d (n+1)) y(ao:∀W,vl B w W->W.cell? (C V (off+k*3+1))=A (.q y))(bp:0<=y)(bf:k<L) f(r:lN)(aC:d.i=A f)(Y:f<8)(aL:0<=d.cr f)(a1:d.cr f<=1000000)(a3:y<=d.cr f)(bl:n<=1000)(a8:r.length<=300)(aG:B<=w.heap.size) E G cap(aE:ab f=.sl E G (r.length+1) cap)(aW:cap<=s7)(a2:w.cell? (C E G)=A (.q (k:Int)))(bj:1<cap)(av:BG w B (.sl E (G+1) r.length (cap-1)) (F f) r)(a4:r≠[]):s8 sr 161 #[.pp g 0] w λe w'=>e=.r (.q (k:Int))/\Cj B g (.sl V off L aa) Z w w' F I {d with a:=A8 d.a f r,cr:=A8 d.cr f (d.cr f-y)} n:=by
 have bs:=qX h;have r9:w.cell? (C g 19)=A (.q (f:Int)):=by have:=h.cells.d;rw[aC]at this;exact this
 have R:=h.cells.q f Y;rw[aE]at R;have a9:=h.cells.h (2+f);obtain⟨m,X⟩:=ex r.length;have bg:=qX X;obtain⟨c,Q⟩:=ex (d.cr f);have P:=qX Q;rw[Q]at aL a1 a3;rw[X]at R a8 av;have se:sE (∀k,Bj g F I k->B<=k):=λk O=>(h.a k O).1
 have a0:=qX aG;have bb:=qX ao;have bq:(f:Int)<8:=N;have be:(k:Int)<(L:Int):=N;have bk:0<m:=by rw[<-X];exact k9.2 a4
 have bm:((m:Int)==0)=false:=by simp;omega
 unfold s7 at aW;have T:sE (AU B g (.sl V off L aa) Z (w.setCell (C g (2+f)) (.sl E (G+1) m (cap-1))).drew (A8 ab f (.sl E (G+1) m (cap-1))) (A8 F f (F f)) I {d with a:=A8 d.a f r} (n+1)):=(h.p Y (Ç.I _ _) av (λ_ O=>.inl O)).later br.drew;have S:sE (Ç (Bj g F I) w (w.setCell (C g (2+f)) (.sl E (G+1) m (cap-1))).drew):=((Ia _ _ _ _).l λj U=>.inl U).drew;clear h aC aE X Q aG ao;go_in
 go_wp2
 go_region;obtain⟨X,Q⟩:=ex ((w.setCell (C g (2+f)) (.sl E (G+1) m (cap-1))).drew);rw[Q]at T S⊢;have a7:=qX (S.o.d a0.o (λk O=>se.o k O));have bc:=T.o.cells.e;have se:X.cell? (C g (10+f))=A (.q c):=by rw[<-P.o];exact T.o.cells.t f Y
 have a6:=bb.o X a7.o;have K:=T.o.cells.h (10+f);have bn:ua.wrap (c-y)=c-y:=Ĵ _ N;have O:sE (AU B g (.sl V off L aa) Z (X.setCell (C g (10+f)) (.q (c-y))).drew (A8 ab f (.sl E (G+1) m (cap-1))) (A8 F f (F f)) I {d with a:=A8 d.a f r,cr:=A8 d.cr f (c-y)} (n+1)):=(T.o.l Y (c-y)).later br.drew;have T:sE (Ç (Bj g F I) w (X.setCell (C g (10+f)) (.q (c-y))).drew):=(S.o.G ((Ia _ _ _ _).l λj U=>.inl U)).drew;clear Q r9 R a9 a2;go_wp2
 go_region;obtain⟨Q,j⟩:=ex ((X.setCell (C g (10+f)) (.q (c-y))).drew);rw[j]at O T⊢;have u1:=O.o.cells.b;have u2:=O.o.cells.h 20;have R:sE (AU B g (.sl V off L aa) Z (Q.setCell (C g 20) (.q (n:Int))) (A8 ab f (.sl E (G+1) m (cap-1))) (A8 F f (F f)) I {d with a:=A8 d.a f r,cr:=A8 d.cr f (c-y)} n):=O.o.m n J;have u3:(Q.setCell (C g 20) (.q (n:Int))).cell? (C g (2+f))=A (.sl E (G+1) m (cap-1)):=by have:=R.o.cells.q f Y;rwa[AX]at this
 have bh:(((n+1:Nat)):Int)-1=(n:Int):=N;rw[show(((n+1:Nat)):Int)=(n:Int)+1 by omega]at u1;clear j bc se a6 K;go_wp2
 go_ret;rw[P.o];refine⟨J,⟨_,_,_,R.o,λj U=>L9 Y (λ_ O=>.inl O) U⟩,?_⟩;exact T.o.G ((Ia _ _ _ _).l λj U=>.inl U)
def U0 B g k Y off aa L Z ab F O d n w(h:AU B g (.sl Y off L aa) Z w ab F O d (n+1)) y(aq:∀W,vl B w W->W.cell? (C Y (off+k*3+1))=A (.q y))(bp:0<=y)(bh:k<L) f(aE:d.i=A f)(U:f<8)(aN:0<=d.cr f)(a4:d.cr f<=1000000)(a6:y<=d.cr f)(bm:n<=1000)(bb:([]:lN).length<=300)(aI:B<=w.heap.size) G I cap(aG:ab f=.sl G I (([]:lN).length+1) cap)(a2:cap<=s7)(a5:w.cell? (C G I)=A (.q (k:Int)))(bl:1<cap)(aw:BG w B (.sl G (I+1) ([]:lN).length (cap-1)) (F f) []):s8 sr 161 #[.pp g 0] w λe w'=>e=.r (.q (k:Int))/\Cj B g (.sl Y off L aa) Z w w' F O {d with a:=A8 d.a f [],cr:=A8 d.cr f 0,i:=sA} n:=by
 have bs:=qX h;have cs:w.cell? (C g 19)=A (.q (f:Int)):=by have:=h.cells.d;rw[aE]at this;exact this
 have Q:=h.cells.q f U;rw[aG]at Q;have bc:=h.cells.h (2+f);obtain⟨m,T⟩:=ex (([]:lN).length);have bj:=qX T;obtain⟨c,S⟩:=ex (d.cr f);have a0:=qX S;rw[S]at aN a4 a6;rw[T]at Q bb aw;have bf:sE (∀k,Bj g F O k->B<=k):=λk V=>(h.a k V).1
 have a3:=qX aI;have bd:=qX aq;have bq:(f:Int)<8:=N;have bg:(k:Int)<(L:Int):=N;have a1:m=0:=by rw[<-T];rfl
 subst a1;unfold s7 at a2;have X:sE (AU B g (.sl Y off L aa) Z (w.setCell (C g (2+f)) (.sl G (I+1) 0 (cap-1))).drew (A8 ab f (.sl G (I+1) 0 (cap-1))) (A8 F f (F f)) O {d with a:=A8 d.a f []} (n+1)):=(h.p U (Ç.I _ _) aw (λ_ V=>.inl V)).later br.drew;have R:sE (Ç (Bj g F O) w (w.setCell (C g (2+f)) (.sl G (I+1) 0 (cap-1))).drew):=((Ia _ _ _ _).l λj E=>.inl E).drew;have aL:sE (({d with a:=A8 d.a f [],cr:=A8 d.cr f 0,i:=sA}:Ð)={d with a:=A8 d.a f [],cr:=A8 (A8 d.cr f (c-y)) f 0,i:=sA}):=by
  show _=_
  rw[RJ]
 clear h aE aG T S aI aq;go_in
 go_wp2
 go_region;obtain⟨m,S⟩:=ex ((w.setCell (C g (2+f)) (.sl G (I+1) 0 (cap-1))).drew);rw[S]at X R⊢;have a9:=qX (R.o.d a3.o (λk V=>bf.o k V));have be:=X.o.cells.e;have a7:m.cell? (C g (10+f))=A (.q c):=by rw[<-a0.o];exact X.o.cells.t f U
 have a8:=bd.o m a9.o;have aW:=X.o.cells.h (10+f);have bn:ua.wrap (c-y)=c-y:=Ĵ _ N;have V:sE (AU B g (.sl Y off L aa) Z (m.setCell (C g (10+f)) (.q (c-y))).drew (A8 ab f (.sl G (I+1) 0 (cap-1))) (A8 F f (F f)) O {d with a:=A8 d.a f [],cr:=A8 d.cr f (c-y)} (n+1)):=(X.o.l U (c-y)).later br.drew;have aC:sE (Ç (Bj g F O) w (m.setCell (C g (10+f)) (.q (c-y))).drew):=(R.o.G ((Ia _ _ _ _).l λj E=>.inl E)).drew;clear S cs Q bc a5;go_wp2
 go_region;obtain⟨av,aB⟩:=ex ((m.setCell (C g (10+f)) (.q (c-y))).drew);rw[aB]at V aC⊢;have u1:=V.o.cells.b;have u2:=V.o.cells.h 20;have j:sE (AU B g (.sl Y off L aa) Z (av.setCell (C g 20) (.q (n:Int))) (A8 ab f (.sl G (I+1) 0 (cap-1))) (A8 F f (F f)) O {d with a:=A8 d.a f [],cr:=A8 d.cr f (c-y)} n):=V.o.m n J;have u3:(av.setCell (C g 20) (.q (n:Int))).cell? (C g (2+f))=A (.sl G (I+1) 0 (cap-1)):=by have:=j.o.cells.q f U;rwa[AX]at this
 have c:=qX (j.o.l U 0);have u4:=j.o.cells.t f U;have u5:=j.o.cells.h (10+f);have u6:=c.o.cells.d;have u7:=c.o.cells.h 19;have bk:(((n+1:Nat)):Int)-1=(n:Int):=N;rw[show(((n+1:Nat)):Int)=(n:Int)+1 by omega]at u1;clear aB be a7 a8 aW;go_wp2
 go_ret;rw[aL.o];refine⟨J,⟨_,_,_,c.o.s sA J,λj E=>L9 U (λ_ V=>.inl V) E⟩,?_⟩;exact((aC.o.G ((Ia _ _ _ _).l λj E=>.inl E)).G ((Ia _ _ _ _).l λj E=>.inl E)).G ((Ia _ _ _ _).l λj E=>.inl E)
def Xf B g k Y off aa L Z ab F O d n w(h:AU B g (.sl Y off L aa) Z w ab F O d (n+1)) y(aq:∀W,vl B w W->W.cell? (C Y (off+k*3+1))=A (.q y))(bp:0<=y)(bj:k<L) f(aC:d.i=A f)(U:f<8)(aL:0<=d.cr f)(a5:d.cr f<=1000000)(a7:y<=d.cr f)(bm:n<=1000)(bc:([]:lN).length<=300)(aG:B<=w.heap.size) G I cap(aE:ab f=.sl G I (([]:lN).length+1) cap)(a3:([]:lN).length+1<=cap)(a2:cap<=s7)(a6:w.cell? (C G I)=A (.q (k:Int)))(a1:cap=1)(a0:BG w B (.sl G I 0 0) (F f) []):s8 sr 161 #[.pp g 0] w λe w'=>e=.r (.q (k:Int))/\Cj B g (.sl Y off L aa) Z w w' F O {d with a:=A8 d.a f [],cr:=A8 d.cr f 0,i:=sA} n:=by
 have bs:=qX h;have cs:w.cell? (C g 19)=A (.q (f:Int)):=by have:=h.cells.d;rw[aC]at this;exact this
 have R:=h.cells.q f U;rw[aE]at R;have bd:=h.cells.h (2+f);obtain⟨m,Q⟩:=ex (([]:lN).length);have bk:=qX Q;obtain⟨c,S⟩:=ex (d.cr f);have aW:=qX S;rw[S]at aL a5 a7;rw[Q]at R a3 bc;have bg:sE (∀k,Bj g F O k->B<=k):=λk V=>(h.a k V).1
 have a4:=qX aG;have be:=qX aq;have bq:(f:Int)<8:=N;have bh:(k:Int)<(L:Int):=N;obtain rfl:m=0:=N;subst a1;unfold s7 at a2;have X:sE (AU B g (.sl Y off L aa) Z (w.setCell (C g (2+f)) (.sl G I 0 0)).drew (A8 ab f (.sl G I 0 0)) (A8 F f (F f)) O {d with a:=A8 d.a f []} (n+1)):=(h.p U (Ç.I _ _) a0 (λ_ V=>.inl V)).later br.drew;have T:sE (Ç (Bj g F O) w (w.setCell (C g (2+f)) (.sl G I 0 0)).drew):=((Ia _ _ _ _).l λj E=>.inl E).drew;have aI:sE (({d with a:=A8 d.a f [],cr:=A8 d.cr f 0,i:=sA}:Ð)={d with a:=A8 d.a f [],cr:=A8 (A8 d.cr f (c-y)) f 0,i:=sA}):=by
  show _=_
  rw[RJ]
 clear h aC aE Q S aG aq;go_in
 go_wp2
 go_region;obtain⟨m,aw⟩:=ex ((w.setCell (C g (2+f)) (.sl G I 0 0)).drew);rw[aw]at X T⊢;have bb:=qX (T.o.d a4.o (λk V=>bg.o k V));have bf:=X.o.cells.e;have a8:m.cell? (C g (10+f))=A (.q c):=by rw[<-aW.o];exact X.o.cells.t f U
 have a9:=be.o m bb.o;have aN:=X.o.cells.h (10+f);have bn:ua.wrap (c-y)=c-y:=Ĵ _ N;have V:sE (AU B g (.sl Y off L aa) Z (m.setCell (C g (10+f)) (.q (c-y))).drew (A8 ab f (.sl G I 0 0)) (A8 F f (F f)) O {d with a:=A8 d.a f [],cr:=A8 d.cr f (c-y)} (n+1)):=(X.o.l U (c-y)).later br.drew;have aB:sE (Ç (Bj g F O) w (m.setCell (C g (10+f)) (.q (c-y))).drew):=(T.o.G ((Ia _ _ _ _).l λj E=>.inl E)).drew;clear aw cs R bd a6;go_wp2
 go_region;obtain⟨av,ax⟩:=ex ((m.setCell (C g (10+f)) (.q (c-y))).drew);rw[ax]at V aB⊢;have u1:=V.o.cells.b;have u2:=V.o.cells.h 20;have j:sE (AU B g (.sl Y off L aa) Z (av.setCell (C g 20) (.q (n:Int))) (A8 ab f (.sl G I 0 0)) (A8 F f (F f)) O {d with a:=A8 d.a f [],cr:=A8 d.cr f (c-y)} n):=V.o.m n J;have u3:(av.setCell (C g 20) (.q (n:Int))).cell? (C g (2+f))=A (.sl G I 0 0):=by have:=j.o.cells.q f U;rwa[AX]at this
 have c:=qX (j.o.l U 0);have u4:=j.o.cells.t f U;have u5:=j.o.cells.h (10+f);have u6:=c.o.cells.d;have u7:=c.o.cells.h 19;have bl:(((n+1:Nat)):Int)-1=(n:Int):=N;rw[show(((n+1:Nat)):Int)=(n:Int)+1 by omega]at u1;clear ax bf a8 a9 aN;go_wp2
 go_ret;rw[aI.o];refine⟨J,⟨_,_,_,c.o.s sA J,λj E=>L9 U (λ_ V=>.inl V) E⟩,?_⟩;exact((aB.o.G ((Ia _ _ _ _).l λj E=>.inl E)).G ((Ia _ _ _ _).l λj E=>.inl E)).G ((Ia _ _ _ _).l λj E=>.inl E)
end Go.Proofs.YtaoikkhlnhfkfaaGreatDoor
