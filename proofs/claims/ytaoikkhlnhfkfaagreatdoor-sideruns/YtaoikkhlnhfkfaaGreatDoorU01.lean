import Derived.Test.YtaoikkhlnhfkfaaGreatDoorU00
import Derived.Test.YtaoikkhlnhfkfaaGreatDoorRows
import Derived.Test.YtaoikkhlnhfkfaaGreatDoorChecked
set_option maxHeartbeats 4000000
set_option linter.defProp false
set_option linter.unusedSimpArgs false
set_option linter.unusedVariables false
namespace Go.Proofs.YtaoikkhlnhfkfaaGreatDoor
open Go renaming Addr->xr,Calls->s8,maxLen->s7,method->zb,run_typeAssert_lacksB->xo,run_eql_iface_ptr_same->Iv,run_eql_iface_ptr_other->H4,run_eql_iface_types->Lo,loadVar->E0,underlying->wv
open Option renaming some->A,none->sA
open World renaming cell?->sY
open Bool renaming true->sy,false->ss
open Proofs.Tryz renaming prog->sr,underlying218->If,underlying214->Ih,func100->yr,func198->B8,underlying33->xg,underlying255->yy,underlying121->Im
open Extern.ReflectliteType renaming typeOf->tv,method->tc,toType->tx,abiMethod->uW,elem->vj,relation->tf,implements_->vu,assignableTo->uv
open Instr renaming typeAssert->vt
open Extern.ReflectliteValue renaming unpack->wa,methodAny->uj,valueError->te,method->sR,parts->u',isNil->xb,flagAddr->A3,elem->tB,set->uJ
open Result renaming andThen->xU
open Go.RowKit
variable {S:Nat ->Prop}{a w w':M}{p:xr}
structure Ç (S:Nat->Prop)(w w':M):Prop where
 x:w'.os=w.os
 p:w'.tape=w.tape
 i:w'.output=w.output
 h:w.heap.size<=w'.heap.size
 block:∀k,k<w.heap.size->¬S k->w'.heap[k]? = w.heap[k]?
def Ç.I S w:Ç S w w:=⟨J,J,J,lr,λ_ _ _=>J⟩
def Ç.G{b c}(h:Ç S a b)(k:Ç S b c):Ç S a c:=
 ⟨k.x.trans h.x,k.p.trans h.p,k.i.trans h.i,rX h.h k.h,λi G E=>(k.block i (rZ G h.h) E).trans (h.block i G E)⟩
def Ç.l{E}(h:Ç S w w')(O:∀k,S k->E k):Ç E w w':=⟨h.x,h.p,h.i,h.h,λk G U=>h.block k G λI=>U (O k I)⟩
def Ç.e (h:zW w w'):Ç S w w':=⟨h.os,h.tape,h.output,h.size,λk E _=>h.block k E⟩
def Ç.d{B}(h:Ç S w w')(O:B<=w.heap.size)(G:∀k,S k->B<=k):Below B w w':=
 ⟨h.x,h.p,h.i,h.h,λk E=>h.block k (rZ E O) λI=>oe (G k I)⟩
def Ç.drew (h:Ç S a w):Ç S a w.drew:=⟨h.x,h.p,h.i,h.h,h.block⟩
def Ç.g{a w:World}(h:Ç S a w)(G:S p.block) u:Ç S a (w.setCell p u):=
 h.G ⟨J,J,J,by simp[World.setCell],λk _ E=>Below.heap_setCell _ _ _ _ λe=>E (e▸G)⟩
def Ç.E (h:Ç S w w')(G:p.block<w.heap.size)(E:¬S p.block):=lB (w:=w) (h.block p.block G E)
def Ç.s (h:Ç S w w')(G:p.block<w.heap.size)(E:¬S p.block):=ko (w:=w) (h.block p.block G E)
def Io{p}(h:p):Go.RowKit.Hid p:=h
def BZ{w:M}{a}{v:Vl}(h:w.cell? a=A v):a.block<w.heap.size:=by
 obtain E|E:=nR a.block w.z
 exact E
 simp[sY,Χ E]at h
def Ao{α:Type}(l:List α) k(h:k<l.length):∃p,l[k]? = A p/\p∈l:=⟨l[k],oy h,Ζ h⟩
def BA{w:M}{O E}{e:tI}{size}{v:Vl}{n}{xs:List Vl}(h:w.ownsRow O e size v n xs)(Y:E<=O):w.ownsRow E e size v n xs:=by
 obtain⟨G,U|⟨g,cap,cur,I,V,r⟩⟩:=h
 exact⟨G,.inl U⟩
 exact⟨G,.inr ⟨g,cap,cur,I,rX Y V,r⟩⟩
def Ç.D{g B w w'}(h:Ç (λk=>k=g) w w')(I:B<=w.heap.size)(E:B<=g):=h.d I (λk G=>G▸E)
structure Sc (w:M)(ad:Nat->xr):Prop where
 a:w.cell? (C 1 0)=A (.f 255 (.p (A (ad 1))))
 b:w.cell? (C 5 0)=A (.f 255 (.p (A (ad 4))))
def Ha (ad:Nat->xr):Nat->Vl
 |0=>.nilIface
 |k+1=>.iface 255 (.pointer (A (ad k)))
def Dp (x y:Int):=decide (1<=x/\x<=20000/\0<=y/\y<=100000)
def BJ{x y}(h:Dp x y=sy):=Θ h
def EB (t x y:Int):=x+y*t/1000
def GI (t:Int):Int->lI->Int
 |m,[]=>m
 |m,p::r=>GI t (min m (EB t p.1 p.2)) r
def DX (t:Int):lI->Int
 |[]=>0
 |p::r=>GI t (EB t p.1 p.2) r
def Wh (ls:lI):=∀p,p∈ls->Dp p.1 p.2=sy
def Bq (ls:lI):=1<=ls.length/\ls.length<=6/\Wh ls
def vC{y t:Int}(I:0<=y)(G:y<=100000)(E:0<=t)(O:t<=1099511627776):0<=y*t/\y*t<=109951162777600000:=by
 refine⟨Ŗ I E,?_⟩;let a:=q7 G E;omega
variable {w:M}{a:oA}{ls:lI}
def UM x y(w:M)(h:Dp x y=sy):s8 sr 107 #[.agg #[.q x,.q y]] w λe w'=>e=.r (.bool sy)/\w'=w.alloc (.c #[.q x,.q y] 51):=by
 have⟨E,G,O,I⟩:=BJ h;clear h;go_in
 go_wp2
 go_ret;exact⟨J,J⟩
def qy x y(w:M)(h:Dp x y=ss):s8 sr 107 #[.agg #[.q x,.q y]] w λe w'=>e=.r (.bool ss)/\w'=w.alloc (.c #[.q x,.q y] 51):=by
 have E:=j7 h;clear h;by_cases O:1<=x
 .
  by_cases I:x<=20000
  .
   by_cases U:0<=y
   .
    have G:¬y<=100000:=λG=>E ⟨O,I,U,G⟩
    clear E;go_in
    go_wp2
    go_ret;exact⟨J,J⟩
   clear E;go_in
   go_wp2
   go_ret;exact⟨J,J⟩
  clear E;go_in
  go_wp2
  go_ret;exact⟨J,J⟩
 clear E;go_in
 go_wp2
 go_ret;exact⟨J,J⟩
def Cr (w:M)(a:oA)(ls:lI):=
 ls=[]\/∃b off,a=A (C b off)/\b<w.heap.size/\∀i x y,ls[i]? = A (x,y)->w.cell? (C b (off+i*2))=A (.q x)/\w.cell? (C b (off+i*2+1))=A (.q y)
def Cr.some (h:Cr w a ls)(E:1<=ls.length):∃b off,a=A (C b off)/\b<w.heap.size/\∀i x y,ls[i]? = A (x,y)->w.cell? (C b (off+i*2))=A (.q x)/\w.cell? (C b (off+i*2+1))=A (.q y):=by
 obtain rfl|h:=h
 simp at E
 exact h
def Cr.d{w':M}(h:Cr w a ls)(G:zW w w'):Cr w' a ls:=by
 obtain rfl|⟨b,off,rfl,E,I⟩:=h
 exact .inl J
 refine .inr ⟨b,off,J,rZ E G.size,λi x y O=>?_⟩;have:=I i x y O;exact⟨G.cell (p:=(C b (off+i*2))) E▸this.1,G.cell (p:=(C b (off+i*2+1))) E▸this.2⟩
def LH a cap ls w(Z:Cr w a ls)(h:Bq ls):s8 sr 61 #[.s a ls.length cap] w λe w'=>e=.returned .n/\zW w w':=by
 have⟨a,am,V⟩:=h;obtain⟨b,off,rfl,U,I⟩:=Z.some a;clear Z;generalize aa:ls.length=n at*;have ak:=(show Hid (ls.length=n)from aa)
 clear aa;go_in
 go_wp2
 go_loopw[16] (λi wr=>∃k:Nat,k<=n/\i=.q k/\zW w wr)(λi _=>n-(intOf i).toNat)
 case atStart=>exact⟨0,uD _,J,br⟩
 case round=>
  obtain⟨k,al,rfl,E⟩:=hrel;by_cases ab:k<n
  .
   have⟨⟨x,y⟩,G,Y⟩:=Ao ls k (ak.o▸ab);have ao:wr.cell? (C b (off+k*2))=A (.q x):=E.cell (p:=(C b (off+k*2))) U▸(I k x y G).1
   have an:wr.cell? (C b (off+k*2+1))=A (.q y):=E.cell (p:=(C b (off+k*2+1))) U▸(I k x y G).2
   have O:=V _ Y;clear I V G Y;have a:=(show Hid (Dp x y=sy)from O)
   clear O;go_wp2_with (go_at_call 107;apply(UM x y _ a.o).mono;rintro e w'⟨rfl,rfl⟩)
   let aj:=E.size;go_roundw
   case rel=>exact⟨k+1,N,nd,(E.alloc aj _).alloc so _⟩
   case measure=>simp[intOf];omega
  go_wp2
  go_ret;exact⟨J,E⟩
def Sm (a:oA) n cap(w:M)(E:Vl)(O:w.cell? (C 0 0)=A E)(G:n<=s7)(h:n<1\/6<n):s8 sr 61 #[.s a n cap] w λe w'=>e=.r E/\w'=w:=by
 unfold s7 at G;obtain h|h:=h
 .
  obtain rfl:n=0:=N;go_in
  go_wp2
  go_ret;exact⟨J,J⟩
 let I:¬n<1:=N;go_in
 go_wp2
 go_ret;exact⟨J,J⟩
def Xo a cap ls w I(O:w.cell? (C 1 0)=A (.f 255 (.p (A I))))(h:Cr w a ls)(an:1<=ls.length)(aw:ls.length<=6) j(ax:j<ls.length)(ab:∀i x y,i<j->ls[i]? = A (x,y)->Dp x y=sy)(Z:∀x y,ls[j]? = A (x,y)->Dp x y=ss):
  Calls sr 61 #[.s a ls.length cap] w λe w'=>zW w w'/\∃B,e=.r (.f 119 (.pp B 0))/\w.heap.size<=B/\B<w'.heap.size/\w'.cell? (C B 0)=A (.q j)/\w'.cell? (C B 1)=A (.f 255 (.p (A I))):=by
 obtain⟨b,off,rfl,e,U⟩:=h.some an;clear h;generalize ak:ls.length=n at*;have ap:=(show Hid (ls.length=n)from ak)
 clear ak;go_in
 go_wp2
 go_loopw[16] (λi wr=>∃k:Nat,k<=j/\i=.q k/\zW w wr)(λi _=>n-(intOf i).toNat)
 case atStart=>exact⟨0,uD _,J,br⟩
 case round=>
  obtain⟨k,aq,rfl,E⟩:=hrel;let Y:=E.size;let am:k<n:=N;have⟨⟨x,y⟩,G,i⟩:=Ao ls k (ap.o▸am);have aC:wr.cell? (C b (off+k*2))=A (.q x):=E.cell (p:=(C b (off+k*2))) e▸(U k x y G).1
  have av:wr.cell? (C b (off+k*2+1))=A (.q y):=E.cell (p:=(C b (off+k*2+1))) e▸(U k x y G).2
  have aa:1<w.heap.size:=by
   obtain h|h:=nR 1 w.heap.size
   exact h
   simp[sY,Χ h]at O
  have h:wr.cell? (C 1 0)=A (.f 255 (.p (A I))):=E.cell (p:=(C 1 0)) aa▸O
  by_cases ao:k<j
  .
   have V:=(show Hid (Dp x y=sy)from ab k x y ao G)
   clear U ab G i Z O h;go_wp2_with (go_at_call 107;apply(UM x y _ V.o).mono;rintro e w'⟨rfl,rfl⟩)
   go_roundw
   case rel=>exact⟨k+1,N,nd,(E.alloc Y _).alloc so _⟩
   case measure=>simp[intOf];omega
  obtain rfl:k=j:=N;have V:=(show Hid (Dp x y=ss)from Z x y G)
  clear U ab G i Z O;let aB:((wr.alloc (.c #[.q x,.q y] 51)).alloc (.c #[.q x,.q y] 51)).cell? (C 1 0)=A (.f 255 (.p (A I))):=by
   rw[ŧ _ _ (C 1 0) (rZ aa so),ŧ _ _ (C 1 0) (rZ aa Y)];exact h
  go_wp2_with (go_at_call 107;apply(qy x y _ V.o).mono;rintro e w'⟨rfl,rfl⟩)
  go_ret;refine⟨((E.alloc Y _).alloc so _).alloc so _,_,J,?_,?_,?_,?_⟩
  omega
  simp
  rw[Ŏ _ _ _ _ sm];rfl
  rw[Ŏ _ _ _ _ sm];rfl
def E5 (ls:lI):List Vl:=ls.flatMap λp=>[.q p.1,.q p.2]
def NE p(r:lI):E5 (p::r)=.q p.1::.q p.2::E5 r:=rfl
def Xd ls:(E5 ls).length=ls.length*2:=by
 induction ls with
 |nil=>rfl
 |cons p r E=>rw[NE];simp[E];omega
def lQ (ls:lI):∀i x y,ls[i]? = A (x,y)->(E5 ls)[i*2]? = A (.q x)/\(E5 ls)[i*2+1]? = A (.q y):=by
 induction ls with
 |nil=>intro i x y h;simp at h
 |cons p r E=>
  intro i x y h;rw[NE];cases i with
  |zero=>simp at h;subst h;exact⟨J,J⟩
  |succ i=>
   have:=E i x y (sx h);rw[show(i+1)*2=i*2+1+1 by omega];exact⟨sx this.1,sx this.2⟩
def XH (ls:lI):∀j u,(E5 ls)[j]? = A u->∃i x y,ls[i]? = A (x,y)/\((j=i*2/\u=.q x)\/(j=i*2+1/\u=.q y)):=by
 induction ls with
 |nil=>intro j u h;simp[E5]at h
 |cons p r I=>
  intro j u h;rw[NE]at h
  match j,h with
  |0,h=>exact⟨0,p.1,p.2,J,.inl ⟨J,sx h.symm⟩⟩
  |1,h=>exact⟨0,p.1,p.2,J,.inr ⟨J,sx h.symm⟩⟩
  |j+2,h=>
   have⟨i,x,y,G,E⟩:=I j u (sx h);exact⟨i+1,x,y,sx G,by obtain⟨e,f⟩|⟨e,f⟩:=E;exact .inl ⟨N,f⟩;exact .inr ⟨N,f⟩⟩
def iX ls:∀u∈E5 ls,u.oneCell'=true:=by
 intro u G;have⟨j,E⟩:=υ.1 G;obtain⟨i,x,y,-,h⟩:=XH ls j u E;obtain⟨-,rfl⟩|⟨-,rfl⟩:=h<;>rfl
def Zo (w:M)(B:Nat)(v:Vl)(ls:lI):=w.ownsRow B 51 2 v ls.length (E5 ls)
def Zo.open{B v}(h:Zo w B v ls):∃a cap,v=.s a ls.length cap/\ls.length<=cap/\cap<=s7/\Cr w a ls:=by
 obtain⟨a,⟨rfl,I⟩|⟨g,cap,cur,rfl,Y,O,V,E,v,Z⟩⟩:=h
 refine⟨sA,0,I▸rfl,N,by simp[s7],.inl (Ğ.1 I)⟩
 refine⟨_,cap,J,V,E,.inr ⟨g,0,J,?_,λi x y U=>?_⟩⟩
 .
  obtain h|h:=nR g w.z
  exact h
  simp[Χ h]at O
 let G:w.ownsRow B 51 2 (.sl g 0 ls.length cap) ls.length (E5 ls):=⟨a,.inr ⟨g,cap,cur,J,Y,O,V,E,v,Z⟩⟩
 let a:i<ls.length:=by
  obtain h|h:=nR i ls.length
  exact h
  simp[ą h]at U
 have:=lQ ls i x y U;rw[G.cellAt _ N,G.cellAt _ N,Ă];exact this
def qU{ad}(h:Cr w (A ad) ls):∀j u,(E5 ls)[j]? = A u->w.cell? (ad.add j)=A u:=by
 intro j u G;have⟨i,x,y,E,I⟩:=XH ls j u G;obtain rfl|⟨b,off,e,-,h⟩:=h
 simp at E
 cases e
 have:=h i x y E;rw[κ];obtain⟨rfl,rfl⟩|⟨rfl,rfl⟩:=I
 exact this.1
 exact this.2
def Tryz.L3:(sr.info? 51).map (λi=>(i.zero,i.size,i.bytes))=A (A (.agg #[.q 0,.q 0]),2,16):=kr
def Zp a cap ls w(E:Cr w a ls)(e:ls.length<=1000)(U:a=sA->ls=[]/\cap=0):s8 sr 21 #[.s a ls.length cap] w λe w'=>∃v,e=.r v/\Zo w' w.heap.size v ls/\zW w w':=by
 have⟨e,V,Y,v,k⟩:=ó Tryz.L3;cases a with
 |none=>
  obtain⟨rfl,rfl⟩:=U J;show s8 sr 21 #[.sn] w _
  go_in
  go_wp2
  go_ret;exact⟨_,J,Ĉ ..,br⟩
 |some X=>
  let I:=qU E;let G:=Xd ls;let O:=iX ls;have a:=Io I;have W:=Io G;have Z:=Io O;have T:=Io E;clear I G O E U;go_in
  go_wp2_with (at_builtin;refine wpList_append_own _ J _ _ 52 J w.z 51 e (.agg #[.q 0,.q 0]) 2 16 Tryz.underlying52 V Y v k J dc (.sn) 0 [] J (Ĉ ..) X ls.length cap (E5 ls) J W.o a.o Z.o ud N lr ?_;intro v' a a V e)
  go_ret;refine⟨_,J,by simpa[Zo]using a,?_⟩;exact br.grown V lr (λk a=>nf a)
def ut ls:Wh ls\/∃j,j<ls.length/\(∀i x y,i<j->ls[i]? = A (x,y)->Dp x y=sy)/\∀x y,ls[j]? = A (x,y)->Dp x y=false:=by
 induction ls with
 |nil=>exact .inl λp E=>nf E
 |cons q r V=>
  cases I:Dp q.1 q.2 with
  |false=>exact .inr ⟨0,sm,λi x y Z=>N,λx y h=>by simp at h;subst h;exact I⟩
  |true=>
   obtain h|⟨j,O,Y,U⟩:=V
   .
    refine .inl λp E=>?_
    obtain rfl|E:=sV.1 E
    exact I
    exact h p E
   refine .inr ⟨j+1,sx O,λi x y Z G=>?_,λx y G=>U x y (sx G)⟩;cases i with
   |zero=>simp at G;subst G;exact I
   |succ i=>exact Y i x y N (sx G)
def O4 x y(w:M)(h:Dp x y=sy):s8 sr 44 #[.agg #[.q x,.q y]] w λe w'=>e=.r (.q 0)/\w'=w.alloc (.c #[.q x,.q y] 51):=by
 have⟨E,G,O,I⟩:=BJ h;clear h;go_in
 go_wp2
 go_ret;exact⟨J,J⟩
def aA x y(w:M)(h:Dp x y=ss):s8 sr 44 #[.agg #[.q x,.q y]] w λe w'=>e=.r (.q 2)/\w'=w.alloc (.c #[.q x,.q y] 51):=by
 have E:=j7 h;clear h;by_cases O:1<=x
 .
  by_cases I:x<=20000
  .
   by_cases U:0<=y
   .
    have G:¬y<=100000:=λG=>E ⟨O,I,U,G⟩
    clear E;go_in
    go_wp2
    go_ret;exact⟨J,J⟩
   clear E;go_in
   go_wp2
   go_ret;exact⟨J,J⟩
  clear E;go_in
  go_wp2
  go_ret;exact⟨J,J⟩
 clear E;go_in
 go_wp2
 go_ret;exact⟨J,J⟩
open Go.Extern.Stop Go.Stop Go.Extern
def Tryz.k (v:Vl)(w:M):(tv #[.f 255 v]).run sr w=.ok (.f 207 (.agg #[.pp 10 255])) w:=kr
def Nq:Array Vl ->Sem Vl:=tc λt=>do Rtype.noPackHeld "Comparable" t;pure (.bool (<-typeInfo t).comparable)
def Tryz.e (w:M):(Nq #[.agg #[.pp 10 255]]).run sr w=.ok (.bool sy) w:=kr
def Tryz.d (v:Vl)(w:M):(zb 387 207 v "Comparable").run sr w=.ok (198,v) w:=kr
def Tryz.z:(sr.info? 255).map (·.comparable)=A true:=kr
def Tryz.n:(sr.info? 275).map (·.size)=A 1:=kr
def Tryz.My (v:Vl)(E:tI)(w:M):(vt (.f 255 v) E 218 sy).run sr w=.ok (.t #[.n,.bool ss]) w:=xo If kr kr v E w
def Tryz.NO (v:Vl)(E:tI)(w:M):(vt (.f 255 v) E 211 sy).run sr w=.ok (.t #[.n,.bool ss]) w:=xo Tryz.underlying211 kr kr v E w
def Tryz.r (v:Vl)(E:tI)(w:M):(vt (.f 255 v) E 214 sy).run sr w=.ok (.t #[.n,.bool ss]) w:=xo Ih kr kr v E w
def Tryz.m (v:Vl)(E:tI)(w:M):(vt (.f 255 v) E 216 sy).run sr w=.ok (.t #[.n,.bool ss]) w:=xo Tryz.underlying216 kr kr v E w
def Tryz.Mz (v:Vl)(E:tI)(w:M):(vt (.f 119 v) E 218 sy).run sr w=.ok (.t #[.n,.bool ss]) w:=xo If kr kr v E w
def Tryz.v (v:Vl)(E:tI)(w:M):(vt (.f 119 v) E 214 sy).run sr w=.ok (.t #[.f 119 v,.bool sy]) w:=run_typeAssert_hasB Ih kr v E w
def Tryz.q (v:Vl)(w:M):(zb 387 119 v "Unwrap").run sr w=.ok (192,v) w:=kr
def zB a(w:M):s8 sr 53 #[.f 255 (.p (A a)),.f 255 (.p (A a))] w λe w'=>e=.r (.bool sy)/\w'=w:=by
 have⟨i,I,G⟩:=ė.1 Tryz.z;have⟨j,E,e⟩:=ė.1 Tryz.n;let O:=@run_callFunc_extern sr 100 _ tv yr kr kr kr kr;let V:=@run_callFunc_extern sr 198 _ Nq B8 kr kr kr kr;let e:=Tryz.k;let Y:=Tryz.e;let U:=Tryz.d;let Z:=Iv (P:=sr) w a xg yy I G E;go_in
 go_wp2
 apply ū 1
 rw[Ř];go_wp2
 go_ret;exact⟨J,J⟩
def uw a b(U V:Array Vl)(O Y:tI)(w:M)(E:a≠b)(X:w.heap[a.block]? = A (.c U O (0,0)))(G:w.heap[b.block]? = A (.c V Y (0,0))):s8 sr 53 #[.f 255 (.p (A a)),.f 255 (.p (A b))] w λe w'=>e=.r (.bool ss)/\w'=w:=by
 have⟨i,Z,a⟩:=ė.1 Tryz.z;have⟨j,b,I⟩:=ė.1 Tryz.n;let e:=@run_callFunc_extern sr 100 _ tv yr kr kr kr kr;let e:=@run_callFunc_extern sr 198 _ Nq B8 kr kr kr kr;let e:=Tryz.k;let e:=Tryz.e;let e:=Tryz.d;let e:=Tryz.My;let e:=Tryz.r;let e:=Tryz.m;let e:=H4 (P:=sr) w xg yy Z a b (by rw[I];decide) E X G;go_in
 go_wp2
 apply ū 1
 rw[Ř];go_wp2
 go_ret;exact⟨J,J⟩
def Wy E b(w:M)(aa:w.cell? (C E 1)=A (.f 255 (.p (A b)))):s8 sr 53 #[.f 119 (.pp E 0),.f 255 (.p (A b))] w λe w'=>e=.r (.bool sy)/\w'=w:=by
 have⟨i,O,I⟩:=ė.1 Tryz.z;have⟨j,G,am⟩:=ė.1 Tryz.n;let Z:=@run_callFunc_extern sr 100 _ tv yr kr kr kr kr;let ab:=@run_callFunc_extern sr 198 _ Nq B8 kr kr kr kr;let V:=Tryz.k;let e:=Tryz.e;let Y:=Tryz.d;let al:=Tryz.Mz;let U:=Tryz.v;let ac:=Tryz.q;let ak:=Iv (P:=sr) w b xg yy O I G;let e:=Lo (P:=sr) 119 255 (.pp E 0) (.p (A b)) xg dc w;go_in
 go_wp2
 apply ū 2
 rw[Ř];go_wp2
 rw[Ř];go_wp2
 go_ret;exact⟨J,J⟩
def UE E b a(V Y:Array Vl)(U Z:tI)(w:M)(aq:w.cell? (C E 1)=A (.f 255 (.p (A a))))(G:a≠b)(X:w.heap[a.block]? = A (.c V U (0,0)))(I:w.heap[b.block]? = A (.c Y Z (0,0))):s8 sr 53 #[.f 119 (.pp E 0),.f 255 (.p (A b))] w λe w'=>e=.r (.bool ss)/\w'=w:=by
 obtain⟨i,i,a⟩:=ė.1 Tryz.z;obtain⟨j,e,O⟩:=ė.1 Tryz.n;have aw:=@run_callFunc_extern sr 100 _ tv yr kr kr kr kr;have av:=@run_callFunc_extern sr 198 _ Nq B8 kr kr kr kr;have ao:=Tryz.k;have aE:=Tryz.e;have ak:=Tryz.d;have ax:=Tryz.My;have ap:=Tryz.r;have aB:=Tryz.m;have an:=Tryz.Mz;have aj:=Tryz.v;have al:=Tryz.q;have am:=H4 (P:=sr) w xg yy i a e (by rw[O];decide) G X I;have aC:=Lo (P:=sr) 119 255 (.pp E 0) (.p (A b)) xg dc w;go_in
 go_wp2
 refine ū 2 ?_
 rw[Ř];go_wp2
 rw[Ř];go_wp2
 go_ret;exact⟨J,J⟩
def Tryz.f t(w:M):(wa (.f 121 (.p (A t)))).run sr w
  = .ok (.agg #[.pp 10 121,.pp w.heap.size 0,.int .u64 150]) (w.alloc (.c #[.p (A t)] 121)):=kr
def Tryz.IK a(w:M):(uj (te "reflectlite.Value.Type" 0) (λt _ _ _=>tx t) #[.agg #[.pp 10 121,.p (A a),.int .u64 150]]).run sr w
  = .ok (.f 207 (.agg #[.pp 10 121])) w:=kr
def Tryz.y (h:Vl)(w:M):(zb 387 207 (.agg #[h]) "Kind").run sr w=.ok (187,h) w:=kr
def Tryz.DM (w:M):((uW λt=>(λa:Nat=>Value.int IntKind.u8 (a:Int))<$> Rtype.kind t) #[.pp 10 121]).run sr w=.ok (.int .u8 22) w:=kr
def Tryz.Mu (w:M):((uW λt=>(λa:Nat=>Value.int IntKind.u8 (a:Int))<$> Rtype.kind t) #[.pp 10 119]).run sr w=.ok (.int .u8 22) w:=kr
def oR (z:Sem Vl)(f:tI->xr->Nat->Nat->Sem Vl)(v:Vl):sR z f #[v]=(do match <-u' v with|none=>z|some (t,a,fl)=>f t a fl (fl%32)):=rfl
def Tryz.K a(w:M):(u' (.agg #[.pp 10 121,.p (A a),.int .u64 150])).run sr w=.ok (A (121,a,150)) w:=kr
def Tryz.I a p(W:M)(E:W.cell? a=A (.p (A p))):(sR (te "reflectlite.Value.IsNil" 0) xb #[.agg #[.pp 10 121,.p (A a),.int .u64 150]]).run sr W=.ok (.bool ss) W:=by
 rw[oR];simp only[ő,Tryz.K,xU];simp[xb,E0,isAgg,wv,Im,E,xU]
def Tryz.x (h:Vl)(w:M):(zb 387 207 (.agg #[h]) "Elem").run sr w=.ok (199,.agg #[h]) w:=kr
def Tryz.i (h:Vl)(w:M):(zb 387 207 (.agg #[h]) "Implements").run sr w=.ok (200,.agg #[h]) w:=kr
def Tryz.h (h:Vl)(w:M):(zb 387 207 (.agg #[h]) "AssignableTo").run sr w=.ok (197,.agg #[h]) w:=kr
def Tryz.Ds (w:M):(tc vj #[.agg #[.pp 10 121]]).run sr w=.ok (.f 207 (.agg #[.pp 10 119])) w:=kr
def Tryz.s (w:M):(tf "Implements" vu #[.agg #[.pp 10 119],.f 207 (.agg #[.pp 10 33])]).run sr w=.ok (.bool sy) w:=kr
def Tryz.MD (v:Vl)(w:M):(tv #[.f 119 v]).run sr w=.ok (.f 207 (.agg #[.pp 10 119])) w:=kr
def Tryz.H (w:M):(tf "AssignableTo" uv #[.agg #[.pp 10 119],.f 207 (.agg #[.pp 10 119])]).run sr w=.ok (.bool sy) w:=kr
def Tryz.G (w:M):(tf "AssignableTo" uv #[.agg #[.pp 10 255],.f 207 (.agg #[.pp 10 119])]).run sr w=.ok (.bool ss) w:=kr
def Tryz.L4 e(w:M):(wa (.f 119 (.p (A e)))).run sr w
  = .ok (.agg #[.pp 10 119,.pp w.heap.size 0,.int .u64 150]) (w.alloc (.c #[.p (A e)] 119)):=kr
def Tryz.Lz (w:M):(Rtype.elem? 121).run sr w=.ok (A 119) w:=kr
def Tryz.N4 p(w:M):(ReflectliteValue.mk 119 p A3).run sr w=.ok (.agg #[.pp 10 119,.p (A p),.int .u64 406]) w:=kr
def Tryz.Mp a p(W:M)(E:W.cell? a=A (.p (A p))):(sR (te "reflectlite.Value.Elem" 0) tB #[.agg #[.pp 10 121,.p (A a),.int .u64 150]]).run sr W
   = .ok (.agg #[.pp 10 119,.p (A p),.int .u64 406]) W:=by
 rw[oR];simp only[ő,Tryz.K,xU];simp[tB,E0,isAgg,wv,Im,E,xU,Tryz.Lz,Tryz.N4]
def Tryz.MA a(w:M):(u' (.agg #[.pp 10 119,.p (A a),.int .u64 406])).run sr w=.ok (A (119,a,406)) w:=kr
def Tryz.M9 a(w:M):(u' (.agg #[.pp 10 119,.p (A a),.int .u64 150])).run sr w=.ok (A (119,a,150)) w:=kr
def Tryz.Mn (w:M):(Rtype.directlyAssignable 119 119).run sr w=.ok sy w:=kr
def Tryz.NX E b e(old:Vl)(W:M)(O:W.cell? b=A (.p (A e)))(I:W.cell? E=A old)(G:W.frozen? E=ss):(uJ #[.agg #[.pp 10 119,.p (A E),.int .u64 406],.agg #[.pp 10 119,.p (A b),.int .u64 150]]).run sr W
   = .ok (.t #[]) (W.setCell E (.p (A e))):=by
 change Sem.run sr (u' (.agg #[.pp 10 119,.p (A E),.int .u64 406]) >>= λ_=>u' (.agg #[.pp 10 119,.p (A b),.int .u64 150]) >>= _) W=_
 simp only[ő,Tryz.MA,Tryz.M9,xU];simp[A3,E0,isAgg,wv,Tryz.underlying119,O,xU,Tryz.Mn,storeVar,Value.cells,storeCells,Addr.add]
 rw[run_store sr W E _ _ rfl];simp[I,G]
def jP e t(old:Vl)(w:M)(G:w.cell? (C 9 0)=A (.f 207 (.agg #[.pp 10 33])))(O:w.cell? t=A old)(V:w.frozen? t=ss):s8 sr 52 #[.f 119 (.p (A e)),.f 121 (.p (A t))] w λU w'=>U=.r (.bool sy)/\w'=((((w.alloc (.c #[.p (A t)] 121)).alloc (.c #[.pp 10 121,.pp w.heap.size 0,.int .u64 150] 167)).alloc (.c #[.pp 10 121,.pp w.heap.size 0,.int .u64 150] 167)).alloc (.c #[.p (A e)] 119)).setCell t (.p (A e)):=by
 have h:=@run_callFunc_extern sr 96 _ (λargs=>wa (args.getD 0 (.t #[]))) Tryz.func96 kr kr kr kr;have ao:=@run_callFunc_extern sr 97 _ (uj (te "reflectlite.Value.Type" 0) (λt _ _ _=>tx t)) Tryz.func97 kr kr kr kr
 have av:=@run_callFunc_extern sr 98 _ (sR (te "reflectlite.Value.IsNil" 0) xb) Tryz.func98 kr kr kr kr
 have h:=@run_callFunc_extern sr 187 _ (uW λt=>do pure (.int .u8 (<-Rtype.kind t))) Tryz.func187 kr kr kr kr;have aG:=@run_callFunc_extern sr 199 _ (tc vj) Tryz.func199 kr kr kr kr;have aW:=@run_callFunc_extern sr 200 _ (tf "Implements" vu) Tryz.func200 kr kr kr kr
 have aj:=@run_callFunc_extern sr 100 _ tv yr kr kr kr kr;have Y:=@run_callFunc_extern sr 197 _ (tf "AssignableTo" uv) Tryz.func197 kr kr kr kr
 have h:=@run_callFunc_extern sr 133 _ (sR (te "reflectlite.Value.Elem" 0) tB) Tryz.func133 kr kr kr kr
 have al:=@run_callFunc_extern sr 134 _ uJ Tryz.func134 kr kr kr kr;have h:=Tryz.MD;have h:=Tryz.h;have a0:=Tryz.H;have an:=Tryz.L4;have h:=Tryz.f;have ai:=Tryz.IK;have h:=Tryz.y;have h:=Tryz.x;have Z:=Tryz.i;have aL:=Tryz.DM;have h:=Tryz.Mu;have h:=Tryz.Ds;have ac:=Tryz.s;have h:=Tryz.I (C w.heap.size 0) t ((w.alloc (.c #[.p (A t)] 121)).alloc (.c #[.pp 10 121,.pp w.heap.size 0,.int .u64 150] 167)) sm;have E:9<w.heap.size:=by
  obtain h|h:=nR 9 w.heap.size
  . exact h
  simp[sY,Χ h]at G
 have h:((w.alloc (.c #[.p (A t)] 121)).alloc (.c #[.pp 10 121,.pp w.heap.size 0,.int .u64 150] 167)).cell? (C 9 0)=A (.f 207 (.agg #[.pp 10 33])):=by
  rw[ŧ _ _ (C 9 0) (rZ E sm),ŧ _ _ (C 9 0) E];exact G
 have I:t.block<w.heap.size:=by
  obtain h|h:=nR t.block w.heap.size
  . exact h
  simp[sY,Χ h]at O
 have h:=Tryz.Mp (C w.heap.size 0) t (((w.alloc (.c #[.p (A t)] 121)).alloc (.c #[.pp 10 121,.pp w.heap.size 0,.int .u64 150] 167)).alloc (.c #[.pp 10 121,.pp w.heap.size 0,.int .u64 150] 167)) (by rw[ŧ _ _ (C w.heap.size 0) (by simp;omega)];simp);have st:=Tryz.NX t (C (w.heap.size+1+1+1) 0) e old ((((w.alloc (.c #[.p (A t)] 121)).alloc (.c #[.pp 10 121,.pp w.heap.size 0,.int .u64 150] 167)).alloc (.c #[.pp 10 121,.pp w.heap.size 0,.int .u64 150] 167)).alloc (.c #[.p (A e)] 119))
  (by rw[Ŏ _ _ _ _ sm];rfl)
  (by rw[ŧ _ _ t (by simp;omega),ŧ _ _ t (by simp;omega),ŧ _ _ t (by simp;omega),ŧ _ _ t I];exact O)
  (by rw[mr _ _ t (by simp;omega),mr _ _ t (by simp;omega),mr _ _ t (by simp;omega),mr _ _ t (kp I)];exact V)
 go_in
 go_wp2
 refine ū 1 ?_
 rw[Ř];go_wp2
 go_ret;exact⟨J,J⟩
def nH e t(w:M)(G:w.cell? (C 9 0)=A (.f 207 (.agg #[.pp 10 33]))):s8 sr 52 #[.f 255 (.p (A e)),.f 121 (.p (A t))] w λI w'=>I=.r (.bool ss)/\w'=(((w.alloc (.c #[.p (A t)] 121)).alloc (.c #[.pp 10 121,.pp w.heap.size 0,.int .u64 150] 167)).alloc (.c #[.pp 10 121,.pp w.heap.size 0,.int .u64 150] 167)):=by
 have e:=@run_callFunc_extern sr 96 _ (λargs=>wa (args.getD 0 (.t #[]))) Tryz.func96 kr kr kr kr;have aj:=@run_callFunc_extern sr 97 _ (uj (te "reflectlite.Value.Type" 0) (λt _ _ _=>tx t)) Tryz.func97 kr kr kr kr
 have al:=@run_callFunc_extern sr 98 _ (sR (te "reflectlite.Value.IsNil" 0) xb) Tryz.func98 kr kr kr kr
 have ai:=@run_callFunc_extern sr 187 _ (uW λt=>do pure (.int .u8 (<-Rtype.kind t))) Tryz.func187 kr kr kr kr;have e:=@run_callFunc_extern sr 199 _ (tc vj) Tryz.func199 kr kr kr kr;have aG:=@run_callFunc_extern sr 200 _ (tf "Implements" vu) Tryz.func200 kr kr kr kr
 have ac:=@run_callFunc_extern sr 100 _ tv yr kr kr kr kr;have O:=@run_callFunc_extern sr 197 _ (tf "AssignableTo" uv) Tryz.func197 kr kr kr kr
 have e:=Tryz.k;have av:=Tryz.h;have e:=Tryz.G;have e:=Tryz.f;have ab:=Tryz.IK;have an:=Tryz.y;have Z:=Tryz.x;have U:=Tryz.i;have e:=Tryz.DM;have V:=Tryz.Mu;have e:=Tryz.Ds;have e:=Tryz.s;have e:=Tryz.NO;have Y:=Tryz.r;have ao:=Tryz.m;have e:=Tryz.I (C w.z 0) t ((w.alloc (.c #[.p (A t)] 121)).alloc (.c #[.pp 10 121,.pp w.z 0,.int .u64 150] 167)) sm;have E:9<w.z:=by
  obtain h|h:=nR 9 w.z
  . exact h
  simp[sY,Χ h]at G
 have e:((w.alloc (.c #[.p (A t)] 121)).alloc (.c #[.pp 10 121,.pp w.z 0,.int .u64 150] 167)).cell? (C 9 0)=A (.f 207 (.agg #[.pp 10 33])):=by
  rw[ŧ _ _ (C 9 0) (rZ E sm),ŧ _ _ (C 9 0) E];exact G
 go_in
 go_wp2
 refine ū 1 ?_
 rw[Ř];go_wp2
 go_ret;exact⟨J,J⟩
variable {w w':M}{ad:Nat ->xr}
structure Errs9 (w:M)(ad:Nat->xr):Prop where
 g:w.cell? (C 9 0)=A (.f 207 (.agg #[.pp 10 33]))
 e:w.cell? (C 3 0)=A (.f 255 (.p (A (ad 0))))
 a:w.cell? (C 1 0)=A (.f 255 (.p (A (ad 1))))
 k:w.cell? (C 0 0)=A (.f 255 (.p (A (ad 2))))
 l:w.cell? (C 4 0)=A (.f 255 (.p (A (ad 3))))
 b:w.cell? (C 5 0)=A (.f 255 (.p (A (ad 4))))
 p:w.cell? (C 6 0)=A (.f 255 (.p (A (ad 5))))
 q:w.cell? (C 7 0)=A (.f 255 (.p (A (ad 6))))
 r:w.cell? (C 8 0)=A (.f 255 (.p (A (ad 7))))
 i:w.cell? (C 2 0)=A (.f 255 (.p (A (ad 8))))
structure FV (w:M)(ad:Nat->xr):Prop extends Errs9 w ad where
 h:∀i j,i<9->j<9->i≠j->ad i≠ad j
 blk:∀i,i<9->∃c t,w.heap[(ad i).block]? = A (.c c t (0,0))
def bS{b:Nat}{o}(G:zW w w')(h:w.heap[b]? = A o):w'.heap[b]? = A o:=by
 rw[G.block b ?_];exact h;obtain E|E:=nR b _
 exact E
 simp[Χ E]at h
def Errs9.d (h:Errs9 w ad)(E:zW w w'):Errs9 w' ad:=
 ⟨jf E h.g,jf E h.e,jf E h.a,jf E h.k,jf E h.l,jf E h.b,jf E h.p,jf E h.q,jf E h.r,jf E h.i⟩
def FV.d (h:FV w ad)(E:zW w w'):FV w' ad:=
 ⟨h.toErrs9.d E,h.h,λi G=>by obtain⟨c,t,e⟩:=h.blk i G;exact⟨c,t,bS E e⟩⟩
def Errs9.D{G}(h:Errs9 w ad)(E:Errs9 w G) k(I:k<9):ad k=G k:=by
 have same:∀{a:xr}{x y:xr},w.cell? a=A (.f 255 (.p (A x)))->w.cell? a=A (.f 255 (.p (A y)))->x=y:=λU O=>sL
 match k,I with
 |0,_=>exact same h.e E.e
 |1,_=>exact same h.a E.a
 |2,_=>exact same h.k E.k
 |3,_=>exact same h.l E.l
 |4,_=>exact same h.b E.b
 |5,_=>exact same h.p E.p
 |6,_=>exact same h.q E.q
 |7,_=>exact same h.r E.r
 |8,_=>exact same h.i E.i
abbrev Ū (ad:Nat->xr):Array Vl:=#[.f 255 (.p (A (ad 0))),.f 255 (.p (A (ad 1))),.f 255 (.p (A (ad 2))),.f 255 (.p (A (ad 3))),.f 255 (.p (A (ad 4))),.f 255 (.p (A (ad 5))),.f 255 (.p (A (ad 6))),.f 255 (.p (A (ad 7))),.f 255 (.p (A (ad 8)))]
def nG ad(w:M) k(E:k<9):(w.alloc (.c (Ū ad) 33)).cell? (C w.heap.size k)=A (.f 255 (.p (A (ad k)))):=by
 rw[Ŏ _ _ _ _ J]
 match k,E with
 |0,_=>rfl
 |1,_=>rfl
 |2,_=>rfl
 |3,_=>rfl
 |4,_=>rfl
 |5,_=>rfl
 |6,_=>rfl
 |7,_=>rfl
 |8,_=>rfl
 |k+9,h=>omega
def kJ (w:M) O I E G(v:Vl):(((((w.alloc (.c #[.p sA] 119)).alloc O).alloc I).alloc E).alloc G|>.setCell (C w.heap.size 0) v).cell? (C w.heap.size 0)=A v:=
 ŏ _ _ _ (u:=.p _) (by
  rw[ŧ _ _ _ so,ŧ _ _ _ so,ŧ _ _ _ so,ŧ _ _ _ sm,Ŏ _ _ _ _ J];rfl)
def vM (w:M):s8 sr 30 #[.n] w λe w'=>e=.r (.t #[.q 0,.q (-1)])/\w'=w:=by
 go_wp2
 go_ret2;exact⟨J,J⟩
def sS ad k(V:k<9) w(i:FV w ad):s8 sr 30 #[.f 255 (.p (A (ad k)))] w λe w'=>e=.r (.t #[.q (k+1),.q (-1)])/\zW w w':=by
 have Z:zW w (w.alloc (.c #[.p sA] 119)):=ba;have s:=Io i;have O:=Io Z;clear i Z;go_in
 go_wp2_with fail;refine(nH (ad k) _ _ (s.o.d O.o).g).mono ?_
 rintro e e⟨rfl,j⟩;have I:zW w e:=by
  rw[j];exact((O.o.alloc sm _).alloc so _).alloc so _
 have i:=Io I;have E:=s.o.d I;have T:=E.e;have S:=E.a;have U:=E.k;have W:=E.l;have Z:=E.b;have O:=E.p;have Y:=E.q;have X:=E.r;have s:=E.i;have G:=Io E;clear j I E;go_wp2_with fail;clear T S U W Z O Y X s;have Y:=nG ad e;have j:zW w (e.alloc (.c (Ū ad) 33)):=i.o.alloc i.o.size _;have i:FV (e.alloc (.c (Ū ad) 33)) ad:=G.o.d ba;generalize e.alloc (.c (Ū ad) 33)=I at*;have e:=Io Y;have w:=Io j;have G:=Io i;clear Y j i;go_loop[3,27] (λs i=>s=.q (-1)/\∃j:Nat,j<=k/\i=.q j)(λ_ i=>9-(intOf i).toNat)
 case atStart=>exact⟨J,0,uD _,J⟩
 case round=>
  obtain⟨rfl,j,i,rfl⟩:=hrel;have i:=e.o j N;by_cases e:j<k
  .
   obtain⟨O,i,ba⟩:=G.o.blk k V;obtain⟨s,E,U⟩:=G.o.blk j N;have e:=Io (uw (ad k) (ad j) O s i E I (G.o.h k j V N N) ba U);clear ba U;go_wp2_with (go_at_call 53;refine e.o.mono ?_;rintro e w'⟨rfl,rfl⟩)
   go_round
   case rel=>exact⟨J,j+1,N,nd⟩
   case measure=>simp[intOf];omega
  obtain rfl:j=k:=N;go_wp2_with (go_at_call 53;refine(zB (ad j) _).mono ?_;rintro e w'⟨rfl,rfl⟩)
  go_ret2;exact⟨J,w.o⟩
def kT ad k(ab:k<9) n G w(an:FV w ad)(al:w.cell? (C G 0)=A (.q n))(Y:w.cell? (C G 1)=A (.f 255 (.p (A (ad k))))):s8 sr 30 #[.f 119 (.pp G 0)] w λe w'=>e=.r (.t #[.q (k+1),.q n])/\zW w w':=by
 have ai:zW w (w.alloc (.c #[.p sA] 119)):=ba;have ao:=Io an;have Z:=Io ai;have a7:=Io al;have W:=Io Y;clear an ai al Y;go_in
 go_wp2_with fail;refine(jP (C G 0) (C w.z 0) (.p sA) _ (ao.o.d Z.o).g sm sm).mono ?_
 rintro e w1⟨rfl,U⟩;have I:zW w w1:=by
  rw[U];exact((((Z.o.alloc sm _).alloc so _).alloc so _).alloc so _).setCell lr _
 have P:w1.cell? (C w.z 0)=A (.pp G 0):=by
  rw[U];exact kJ w _ _ _ _ _
 have ak:=Io I;have E:=ao.o.d I;have aG:=jf I a7.o;have S:=E.e;have r9:=E.a;have Q:=E.k;have a3:=E.l;have av:=E.b;have R:=E.p;have a6:=E.q;have Z:=E.r;have Y:=E.i;have T:=Io E;clear U I E;go_wp2_with fail;clear P aG S r9 Q a3 av R a6 Z Y;have ac:=nG ad w1;have V:zW w (w1.alloc (.c (Ū ad) 33)):=ak.o.alloc ak.o.size _;have aj:FV (w1.alloc (.c (Ū ad) 33)) ad:=T.o.d ba;generalize w1.alloc (.c (Ū ad) 33)=a5 at*;have e:=Io ac;have I:=Io V;have am:=Io (jf V W.o);have O:=Io aj;clear ac V aj;go_loop[3,27] (λs i=>s=.q n/\∃j:Nat,j<=k/\i=.q j)(λ_ i=>9-(intOf i).toNat)
 case atStart=>exact⟨J,0,uD _,J⟩
 case round=>
  obtain⟨rfl,j,i,rfl⟩:=hrel;have i:=e.o j N;by_cases e:j<k
  .
   obtain⟨s,R,ba⟩:=O.o.blk k ab;obtain⟨P,i,aa⟩:=O.o.blk j N;have n:=Io (UE G (ad j) (ad k) s P R i a5 am.o (O.o.h k j ab N N) ba aa);clear ba aa;go_wp2_with (go_at_call 53;refine n.o.mono ?_;rintro e w'⟨rfl,rfl⟩)
   go_round
   case rel=>exact⟨J,j+1,N,nd⟩
   case measure=>simp[intOf];omega
  obtain rfl:j=k:=N;go_wp2_with (go_at_call 53;refine(Wy G (ad j) _ am.o).mono ?_;rintro e w'⟨rfl,rfl⟩)
  go_ret2;exact⟨J,I.o⟩
variable {w:M}{c a:Int}{ad:Nat ->xr}
def Dm (w:M)(E:Vl)(c a:Int):=(E=.n/\c=0/\a= -1)\/∃ad,Errs9 w ad/\∃k:Nat,k<9/\c=(k:Int)+1/\
 ((E=.f 255 (.p (A (ad k)))/\a= -1)\/∃G,E=.f 119 (.pp G 0)/\w.cell? (C G 0)=A (.q a)/\w.cell? (C G 1)=A (.f 255 (.p (A (ad k)))))
def Dm.d{w':M}{G}(h:Dm w G c a)(E:zW w w'):Dm w' G c a:=by
 obtain h|⟨a,O,k,I,U,h|⟨c,Y,V,Z⟩⟩:=h
 exact .inl h
 exact .inr ⟨a,O.d E,k,I,U,.inl h⟩
 exact .inr ⟨a,O.d E,k,I,U,.inr ⟨c,Y,jf E V,jf E Z⟩⟩
def SC (E:Errs9 w ad) k(G:k<9):Dm w (.f 255 (.p (A (ad k)))) (k+1) (-1):=.inr ⟨ad,E,k,G,J,.inl ⟨J,J⟩⟩
def FZ (I:Errs9 w ad) k(G:k<9) n E(U:w.cell? (C E 0)=A (.q n))(O:w.cell? (C E 1)=A (.f 255 (.p (A (ad k))))):Dm w (.f 119 (.pp E 0)) (k+1) n:=.inr ⟨ad,I,k,G,J,.inr ⟨E,J,U,O⟩⟩
def Dm.told (I:FV w ad){G}(h:Dm w G c a):qW 30 #[G] w (.t #[.q c,.q a]):=by
 obtain⟨rfl,rfl,rfl⟩|⟨Z,U,k,E,rfl,⟨rfl,rfl⟩|⟨Y,rfl,V,O⟩⟩:=h
 exact(vM w).mono λ_ _ h=>⟨h.1,h.2▸br⟩
 rw[U.D I.toErrs9 k E];exact sS ad k E w I
 rw[U.D I.toErrs9 k E]at O;exact kT ad k E a Y w I V O
structure Bo (w:M)(E:Vl)(c p:Int):Prop where
 code:Dm w E c p
 a:c=0->E=.n
 b:c≠0->∃ty v,E=.f ty v
def Oy w:Bo w .n 0 (-1):=⟨(.inl ⟨J,J,J⟩),λ_=>J,λh=>absurd J h⟩
def CJ (E:Errs9 w ad) k(G:k<9):Bo w (.f 255 (.p (A (ad k)))) (k+1) (-1):=⟨SC E k G,λh=>N,λ_=>⟨_,_,J⟩⟩
end Go.Proofs.YtaoikkhlnhfkfaaGreatDoor
