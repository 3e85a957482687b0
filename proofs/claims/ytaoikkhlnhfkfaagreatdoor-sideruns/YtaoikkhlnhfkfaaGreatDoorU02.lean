import Derived.Test.YtaoikkhlnhfkfaaGreatDoorU00
import Derived.Test.YtaoikkhlnhfkfaaGreatDoorU01
set_option maxHeartbeats 400000
set_option linter.defProp false
set_option linter.unusedSimpArgs false
set_option linter.unusedVariables false
namespace Go.Proofs.YtaoikkhlnhfkfaaGreatDoor
open Go renaming Calls->s8,results->uK,maxLen->s7
open Proofs.Tryz renaming prog->sr,results24->AS
open Bool renaming true->sy,false->ss
open Option renaming none->sA,some->A
open List renaming range'->Hc,range'_succ->I2,length_range'->B1
open Go.RowKit
def bV U code G w(h:Dm w U code G){ad}(V:FV w ad):s8 sr 12 #[U,.agg #[.int .i64 code,.int .i64 G]] w λe w'=>e=.r (.bool sy)/\zW w w':=by
 let I:zW w (w.alloc (.c #[.int .i64 code,.int .i64 G] 39)):=ba;have Y:=(show Hid (qW 30 #[U] (w.alloc (.c #[.int .i64 code,.int .i64 G] 39)) (.t #[.int .i64 code,.int .i64 G]))from(h.d I).told (V.d I))
 clear h I V;by_cases Z:code=0
 .
  subst Z;go_in
  go_wp21;apply Y.o.mono
  rintro e I⟨rfl,E⟩;have O:=Io (ba.trans (E.mono sm));have X:I.cell? ⟨w.heap.size,0,sA⟩=A (.int .i64 0):=jf E sm;clear E;go_wp2
  go_ret;exact⟨J,O.o⟩
 let E:(code==0)=false:=sx Z
 go_in
 go_wp21;apply Y.o.mono
 rintro e I⟨rfl,E⟩;have O:=Io (ba.trans (E.mono sm));have X:I.cell? ⟨w.heap.size,0,sA⟩=A (.int .i64 code):=jf E sm;have X:I.cell? ⟨w.heap.size,1,sA⟩=A (.int .i64 G):=jf E sm;clear E;go_wp2
 go_ret;exact⟨J,O.o⟩
def ZX G Y U V n ac Z(f:Nat->Int)(w:M)(al:n<=9223372036854775807)(O:∀i,i<n->w.cell? (C G (Y+i))=A (.q (f i)))(I:∀i,i<n->w.cell? (C U (V+i))=A (.q (f i))):s8 sr 15 #[.sl G Y n ac,.sl U V n Z] w λe w'=>e=.r (.bool sy)/\zW w w':=by
 have W:=Io O;have X:=Io I;clear O I;go_in
 go_wp2
 go_loopw[5] (λi E=>∃k:Nat,k<=n/\i=.q k/\∃q,E=w.drewN q)(λi _=>n-(intOf i).toNat)
 case atStart=>exact⟨0,uD _,J,0,J⟩
 case round=>
  obtain⟨k,q,rfl,q,rfl⟩:=hrel;by_cases E:k<n
  .
   let q:=W.o k E;let q:=X.o k E;go_wp2
   go_quiet (fail);go_wp2
   go_roundw
   case rel=>exact⟨k+1,N,nd,_,J⟩
   case measure=>simp[intOf];omega
  go_wp2
  go_ret;exact⟨J,ì br _⟩
def Cf n(w:M):s8 sr 22 #[.q n] w λe w'=>e=.r (.agg #[.q n,.q (-1)])/\zW w w':=by
 go_in
 go_wp2
 exact Ę (v:=.agg #[.q n,.q (-1)]) (by simp[uK,Tryz.results22,go_sem]) J ⟨J,ba⟩
def Jw (w:M):s8 sr 23 #[] w λe w'=>e=.r (.agg #[.q 0,.q (-1)])/\zW w w':=by
 go_in
 go_wp2
 exact Ę (v:=.agg #[.q 0,.q (-1)]) (by simp[uK,Tryz.results23,go_sem]) J ⟨J,ba⟩
structure Š (w w1:M)(x y:Vl):Prop where
 e:w1.cell? (C w.heap.size 0)=A x
 a:w1.cell? (C w.heap.size 1)=A y
 f0:w1.frozen? (C w.heap.size 0)=ss
 f1:w1.frozen? (C w.heap.size 1)=ss
def EE w(x y:Vl)(t:tI):Š w (w.alloc (.c #[x,y] t)) x y:=⟨sm,sm,sm,sm⟩
def Š.later{w w1 w2:M}{x y}(h:Š w w1 x y)(E:zW w1 w2):Š w w2 x y:=
 let l:=BZ h.e
 ⟨jf E h.e,jf E h.a,E.frozen (p:=(C w.z 0)) l▸h.f0,E.frozen (p:=(C w.z 1)) l▸h.f1⟩
def jY t(l:lI):∀m,GI t m l<=m/\∀p,p∈l->GI t m l<=EB t p.1 p.2:=by
 induction l with
 |nil=>intro m;exact⟨Ā _,nofun⟩
 |cons q r G=>
  intro m;have:=G (min m (EB t q.1 q.2));refine⟨?_,λp E=>?_⟩
  .
   show GI t _ r<=m
   omega
  show GI t _ r<=_
  obtain rfl|E:=sV.1 E
  omega
  exact this.2 p E
def iJ t(l:lI):∀m,GI t m l=m\/∃p,p∈l/\GI t m l=EB t p.1 p.2:=by
 induction l with
 |nil=>intro m;exact .inl J
 |cons q r G=>
  intro m;show GI t (min m (EB t ..)) r=m\/∃p,p∈q::r/\GI t (min m _) r=EB t ..
  obtain h|⟨p,E,h⟩:=G (min m (EB t q.1 q.2))
  .
   by_cases I:m<=EB t q.1 q.2
   exact .inl N
   exact .inr ⟨q,ï ..,N⟩
  exact .inr ⟨p,Ĥ _ E,h⟩
def PZ t(ls:lI) p(E:p∈ls):DX t ls<=EB t p.1 p.2:=by
 cases ls with
 |nil=>cases E
 |cons q r=>
  have:=jY t r (EB t q.1 q.2);obtain rfl|E:=sV.1 E
  exact this.1
  exact this.2 p E
def kV t(ls:lI)(h:1<=ls.length):∃p,p∈ls/\DX t ls=EB t p.1 p.2:=by
 cases ls with
 |nil=>simp at h
 |cons q r=>
  obtain h|⟨p,E,h⟩:=iJ t r _
  exact⟨q,ï ..,h⟩
  exact⟨p,Ĥ _ E,h⟩
def DT (ls:lI)(c a:Int):=
 ((ls.length<1\/6<ls.length)/\c=3/\a= -1)\/
 (1<=ls.length/\ls.length<=6/\∃j:Nat,j<ls.length/\(∀i x y,i<j->ls[i]? = A (x,y)->Dp x y=sy)/\(∀x y,ls[j]? = A (x,y)->Dp x y=ss)/\c=2/\a=j)\/
 (Bq ls/\c=0/\a= -1)
def n8 ls:∃c a,DT ls c a:=by
 by_cases O:ls.length<1\/6<ls.length
 exact⟨3,-1,.inl ⟨O,J,J⟩⟩
 obtain h|⟨j,G,E,I⟩:=ut ls
 exact⟨0,-1,.inr (.inr ⟨⟨N,N,h⟩,J,J⟩)⟩
 exact⟨2,j,.inr (.inl ⟨N,N,j,G,E,I,J,J⟩)⟩
def DT.y{ls a}(h:DT ls 0 a):Bq ls/\a= -1:=by
 obtain⟨_,h,_⟩|⟨_,_,_,_,_,_,h,_⟩|⟨h,_,E⟩:=h
 omega
 omega
 exact⟨h,E⟩
def DT.d{ls c a}(h:DT ls c a):c=0\/c=2\/c=3:=by
 obtain⟨_,h,_⟩|⟨_,_,_,_,_,_,h,_⟩|⟨_,h,_⟩:=h<;>omega
def RB (a:oA) n cap(w:M)(V:n<=s7)(h:n<1\/6<n):s8 sr 24 #[.s a n cap] w λe w'=>e=.r (.agg #[.q 3,.q (-1)])/\zW w w':=by
 unfold s7 at V;let G:zW w (w.alloc (.c #[.q 0,.q 0] 39)):=ba;obtain h|h:=h
 .
  obtain rfl:n=0:=N;go_in
  go_wp21;apply(Cf 3 _).mono
  rintro e X⟨rfl,E⟩;let⟨U,O,Y,Z⟩:=(EE w ..).later E;have I:=Io (G.tr E);clear E G;go_wp21;exact Ę (v:=.agg #[.q 3,.q (-1)]) (by simp[uK,AS,go_sem,U,O]) J ⟨J,(I.o.setCell lr _).setCell lr _⟩
 let E:¬n<1:=N;go_in
 go_wp21;apply(Cf 3 _).mono
 rintro e X⟨rfl,E⟩;let⟨U,O,Y,Z⟩:=(EE w ..).later E;have I:=Io (G.tr E);clear E G;go_wp21;exact Ę (v:=.agg #[.q 3,.q (-1)]) (by simp[uK,AS,go_sem,U,O]) J ⟨J,(I.o.setCell lr _).setCell lr _⟩
def Wn (a:oA) cap(ls:lI)(w:M)(aa:Cr w a ls)(h:Bq ls):s8 sr 24 #[.s a ls.length cap] w λe w'=>e=.r (.agg #[.q 0,.q (-1)])/\zW w w':=by
 let⟨i,ax,Y⟩:=h;obtain⟨b,off,rfl,Z,G⟩:=aa.some i;clear aa;generalize ab:ls.length=n at*;have ao:=(show Hid (ls.length=n)from ab)
 let V:zW w (w.alloc (.c #[.q 0,.q 0] 39)):=ba;clear ab;go_in
 go_wp21;go_loopw[3] (λi wr=>∃k:Nat,k<=n/\i=.q k/\zW w wr/\Š w wr (.q 0) (.q 0))(λi _=>n-(intOf i).toNat)
 case atStart=>exact⟨0,uD _,J,V,EE w ..⟩
 case round=>
  obtain⟨k,ap,rfl,E,I⟩:=hrel;have O:=Io E;have ac:=Io I;by_cases T:k<n
  .
   let⟨⟨x,y⟩,U,ai⟩:=Ao ls k (ao.o▸T);have aB:wr.cell? (C b (off+k*2))=A (.q x):=E.cell (p:=(C b (off+k*2))) Z▸(G k x y U).1
   have aw:wr.cell? (C b (off+k*2+1))=A (.q y):=E.cell (p:=(C b (off+k*2+1))) Z▸(G k x y U).2
   have b:=(show Hid (Dp x y=sy)from Y _ ai)
   clear G Y U ai E I V;go_wp2_with (go_at_call 44;apply(O4 x y _ b.o).mono;rintro e w'⟨rfl,rfl⟩)
   go_roundw
   case rel=>exact⟨k+1,N,nd,O.o.alloc O.o.size _,ac.o.later ba⟩
   case measure=>simp[intOf];omega
  clear G Y E I V;go_wp21;apply(Jw _).mono
  rintro e w1⟨rfl,E⟩;let⟨G,b,av,aq⟩:=ac.o.later E;have an:=Io (O.o.tr E);clear E;go_wp21;exact Ę (v:=.agg #[.q 0,.q (-1)]) (by simp[uK,AS,go_sem,G,b]) J ⟨J,(an.o.setCell lr _).setCell lr _⟩
def Uc (a:oA) cap(ls:lI)(w:M)(ac:Cr w a ls)(ao:1<=ls.length)(aE:ls.length<=6) j(aG:j<ls.length)(aa:∀i x y,i<j->ls[i]? = A (x,y)->Dp x y=sy)(Z:∀x y,ls[j]? = A (x,y)->Dp x y=ss):
  Calls sr 24 #[.s a ls.length cap] w λe w'=>e=.r (.agg #[.q 2,.q j])/\zW w w':=by
 obtain⟨b,off,rfl,ab,I⟩:=ac.some ao;clear ac;generalize aj:ls.length=n at*;have S:=(show Hid (ls.length=n)from aj)
 let Y:zW w (w.alloc (.c #[.q 0,.q 0] 39)):=ba;clear aj;go_in
 go_wp21;go_loopw[3] (λi wr=>∃k:Nat,k<=j/\i=.q k/\zW w wr/\Š w wr (.q 0) (.q 0))(λi _=>n-(intOf i).toNat)
 case atStart=>exact⟨0,uD _,J,Y,EE w ..⟩
 case round=>
  obtain⟨k,E,rfl,E,O⟩:=hrel;have U:=Io E;have al:=Io O;have am:k<n:=N;let⟨⟨x,y⟩,G,ak⟩:=Ao ls k (S.o▸am);have S:wr.cell? (C b (off+k*2))=A (.q x):=E.cell (p:=(C b (off+k*2))) ab▸(I k x y G).1
  have S:wr.cell? (C b (off+k*2+1))=A (.q y):=E.cell (p:=(C b (off+k*2+1))) ab▸(I k x y G).2
  by_cases ap:k<j
  .
   have V:=(show Hid (Dp x y=sy)from aa k x y ap G)
   clear I aa G ak E O Y Z;go_wp2_with (go_at_call 44;apply(O4 x y _ V.o).mono;rintro e w'⟨rfl,rfl⟩)
   go_roundw
   case rel=>exact⟨k+1,N,nd,U.o.alloc U.o.size _,al.o.later ba⟩
   case measure=>simp[intOf];omega
  obtain rfl:k=j:=N;have V:=(show Hid (Dp x y=ss)from Z x y G)
  clear I aa G ak E O Y Z;go_wp21;apply(aA x y _ V.o).mono
  rintro e n⟨rfl,ai⟩;let E:zW wr n:=ai▸ba
  obtain⟨I,p,n,n⟩:=al.o.later E;have n:=Io (U.o.tr E);clear E ai;go_wp21;exact Ę (v:=.agg #[.q 2,.q k]) (by simp[uK,AS,go_sem,I,p]) J ⟨J,(n.o.setCell lr _).setCell lr _⟩
def Wo (a:oA) cap(ls:lI)(w:M)(E:Cr w a ls)(Z:ls.length<=cap)(G:cap<=s7) c p(h:DT ls c p):qW 24 #[.s a ls.length cap] w (.agg #[.q c,.q p]):=by
 obtain⟨h,rfl,rfl⟩|⟨V,I,j,O,U,Y,rfl,rfl⟩|⟨h,rfl,rfl⟩:=h
 exact RB a ls.length cap w (rX Z G) h
 exact Uc a cap ls w E V I j O U Y
 exact Wn a cap ls w E h
variable {last t n:Int}
structure Bk where
 h:Int
 d:Int
 j:Int
 last:Int
structure Bk.r (b:Bk):Prop where
 m0:1000<=b.h
 m1:b.h<=20000000
 r0:0<=b.d
 r1:b.d<=100000
 h0:0<=b.j
 h1:b.j<=b.h
 l0:0<=b.last
 l1:b.last<=1099511627776
def Bk.e (b:Bk)(t:Int):=min b.h (b.j+b.d*(t-b.last))
def Bk.g (b:Bk)(t n:Int):Bk:=if n*1000<=b.e t then⟨b.h,b.d,b.e t-n*1000,t⟩else⟨b.h,b.d,b.e t,t⟩
def Bk.i (b:Bk)(t n:Int):=
 if n*1000<=b.e t then A t
 else if b.h<n*1000\/b.d=0 then sA
 else if 1099511627776-t<(n*1000-b.e t+b.d-1)/b.d then sA
 else A (t+(n*1000-b.e t+b.d-1)/b.d)
def F6 (last t:Int):=if 0<=t/\t<=1099511627776 then(if t<last then 5 else 0)else 2
def EC (last t n:Int):=if 1<=n/\n<=1500 then F6 last t else 2
def jH:F6 last t=0↔0<=t/\t<=1099511627776/\last<=t:=by unfold F6;split<;>(try split)<;>simp<;>omega
def Hu:EC last t n=0↔1<=n/\n<=1500/\0<=t/\t<=1099511627776/\last<=t:=by unfold EC;split<;>simp[jH]<;>omega
def Js (p:Int×Int):Bk:=⟨p.1*1000,p.2,p.1*1000,0⟩
def Hq (r a b c:Int):r*(a-c)=r*(b-c)+r*(a-b):=by
 simp[m3];omega
def Bk.r.grow{b:Bk}(h:b.r)(E:b.last<=t)(G:t<=1099511627776):0<=b.d*(t-b.last)/\b.d*(t-b.last)<=109951162777600000:=
 vC h.r0 h.r1 N (oe h.l0)
def Bk.r.lev_bd{b:Bk}(h:b.r)(E:b.last<=t):0<=b.e t/\b.e t<=b.h:=by
 have:=Ŗ h.r0 (show 0<=t-b.last by omega);have:=h.h0;have:=h.h1;have:=h.m0;unfold Bk.e;omega
def Bk.b{b:Bk}(h:0<=b.d){s}(E:s<=t):b.e s<=b.e t:=by
 have:=Hq b.d t s b.last;have:=Ŗ h (show 0<=t-s by omega);unfold Bk.e;omega
def Bk.r.take{b:Bk}(h:b.r)(E:b.last<=t)(I:t<=1099511627776)(G:0<=n):(b.g t n).r:=by
 have:=h.lev_bd E;have:=h.l0;unfold Bk.g;split<;>exact⟨h.m0,h.m1,h.r0,h.r1,so,so,so,so⟩
def Bk.m (b:Bk) t n:(b.g t n).last=t:=by unfold Bk.g;split<;>rfl
def Zu{r x:Int}(E:0<r):x<=r*((x+r-1)/r)/\r*((x+r-1)/r)<x+r:=by
 let G:=mc (x+r-1) r;let I:=Int.emod_nonneg (x+r-1) (show r≠0 by omega);let O:=Int.emod_lt_of_pos (x+r-1) E;omega
def Bk.a{b:Bk}(h:b.r){T}(O:t<=1099511627776)(e:b.i t n=A T):t<=T/\T<=1099511627776/\n*1000<=b.e T/\∀s,t<=s->s<T->b.e s<n*1000:=by
 unfold Bk.i at e;split at e
 .
  rename_i U
  cases e
  exact⟨Ā _,O,U,λs E G=>N⟩
 rename_i U
 split at e
 cases e
 rename_i E
 split at e
 cases e
 rename_i G
 let V:0<b.d:=oe h.r0
 have I:=Zu (r:=b.d) (x:=n*1000-b.e t) V;let Z:=λh=>E (.inl h)
 generalize aa:(n*1000-b.e t+b.d-1)/b.d=k at e G I;cases e
 let ai:0<k:=by
  by_cases Y:0<k
  exact Y
  have:=kh (show k<=0 by omega) h.r0;simp at this;omega
 let ac:b.e t=b.j+b.d*(t-b.last):=by unfold Bk.e at U⊢;omega
 let U:=Hq b.d (t+k) t b.last;rw[show t+k-t=k by omega]at U;refine⟨N,N,?_,λs aj am=>?_⟩
 unfold Bk.e;omega
 let r:=Hq b.d s t b.last;let r:b.d*(s-t)<=b.d*(k-1):=kh N h.r0;let r:b.d*(k-1)=b.d*k-b.d:=oy m3
 unfold Bk.e;omega
def Bk.l{b:Bk}(h:b.r)(e:b.i t n=sA):∀s,t<=s->s<=1099511627776->b.e s<n*1000:=by
 intro s k k;unfold Bk.i at e;split at e
 cases e
 rename_i U
 split at e
 .
  rename_i E
  obtain E|E:=E
  unfold Bk.e;omega
  have:=h.h1;unfold Bk.e at U⊢;rw[E]at U⊢;omega
 rename_i E
 split at e
 .
  rename_i Y
  let I:0<b.d:=oe h.r0
  have G:=Zu (r:=b.d) (x:=n*1000-b.e t) I;let O:=λh=>E (.inl h)
  generalize V:(n*1000-b.e t+b.d-1)/b.d=k at e Y G;let Y:b.e t=b.j+b.d*(t-b.last):=by unfold Bk.e at U⊢;omega
  let Z:=Hq b.d s t b.last;let U:b.d*(s-t)<=b.d*(k-1):=kh N h.r0;let r:b.d*(k-1)=b.d*k-b.d:=oy m3
  unfold Bk.e;omega
 cases e
structure Pk where
 b:Int
 h:Int
 a:Int
def Lm (p:Pk):=decide (0<=p.b/\p.b<8/\1<=p.h/\p.h<=1500/\0<=p.a/\p.a<=1099511627776)
def Bw{p}(h:Lm p=sy):=Θ h
def Ò (ps:List Pk):Nat->Int
 |0=>0
 |i+1=>match ps[i]? with|some p=>p.a|none=>0
structure Ar (ps:List Pk):Prop where
 j:ps.length<=300
 d:∀i p,ps[i]? = A p->Lm p=sy/\Ò ps i<=p.a
def Ku:Ar []:=⟨sm,λi p h=>oF h⟩
def ç:List Pk->Int
 |[]=>0
 |p::r=>p.h+ç r
def qk ps p:ç (ps++[p])=ç ps+p.h:=by
 induction ps with
 |nil=>simp[ç]
 |cons q r E=>simp[ç];omega
def ľ:List Pk->lI
 |[]=>[]
 |p::r=>(p.a,ç (p::r))::ľ r
def XN ps p a s:(a,s)∈ľ (ps++[p])↔(a,s-p.h)∈ľ ps\/(a=p.a/\s=p.h):=by
 induction ps with
 |nil=>simp[ľ,ç]
 |cons q r h=>
  show(a,s)∈(q.a,ç (q::(r++[p])))::ľ (r++[p])↔(a,s-p.h)∈(q.a,ç (q::r))::ľ r\/_
  let Z:ç (q::(r++[p]))=ç (q::r)+p.h:=qk (q::r) p;simp[sV,ž,Z,h];constructor
  .
   rintro(⟨q,r⟩|h|h)
   exact .inl (.inl ⟨q,N⟩)
   exact .inl (.inr h)
   exact .inr h
  rintro((⟨q,r⟩|h)|h)
  exact .inl ⟨q,N⟩
  exact .inr (.inl h)
  exact .inr (.inr h)
def Gt (ls:lI)(ps:List Pk)(p:Pk):=∀a s,(a,s)∈ľ (ps++[p])->s<=DX (p.a-a) ls
def PS (ls:lI)(a c:Int):List Pk->Bool
 |[]=>sy
 |p::r=>decide (c+p.h<=DX (p.a-a) ls)&&PS ls a (c+p.h) r
def UA (ls:lI):List Pk->Bool
 |[]=>sy
 |p::r=>PS ls p.a 0 (p::r)&&UA ls r
def gX ls a ps p:∀c,PS ls a c (ps++[p])=sy↔PS ls a c ps=sy/\c+ç (ps++[p])<=DX (p.a-a) ls:=by
 induction ps with
 |nil=>simp[PS,ç]
 |cons q r E=>
  intro c;have G:ç (q::r++[p])=q.h+ç _:=rfl;simp[PS,E]at*
  rw[G,Int.add_assoc,and_assoc]
def jJ ls ps p:UA ls (ps++[p])=sy↔UA ls ps=sy/\Gt ls ps p:=by
 induction ps with
 |nil=>simp[UA,PS,Gt,ľ,ç]
 |cons q r O=>
  let G:=gX ls q.a (q::r) p 0;simp only[ς]at G;simp only[ς,UA,Ŝ,G,O];let U:Gt ls (q::r) p↔0+ç (q::(r++[p]))<=DX (p.a-q.a) ls/\Gt ls r p:=by
   show(∀a s,(a,s)∈(q.a,ç (q::(r++[p])))::ľ (r++[p])->_)↔_
   simp[sV,ž,Int.zero_add];constructor
   intro h;exact⟨h _ _ (.inl ⟨J,J⟩),λa s E=>h a s (.inr E)⟩
   rintro⟨h,I⟩a s (⟨rfl,rfl⟩|E)
   exact h
   exact I a s E
  rw[U];exact⟨λ⟨⟨a,b⟩,c,d⟩=>⟨⟨a,c⟩,b,d⟩,λ⟨⟨a,c⟩,b,d⟩=>⟨⟨a,b⟩,c,d⟩⟩
def kz t s(ls:lI)(h:1<=ls.length):s<=DX t ls↔∀p,p∈ls->s<=EB t p.1 p.2:=by
 constructor
 intro G p E;have:=PZ t ls p E;omega
 intro G;let⟨p,E,e⟩:=kV t ls h;rw[e];exact G p E
def V9 ls(h:1<=ls.length) ps p:Gt ls ps p↔∀q,q∈ls->Gt [q] ps p:=by
 simp only[Gt,kz _ _ ls h];exact⟨λH q G a s E=>H a s E q G,λH a s E q G=>H q G a s E⟩
structure Ĝ (q:Int×Int)(ps:List Pk)(b:Bk):Prop where
 h:b.h=q.1*1000
 d:b.d=q.2
 e:∀t v,b.last<=t->(v<=b.e t↔v<=q.1*1000/\∀a s,(a,s)∈ľ ps->v+s*1000<=q.1*1000+q.2*(t-a))
def Ĝ.l{q ps b}(h:Ĝ q ps b) p(G:b.last<=p.a):p.h*1000<=b.e p.a↔Gt [q] ps p:=by
 rw[h.e _ _ G];let I:∀t s,s<=DX t [q]↔s*1000<=q.1*1000+q.2*t:=λt s=>by simp[DX,GI,EB];omega
 simp[Gt,I,XN];constructor
 .
  rintro⟨U,O⟩a s (E|⟨rfl,rfl⟩)
  have:=O a _ E;omega
  simp;omega
 intro H;refine⟨by have:=H p.a p.h (.inr ⟨J,J⟩);simp at this;omega,λa s E=>?_⟩;have:=H a (s+p.h) (.inl (sx E));omega
def Ĝ.g{q ps b}(h:Ĝ q ps b)(Y:0<=b.d) p(ab:b.last<=p.a)(ac:p.h*1000<=b.e p.a):Ĝ q (ps++[p]) (b.g p.a p.h):=by
 let e:b.g p.a p.h=⟨b.h,b.d,b.e p.a-p.h*1000,p.a⟩:=by unfold Bk.g;rw[Æ ac]
 refine⟨e▸h.h,e▸h.d,λs v O=>?_⟩;rw[e]at O⊢;simp only at O;let a:=Ŗ Y (show 0<=s-p.a by omega);let V:=h.e p.a (v+p.h*1000-b.d*(s-p.a)) ab;let U:=h.h;let Z:=h.d;let key:v<=(Bk.mk b.h b.d (b.e p.a-p.h*1000) p.a).e s↔v<=b.h/\v+p.h*1000-b.d*(s-p.a)<=b.e p.a:=by simp[Bk.e];omega
 rw[key,V,U,Z];simp only[XN];constructor
 .
  rintro⟨I,G,e⟩;refine⟨I,λa z E=>?_⟩;obtain E|⟨rfl,rfl⟩:=E
  have:=e a _ E;have:=Hq q.2 s p.a a;omega
  omega
 rintro⟨I,G⟩;refine⟨I,?_,λa z E=>?_⟩
 have:=G p.a p.h (.inr ⟨J,J⟩);omega
 have:=G a (z+p.h) (.inl (sx E));have:=Hq q.2 s p.a a;omega
structure Sn where
 d:Int
 b:Int
 a:Int
structure Ě (σ:Type) where
 e:σ->Nat->σ
 pick:σ->Nat
 h:σ->σ
 rest:σ->Nat
 m:σ->σ:=λq=>q
structure St (σ:Type) where
 p:List Sn
 d:Int
 e:Nat
 q:σ
structure lA{σ:Type}(Q:Ě σ)(per:Int)(ps:List Pk)(q0:σ)(sd:St σ->Prop):Prop where
 c:sd ⟨[],0,0,q0⟩
 e:∀s p,sd s->ps[s.e]? = A p->p.a<=s.d->sd ⟨s.p,s.d,s.e+1,Q.e s.q s.e⟩
 v:∀s p,sd s->(∀r,ps[s.e]? = A r->s.d<r.a)->0<Q.rest s.q->ps[Q.pick s.q]? = A p->sd ⟨s.p++[⟨Q.pick s.q,s.d,s.d+per*p.h⟩],s.d+per*p.h,s.e,Q.h s.q⟩
 m:∀s p,sd s->ps[s.e]? = A p->s.d<p.a->Q.rest s.q=0->sd ⟨s.p,p.a,s.e,Q.m s.q⟩
def Â{E}(Q:Ě E)(per:Int)(ps:List Pk)(G:E)(s:St E):=∀sd:St E->Prop,lA Q per ps G sd->sd s
section
variable {σ:Type}{Q:Ě σ}{per:Int}{ps:List Pk}{q0:σ}
def Â.c:Â Q per ps q0 ⟨[],0,0,q0⟩:=λ_ h=>h.c
def Â.e s p(E:Â Q per ps q0 s)(I:ps[s.e]? = A p)(G:p.a<=s.d):Â Q per ps q0 ⟨s.p,s.d,s.e+1,Q.e s.q s.e⟩:=
 λsd h=>h.e s p (E sd h) I G
def Â.v s p(E:Â Q per ps q0 s)(O:∀r,ps[s.e]? = A r->s.d<r.a)(G:0<Q.rest s.q)(I:ps[Q.pick s.q]? = A p):Â Q per ps q0 ⟨s.p++[⟨Q.pick s.q,s.d,s.d+per*p.h⟩],s.d+per*p.h,s.e,Q.h s.q⟩:=
 λsd h=>h.v s p (E sd h) O G I
def Â.m s p(E:Â Q per ps q0 s)(O:ps[s.e]? = A p)(G:s.d<p.a)(I:Q.rest s.q=0):Â Q per ps q0 ⟨s.p,p.a,s.e,Q.m s.q⟩:=
 λsd h=>h.m s p (E sd h) O G I
def Â.d{sd:St σ->Prop}{s}(h:Â Q per ps q0 s)(O:sd ⟨[],0,0,q0⟩)
  (I:∀s p,Â Q per ps q0 s->ps[s.e]? = A p->p.a<=s.d->sd s->sd ⟨s.p,s.d,s.e+1,Q.e s.q s.e⟩)
  (G:∀s p,Â Q per ps q0 s->(∀r,ps[s.e]? = A r->s.d<r.a)->0<Q.rest s.q->ps[Q.pick s.q]? = A p->sd s->sd ⟨s.p++[⟨Q.pick s.q,s.d,s.d+per*p.h⟩],s.d+per*p.h,s.e,Q.h s.q⟩)
  (U:∀s p,Â Q per ps q0 s->ps[s.e]? = A p->s.d<p.a->Q.rest s.q=0->sd s->sd ⟨s.p,p.a,s.e,Q.m s.q⟩):=
 (h (λs=>Â Q _ ps q0 s/\sd s) ⟨⟨.c,O⟩,λs p E a b=>⟨.e s p E.1 a b,I s p E.1 a b E.2⟩,λs p E a b c=>⟨.v s p E.1 a b c,G s p E.1 a b c E.2⟩,λs p E a b c=>⟨.m s p E.1 a b c,U s p E.1 a b c E.2⟩⟩).2
end
structure MK{σ:Type}(Q:Ě σ)(per:Int)(ps:List Pk)(q0:σ):Prop where
 none:Q.rest q0=0
 e:∀s,Â Q per ps q0 s->s.e<ps.length->Q.rest (Q.e s.q s.e)=Q.rest s.q+1
 h:∀s,Â Q per ps q0 s->0<Q.rest s.q->Q.rest (Q.h s.q)+1=Q.rest s.q
 pick:∀s,Â Q per ps q0 s->0<Q.rest s.q->Q.pick s.q<s.e
 m:∀s,Â Q per ps q0 s->Q.rest s.q=0->Q.rest (Q.m s.q)=0
def Ě.a{E}(Q:Ě E)(q:E):=if Q.rest q=0 then Q.m q else q
def Px{E}(Q:Ě E)(h:∀q,Q.m q=q) q:Q.a q=q:=by
 unfold Ě.a;simp_all
def Ap{α:Type}{l:List α}{k x}(h:l[k]? = A x):k<l.length:=by
 obtain E|E:=nR k _
 exact E
 simp[ą E]at h
section
variable {σ:Type}{Q:Ě σ}{per:Int}{ps:List Pk}{q0:σ}{s:St σ}
def Â.a (h:Â Q per ps q0 s):s.e<=ps.length:=by
 refine h.d (sd:=λs=>s.e<=ps.length) (uD _) ?_ ?_ ?_
 intro s p _ E _ _;exact Ap E
 simp_all
 simp_all
def Â.b (G:MK Q per ps q0)(h:Â Q per ps q0 s):s.p.length+Q.rest s.q=s.e:=by
 refine h.d (sd:=λs=>s.p.length+Q.rest s.q=s.e) (oy G.none) ?_ ?_ ?_
 intro s p E U _ O;have:=G.e s E (Ap U);simp only;omega
 .
  intro s p E _ I _ O;have:=G.h s E I;simp
  omega
 intro s p E _ _ I O;have:=G.m s E I;simp only;omega
def Â.g (Z:1<=per/\per<=1000)(I:Ar ps)(h:Â Q per ps q0 s):0<=s.d/\s.d<=1099511627776+1500000*s.p.length:=by
 refine h.d (sd:=λs=>0<=s.d/\s.d<=1099511627776+1500000*s.p.length) ⟨Ā _,sm⟩ ?_ ?_ ?_
 intro s p _ _ _ G;exact G
 intro s p _ _ _ E G;obtain⟨-,-,U,O,-,-⟩:=Bw (I.d _ p E).1;let V:0<=per*p.h:=Ŗ N N;let Y:per*p.h<=1000*1500:=χ N O N N;simp[ý,Ċ];omega
 intro s p _ E _ _ G;obtain⟨-,-,-,-,U,O⟩:=Bw (I.d _ p E).1;simp only;omega
end
def Ay (ps:List Pk)(j:Nat):Int:=match ps[j]? with|some p=>p.a|none=>0
def į (ps:List Pk)(j:Nat):Int:=match ps[j]? with|some p=>p.h|none=>0
def AQ{ps j p}(h:ps[j]? = A p):Ay ps j=p.a:=by simp[Ay,h]
def K9{ps j p}(h:ps[j]? = A p):į ps j=p.h:=by simp[į,h]
def ji{ps}(I:Ar ps):∀(d i),i+d<ps.length->Ay ps i<=Ay ps (i+d):=by
 intro d;induction d with
 |zero=>simp_all
 |succ d O=>
  intro i h;let V:=O i N;let E:ps[i+d]? = A ps[i+d]:=ë _;let G:ps[i+d+1]? = A ps[i+d+1]:=ë _;let U:=(I.d _ _ G).2;simp[Ò,E]at U
  rw[AQ E]at V;rw[show i+(d+1)=i+d+1 by omega,AQ G];omega
def Fg{ps}(E:Ar ps){i k}(h:i<=k)(G:k<ps.length):Ay ps i<=Ay ps k:=by
 have:=ji E (k-i) i N;rwa[show i+(k-i)=k by omega]at this
variable {per:Int}{j k:Nat}
def Υ (per:Int)(ps:List Pk)
 |0=>0
 |j+1=>max (Υ per ps j) (Ay ps j)+per*į ps j
def kL (per:Int)(ps:List Pk)(j:Nat):Sn:=⟨j,max (Υ per ps j) (Ay ps j),Υ per ps (j+1)⟩
def Cs (per:Int)(ps:List Pk)(j:Nat):=(List.range j).map (kL per ps)
def NN per ps j:(Cs per ps j).length=j:=by simp[Cs]
def fJ{ps}(h:k<j):(Cs per ps j)[k]? = A (kL per ps k):=by simp[Cs,h]
def QV per ps j:Cs per ps (j+1)=Cs per ps j++[kL per ps j]:=by simp[Cs,lj]
def ZW{ps}(h:k<=j):(Cs per ps j).take k=Cs per ps k:=by
 rw[Cs,<-List.map_take,List.take_range,Nat.min_eq_left h];rfl
def LJ:Ě (lN):=⟨λq k=>q++[k],λq=>q.headD 0,λq=>q.tail,λq=>q.length,λq=>q⟩
structure mV (per:Int)(ps:List Pk)(s:St (lN))(j:Nat):Prop where
 t:j<=s.e
 q:s.q=Hc j (s.e-j)
 p:s.p=Cs per ps j
 e:∀i,i<s.e->Ay ps i<=s.d
 d:max s.d (Ay ps j)=max (Υ per ps j) (Ay ps j)
def UH{ps s}(ap:0<=per)(ao:Ar ps)(h:Â LJ per ps [] s):∃j,mV per ps s j:=by
 refine h.d (sd:=λs=>∃j,mV per ps s j) ⟨0,lr,J,J,λi h=>absurd h (İ _),J⟩ ?_ ?_ ?_
 .
  intro s p W G S V;let⟨j,X,E,O,I,Z⟩:=V;refine⟨j,by simp only;omega,?_,O,λi U=>?_,Z⟩
  simp[LJ,E];rw[show s.e+1-j=(s.e-j)+1 by omega,List.range'_concat,Nat.one_mul,show j+(s.e-j)=s.e by omega]
  simp only at U⊢;obtain h|h:=nR i s.e
  exact I i h
  obtain rfl:i=s.e:=N;rw[AQ G];exact S
 .
  intro s p W i Y G V;let⟨j,X,E,O,I,Z⟩:=V;let i:j<s.e:=by
   obtain h|h:=nR j s.e
   exact h
   rw[E,show s.e-j=0 by omega]at Y;simp[LJ]at Y
  let S:Hc j (s.e-j)=j::Hc (j+1) (s.e-(j+1)):=by
   rw[show s.e-j=(s.e-(j+1))+1 by omega,I2]
  let V:LJ.pick s.q=j:=E▸S▸rfl
  rw[V]at G;let T:=AQ G;let T:=K9 G;let sd:s.d=max (Υ per ps j) (Ay ps j):=by
   have:=I j i;omega
  let i:0<=per*p.h:=Ŗ ap (oe (Bw (ao.d _ p G).1));refine⟨j+1,by simp only;omega,?_,?_,λi U=>?_,?_⟩
  simp[LJ];rw[E,S];rfl
  simp[V];rw[QV,O];simp[kL,Υ,T,sd]
  have:=I i U;simp only;omega
  simp[Υ,T,sd]
 intro s p W G S Y V;let⟨j,X,E,O,I,Z⟩:=V;have p:j=s.e:=by
  let i:s.q.length=0:=Y;rw[E,B1]at i;omega
 subst p;let T:=AQ G;refine⟨s.e,lr,E,O,λi U=>?_,?_⟩
 have:=I i U;simp only;omega
 simp[T]at Z⊢;omega
def xJ{ps}(O:0<=per)(I:Ar ps):MK LJ per ps [] where
 none:=rfl
 e:=λs _ _=>by simp[LJ]
 h:=λs _ h=>by
  simp only[LJ]at h⊢;rw[List.length_tail];omega
 pick:=λs U h=>by
  obtain⟨j,V,E,-,-,-⟩:=UH O I U;let G:0<s.q.length:=h;rw[E,B1]at G;show s.q.headD 0<s.e
  rw[E,show s.e-j=(s.e-(j+1))+1 by omega,I2];simp
  omega
 m:=λ_ _ h=>h
def uQ{ps s}(U:0<=per)(G:Ar ps)(h:Â LJ per ps [] s)(Z:¬s.e<ps.length)(O:LJ.rest s.q=0):s.p=Cs per ps ps.length:=by
 obtain⟨j,Y,I,V,-,-⟩:=UH U G h;have:=h.a;let E:s.q.length=0:=O;rw[I,B1]at E;rw[V,show j=ps.length by omega]
variable {t per:Int}
def De (n:Nat)(out:List Sn)(i:Nat):=i<n/\∀x∈out,x.d≠(i:Int)
def EH (out:List Sn):=match out.getLast? with|some x=>x.a|none=>0
def JR out x:EH (out++[x])=x.a:=by simp[EH]
structure rW (ps:List Pk)(keys:lZ)(out:List Sn)(t:Int)(b:Nat):Prop where
 h:De ps.length out b
 e:Ay ps b<=t
 a:∀i,De ps.length out i->Ay ps i<=t->keys.getD b 0<keys.getD i 0\/(keys.getD b 0=keys.getD i 0/\b<=i)
def Ź (ps:List Pk)(out:List Sn)(t:Int):=
 (t=EH out/\∃i,De ps.length out i/\Ay ps i<=t)\/
 ((∀i,De ps.length out i->EH out<Ay ps i)/\∃i,De ps.length out i/\t=Ay ps i/\∀k,De ps.length out k->Ay ps i<=Ay ps k)
def Ź.u{ps out u}(h:Ź ps out t)(k:Ź ps out u):t=u:=by
 obtain⟨rfl,i,G,O⟩|⟨V,i,G,rfl,O⟩:=h
 .
  obtain⟨rfl,-⟩|⟨U,-⟩:=k
  rfl
  have:=U i G;omega
 obtain⟨rfl,j,E,I⟩|⟨-,j,E,rfl,I⟩:=k
 have:=V j E;omega
 have:=O j E;have:=I i G;omega
def rW.u{ps E out b c}(h:rW ps E out t b)(k:rW ps E out t c):b=c:=by
 let I:=h.a c k.h k.e;let G:=k.a b h.h h.e;omega
def UO (per:Int)(ps:List Pk)(E:lZ)(out:List Sn)(x:Sn):=∃t b,Ź ps out t/\rW ps E out t b/\x=⟨b,t,t+per*į ps b⟩
def UO.u{ps E out x y}(h:UO per ps E out x)(k:UO per ps E out y):x=y:=by
 obtain⟨t,b,U,O,rfl⟩:=h;obtain⟨u,c,G,I,rfl⟩:=k;obtain rfl:=U.u G;obtain rfl:=O.u I;rfl
def FD (per:Int)(ps:List Pk)(E:lZ)(out:List Sn):=∀k x,out[k]? = A x->UO per ps E (out.take k) x
def FD.nil per ps E:FD per ps E []:=λk x h=>oF h
def FD.b{ps G out x}(h:FD per ps G out)(U:UO per ps G out x):FD per ps G (out++[x]):=by
 intro k y E;let O:=Ap E;rw[ý,Ċ,Ġ]at O;obtain I|I:=nR k _
 rw[č I]at E;rw[lL N];exact h k y E
 obtain rfl:k=out.length:=N;simp_all
def FD.u{ps O a b}(h:FD per ps O a)(k:FD per ps O b)(V:a.length=b.length):a=b:=by
 let key:∀n,n<=a.length->a.take n=b.take n:=by
  intro n;induction n with
  |zero=>intro _;simp
  |succ n U=>
   intro Y;let e:=U N;let I:a[n]? = A a[n]:=ë _;let G:b[n]? = A (b[n]'N):=ë _;let E:=k n _ G;rw[<-e]at E;have:=(h n _ I).u E;rw[Δ,Δ,e,I,G,this]
 have:=key _ lr;rw[ln,V,ln]at this;exact this
def Hm{ps j i}:De ps.length (Cs per ps j) i↔i<ps.length/\j<=i:=by
 constructor
 .
  intro⟨E,G⟩;refine⟨E,?_⟩;obtain h|h:=nR i j
  cases G _ (Ő.2 ⟨i,ρ.2 h,rfl⟩) J
  exact h
 intro⟨E,G⟩;refine⟨E,λx O=>?_⟩;obtain⟨k,I,rfl⟩:=Ő.1 O;have:=ρ.1 I;simp[kL]
 omega
def Qv per ps:∀j,EH (Cs per ps j)=Υ per ps j
 |0=>J
 |j+1=>by rw[QV,JR];rfl
def Uu{ps}(U:Ar ps) V(O:∀i,V.getD i 0=0):FD per ps V (Cs per ps ps.length):=by
 intro k x I;let E:=Ap I;rw[NN]at E;rw[fJ E]at I;have I:=Ö I;subst I;rw[ZW N];refine⟨max (Υ per ps k) (Ay ps k),k,?_,⟨Hm.2 ⟨E,lr⟩,N,λi G _=>.inr ⟨by rw[O,O],(Hm.1 G).2⟩⟩,?_⟩
 .
  by_cases h:Ay ps k<=Υ per ps k
  exact .inl ⟨ot Qv,k,Hm.2 ⟨E,lr⟩,N⟩
  refine .inr ⟨λi G=>?_,k,Hm.2 ⟨E,lr⟩,N,λi G=>?_⟩
  rw[Qv];have:=Hm.1 G;have:=Fg U this.2 this.1;omega
  have:=Hm.1 G;exact Fg U this.2 this.1
 simp[kL,Υ]
end Go.Proofs.YtaoikkhlnhfkfaaGreatDoor
