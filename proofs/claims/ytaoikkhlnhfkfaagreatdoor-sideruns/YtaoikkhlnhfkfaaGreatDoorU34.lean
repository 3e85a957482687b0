import Derived.Test.YtaoikkhlnhfkfaaGreatDoorU00
import Derived.Test.YtaoikkhlnhfkfaaGreatDoorU33
import Derived.Test.YtaoikkhlnhfkfaaGreatDoorTie
import Derived.ProofKit
import Derived.OpenShut
import Derived.ShutString
import Derived.ChangeOld
import Derived.ChangeVars
import Derived.Deep.SlicePairs
import Derived.Lib.SmallJoins
import Derived.LaidMore
import Derived.LaidLaws
import Derived.LaidHandle
import Derived.Stop.LaidErr
import Derived.Stop.Joined
set_option maxHeartbeats 2000000
set_option maxRecDepth 100000
set_option linter.defProp false
set_option linter.unusedSimpArgs false
set_option linter.unusedVariables false
namespace Go.Proofs.YtaoikkhlnhfkfaaGreatDoor
open Bool renaming false->ss,true->sy
open Go renaming Func->zJ,Addr->xr,World->tz,Calls->s8,results->uK,Frame->vh,Value->xn
open Proofs.Tryz renaming f14->w8,prog->sr,func14->D1,f4->zj
open Option renaming some->A,none->sA
open World renaming cell?->sY,var?_cell->D2
open Code renaming wp_mono->tL
open List renaming range->tW
open Go.Conc Go.RowKit Go.Conc.Lib Go.ConcR.Gen
open Go.ConcR (KK WgAt stA smA rd wr mk)
def lT (E:oA)(n cap:Nat)(per wks:Int):Act:=⟨#[.s E n cap,.q per,.q wks,uu,uu,uu,uu,uu,uu,uu,uu,uu,uu,uu,uu,uu,uu,uu,uu,uu,uu,uu,uu],[]⟩
def Vt (G:oA)(n cap:Nat)(per wks:Int)(E:Nat):Act:=⟨#[.s G n cap,.q per,.q wks,.pp E 0,.pp (E+1) 0,uu,.sn,.n,uu,uu,uu,uu,uu,uu,uu,uu,uu,uu,uu,uu,uu,uu,uu],[]⟩
def ZT (E:oA)(n cap:Nat)(per wks:Int)(G:Nat):Act:=⟨#[.s E n cap,.q per,.q wks,.pp G 0,.pp (G+1) 0,uu,.sn,.n,.n,.s E n cap,.q n,.q wks,.n,.n,.bool ss,uu,uu,uu,uu,uu,uu,uu,uu],[]⟩
def uL (f:zJ):=A7 (È f)
def uC (f:zJ):=A7 (Ak (È f))
section
variable {la:Option xr}{n cap:Nat}{per wks:Int}
def q3 (v:M):(uL w8).wp sr (λe a v'=>e=.normal/\a=Vt la n cap per wks v.heap.size/\∃G E,v'=(v.alloc (.c #[.s la n cap] G)).alloc (.c #[.q per] E)) (lT la n cap per wks) v:=by
 simp only[uL,lT,Vt,È,A7,Ak,w8,é];go_wp2_with fail;exact⟨_,_,J⟩
def pZ I ad(v:M)(O:Errs9 v ad)(Y:v.cell? (C I 0)=A (.s la n cap)):(uC w8).wp sr (λe a v'=>v'=v/\((e=.ret/\a.defers=[]/\a.tmps.getD 6 uu=.sn/\∃k:Nat,k<9/\Bl n wks=k+1/\a.tmps.getD 7 uu=.f 255 (.p (A (ad k))))\/(e=.normal/\Bl n wks=0/\a=ZT la n cap per wks I))) (Vt la n cap per wks I) v:=by
 have U:=qX (QW n wks v ad O);clear O;simp only[uC,Vt,ZT,È,A7,Ak,w8,é];go_wp2_with (apply U.o.mono)
 rintro e V⟨rfl,⟨E,rfl⟩|⟨E,rfl⟩|⟨E,rfl⟩⟩
 . have G:=qX E;clear E;go_wp2_with fail;exact⟨2,N,by rw[G.o];rfl,J⟩
 . have G:=qX E;clear E;go_wp2_with fail;exact⟨1,N,by rw[G.o];rfl,J⟩
 have G:=qX E;clear E;go_wp2_with fail;exact G.o
end
def TS{g}(h:Ep g=sy):g<sr.globals.size:=by
 simp only[Ep,CY,ł,Ł,lV,sV,ġ,ĝ,kZ]at h;obtain rfl|rfl|rfl|rfl|rfl|rfl|rfl|rfl|rfl|rfl:=h<;>decide
open Go.ConcR (KK WgAt stA smA rd wr mk)
def cK{n wks}(h:Bl n wks=0):1<=wks/\wks<=16/\n<=100:=by
 unfold Bl at h;split at h
 . omega
 split at h
 . omega
 omega
def Y2 (f:zJ)(E:oA)(n cap:Nat)(per wks:Int)(cs:lF):gR:=G ((base 14).at (lT E n cap per wks) [.code (È f)]) cs
def gy (b off:Nat)(w:M):=w.cell? (C b off)=A (.q 3)/\w.cell? (C b (off+1))=A (.q 0)
def gy.d{b off}{w w':M}(h:gy b off w)(E:zW w w'):gy b off w':=⟨jf E h.1,jf E h.2⟩
section
variable {b off:Nat}{w:tz}
def mL n(h:gy b off w):s8 sr 104 #[.sl b off 1 1,.q n] w λe w'=>e=.r (.agg #[.q 3,.q 0])/\zW w w':=by
 let⟨E,I⟩:=h;have G:=BZ E;go_in
 go_wp2
 apply ū 1
 rw[Ř];go_wp2
 exact Ę (v:=.agg #[.q 3,.q 0]) (by simp[uK,Tryz.results104,go_sem]) J ⟨J,ba.alloc sm _⟩
def p6 (h:gy b off w):s8 sr 58 #[.sl b off 1 1] w λe w'=>e=.r (.q 0)/\zW w w':=by
 let⟨E,G⟩:=h;go_in
 go_wp2
 apply ū 1
 rw[Ř];go_wp2
 go_ret;exact⟨J,br⟩
def qe n k1 k2(Z:w.cell? ⟨k1,0,sA⟩=A (.slice (A ⟨b,off,sA⟩) 1 1))(z:w.cell? ⟨k2,0,sA⟩=A (.int .i64 2))(h:gy b off w)(r8:0<= n)(Y:n<= 20020000):
  Calls sr 103 #[.int .i64 n,.pointer (A ⟨k1,0,sA⟩),.pointer (A ⟨k2,0,sA⟩)] w λe w'=>e=.returned (.bool (decide (3<n)))/\Below w.heap.size w w':=by
 have X:Hid (w.cell? ⟨k2,0,sA⟩=A (.int .i64 2)):=z
 have H:Hid (gy b off w):=h
 clear h z
 go_in
 go_wp2_with fail
 apply (mL n H.o).mono
 rintro e b⟨rfl,hb1⟩
 have HB1:Hid (Below w.heap.size w b):=hb1
 clear hb1 Z
 go_wp2_with fail
 apply (Jt 3 0 n _ (by omega) (by omega) r8 Y).mono
 rintro e e⟨rfl,hb2⟩
 have HB2:Hid (Below w.heap.size w e):=(HB1.o.alloc HB1.o.size _).trans (hb2.mono (by have:=HB1.o.size;simp;omega))
 have z:=jf HB2.o X.o
 have h:e.cell? ⟨b.heap.size,1,sA⟩=A (.int .i64 0):=jf hb2 (by simp)
 obtain⟨r8,b⟩:=ex (Ÿ 3 n)
 have e:Hid (0<r8 ↔ 3<n):=by
  show _ ↔ _
  rw[<-b]
  unfold Ÿ
  omega
 have hA0:0<= r8/\r8<= 20020000:=by
  rw[<-b]
  unfold Ÿ
  omega
 obtain⟨h,h⟩:=hA0
 rw[b]
 clear hb2 b
 by_cases b:0<r8
 .
  go_wp2_with fail
  go_ret
  exact⟨ť (λz=>Ending.returned (.bool z)) (ď (e.o.1 b)).symm,HB2.o⟩
 .
  go_wp2_with fail
  go_ret
  exact⟨ť (λz=>Ending.returned (.bool z)) (ĕ λh=>by have:=e.o.2 h;omega).symm,HB2.o⟩
def r4:s8 sr 136 #[.agg #[.q 3,.q 0],.q 3] w λe w'=>e=.r (.q 0)/\zW w w':=by
 have E:=bC w.z w;go_in
 go_wp2_with fail;apply(Jt 3 0 3 _ N N N N).mono
 rintro e e⟨rfl,G⟩;rw[show Ÿ 3 3=0 from J];have I:Hid (zW w e):=(E.alloc lr _).trans (G.mono sm);clear G E;go_wp2
 go_ret;exact⟨J,I.o⟩
def pw (h:gy b off w):s8 sr 106 #[.sl b off 1 1,.q 2,.q 3] w λe w'=>e=.r (.q 6)/\zW w w':=by
 have H:=qX h;clear h;go_in
 go_wp2_with fail;apply(mL 3 H.o).mono
 rintro e b⟨rfl,G⟩;have O:=qX G;clear G;go_wp2_with fail;apply r4.mono
 rintro e b⟨rfl,E⟩;have I:=qX (O.o.tr E);clear E;go_wp2
 go_ret;exact⟨J,I.o⟩
def Tryz.P (x y:Vl)(w:M):(Instr.field 51 (.agg #[x,y]) 1).run sr w=.ok y w:=kr
def re (h:gy b off w):s8 sr 59 #[.sl b off 1 1,.q 2] w λe w'=>e=.r (.q 6)/\zW w w':=by
 have Y:zW w ((w.alloc (.c #[.sl b off 1 1] 52)).alloc (.c #[.q 2] 3)):=ba.alloc sm _;have n:((w.alloc (.c #[.sl b off 1 1] 52)).alloc (.c #[.q 2] 3)).cell? (C w.z 0)=A (.sl b off 1 1):=sm;have G:((w.alloc (.c #[.sl b off 1 1] 52)).alloc (.c #[.q 2] 3)).cell? (C (w.z+1) 0)=A (.q 2):=sm;have e:=h.d Y;have E:=Tryz.P;go_in
 go_wp2_with fail;generalize (w.alloc (.c #[.sl b off 1 1] 52)).alloc (.c #[.q 2] 3)=W at*;have X:=qX Y;have Z:=qX e;have E:=qX n;have I:=qX G;clear Y e n G h;apply (kH 1 20020000 (.pp w.z 0) (.pp (w.z+1) 0) (λn=>decide (3<n)) W W br dc dc dc
  (λn b b b U=>qe n w.z (w.z+1) (jf U E.o) (jf U I.o) (Z.o.d U) N N)).mono
 rintro e b⟨T,rfl,w,n,e,b,O⟩;obtain rfl:T=4:=by
  simp only[kZ,decide_eq_false_iff_not]at e b;omega
 have h:=qX O;have U:=jf O E.o;have T:=jf O I.o;clear w n e b O;go_wp2_with fail;apply(pw (Z.o.d h.o)).mono
 rintro e b⟨rfl,b⟩;have G:=qX (h.o.tr b);have h:=jf G.o E.o;have n:=jf G.o I.o;clear b U T;go_wp2_with fail;apply(mL 4 (Z.o.d G.o)).mono
 rintro e b⟨rfl,b⟩;have V:=qX (G.o.tr b);have e:=jf V.o E.o;have e:=jf V.o I.o;clear b h n;go_wp2
 go_ret;exact⟨J,X.o.tr V.o⟩
def px (h:gy b off w):s8 sr 57 #[.sl b off 1 1,.q 2] w λe w'=>e=.returned .n/\zW w w':=by
 have G:Cr w (sa b off) [(3,0)]:=.inr ⟨b,off,J,BZ h.1,λi x y O=>by
  cases i with
  |zero=>cases O;exact⟨by simpa using h.1,by simpa using h.2⟩
  |succ i=>simp at O⟩
 have E:Bq [(3,0)]:=⟨sm,sm,λp U=>by rw[Đ.1 U];decide⟩
 have Y:Hid (∀W,zW w W->qW 61 #[.sl b off 1 1] W .n):=λW e=>LH (sa b off) 1 [(3,0)] W (G.d e) E
 clear G E h;go_in
 go_wp2_with fail;apply(Y.o _ br).mono
 rintro e b⟨rfl,I⟩;have V:=qX I;clear I;go_wp2
 go_ret;exact⟨J,V.o⟩
def rM (h:gy b off w):s8 sr 33 #[.sl b off 1 1,.q 2] w λe w'=>e=.r (.t #[.q 6,.n])/\zW w w':=by
 have H:=qX h;clear h;go_in
 go_wp2_with fail;apply(px H.o).mono
 rintro e b⟨rfl,I⟩;have E:=qX I;clear I;go_wp2_with fail;apply(p6 (H.o.d E.o)).mono
 rintro e b⟨rfl,U⟩;have O:=qX (E.o.tr U);clear U;go_wp2_with fail;apply(re (H.o.d O.o)).mono
 rintro e b⟨rfl,G⟩;have V:=qX (O.o.tr G);clear G;go_wp2
 go_ret2;exact⟨J,V.o⟩
end
structure We (s0:Nat)(w:M)(ad:Nat->xr):Prop where
 j:FV w ad
 D:∀g,Ep g=sy->∃x t,w.heap[g]? = A (.c #[x] t (0,0))
 p:∀k,k<9->Ep (ad k).block=ss
 u:∀k,k<9->(ad k).block<s0
 e:sr.globals.size<=s0
 h:s0<=w.heap.size
def FV.m{w w1:M}{ad}(h:FV w ad)(G:Am w w1):FV w1 ad:=by
 refine{h.toErrs9.m G with h:=h.h,blk:=λi I=>?_};let⟨c,t,E⟩:=h.blk i I;exact⟨c,t,(G.g _ (AZ E)).trans E⟩
def We.m{s0}{w w1:M}{ad}(h:We s0 w ad)(E:Am w w1):We s0 w1 ad:=by
 refine⟨h.j.m E,λg I=>?_,h.p,h.u,h.e,rX h.h E.h⟩;let⟨x,t,G⟩:=h.D g I;exact⟨x,t,(E.g _ (AZ G)).trans G⟩
def Ŧ:Vl->oA
 |.slice a _ _=>a
 |_=>sA
def Ν:Vl->Nat
 |.slice _ _ c=>c
 |_=>0
open Go.ConcR (KK WgAt stA smA rd wr mk)
def mN (e:Ending)(_:M):=e=.r (.t #[.q 6,.n])
structure rA (S:Nat->Prop)(T:Nat->Nat)(bl bp B r8:Nat)(w:M):Prop where
 k:Ķ (Ė He) S T w
 l:∀g,CY g=sy->S g
 sl:S bl
 i:S bp
 p:S B
 h:S r8
 box:w.cell? (C bl 0)=A (.sl B 0 1 1)
 b:w.cell? (C bp 0)=A (.q 2)
 m:w.cell? (C B 0)=A (.sl r8 0 1 1)
 a:gy r8 0 w
 d:sr.globals.size<=w.heap.size
 r:0<T bl
 s:0<T bp
 q:0<T B
 j:1<T r8
section
variable {H S R:Nat->Prop}{T:Nat->Nat}{ad:Nat->xr}{bl bp B r8:Nat}{w w1:tz}{cs:List vh}{Post:xn->tz->Prop}{s0:Nat}
def ra (h:rA S T bl bp B r8 w):Ď sr 32 (Ca bl bp 0) (Õ T w) mN:=by
 refine⟨λt=>?_,λe w' h=>⟨_,h⟩⟩;have I:(À (Õ T w) t).cell? (C bl 0)=w.cell? (C bl 0):=El _ h.r;have G:(À (Õ T w) t).cell? (C bp 0)=w.cell? (C bp 0):=El _ h.s;have O:(À (Õ T w) t).cell? (C B 0)=w.cell? (C B 0):=El _ h.q;have E:gy r8 0 (À (Õ T w) t):=⟨(El (T:=T) (w:=w) _ (by show 0<T r8;have:=h.j;omega)).trans h.a.1,(El (T:=T) (w:=w) _ (by show 0+1<T r8;have:=h.j;omega)).trans h.a.2⟩
 refine(dK bl bp B 0 1 1 0 2 (sa r8 0) 1 1 _ (λx y _=>x=.q 6/\y=.n) (I.trans h.box) (G.trans h.b) N (O.trans h.m) λW e=>?_).mono ?_
 . apply(rM (E.d e)).mono;simp_all
 rintro e w'⟨-,x,y,rfl,rfl,rfl⟩;rfl
def rA.v (h:rA S T bl bp B r8 w)(G:lF):FC sr He CY w.heap.size (Ú sr 32 (Ca bl bp 0) (Õ T w)) G (Ú sr 32 (Ca bl bp 0) (Õ T w)) (Ô.j S) (Frame.enter sr 32 (Ca bl bp 0) .normal) G w:=by
 refine FC.v UZ h.k h.l dc ⟨_,_,J,J⟩ (λj x E=>?_) _
 match j,E with
 |0,E=>cases E;exact VR.int _ _
 |1,E=>cases E;exact VR.ptr ⟨⟨J,h.sl⟩,J,J⟩
 |2,E=>cases E;exact VR.ptr ⟨⟨J,h.i⟩,J,J⟩
 |j+3,E=>simp at E
def rA.u{K}(h:rA S T bl bp B r8 w)(G:Cz K w w1)(I:∀b,S b->K b):rA S T bl bp B r8 w1:=by
 have E:∀(b o:Nat),S b->w1.cell? (C b o)=w.cell? _:=λb o Z=>G.E (I b Z)
 refine⟨λx O=>?_,h.l,h.sl,h.i,h.p,h.h,(E _ _ h.sl).trans h.box,(E _ _ h.i).trans h.b,(E _ _ h.p).trans h.m,⟨(E _ _ h.h).trans h.a.1,(E _ _ h.h).trans h.a.2⟩,rX h.d G.2,h.r,h.s,h.q,h.j⟩;let⟨c,t,U,Y,V⟩:=h.k x O;exact⟨c,t,U,(G.1 x (I x O)).trans Y,V⟩
def pT (R:Nat->Prop)(T:Nat->Nat):OO:=⟨R,T,He,CY,λ_=>mN⟩
def pj{r}{E v:Vl}(h:mN (.r E) w)(G:VR (Ė He) r E v):v=.t #[.q 6,.n]:=by
 cases h
 obtain⟨a,b,rfl,I,O⟩:=G.j;obtain rfl:a=.int _ 6:=I.p;obtain rfl:b=.n:=O.p;rfl
structure km (H R:Nat->Prop)(T:Nat->Nat)(bl bp B r8:Nat)(w:M):Prop where
 d:DF H w
 e:∀b,b<sr.globals.size->b<w.heap.size/\¬H b
 call:rA R T bl bp B r8 w
 f:∀b,R b->b<w.heap.size/\¬H b
def km.later (h:km H R T bl bp B r8 w)(G:Am w w1):km H R T bl bp B r8 w1:=
 ⟨h.d.later G,λb E=>⟨rZ (h.e b E).1 G.h,(h.e b E).2⟩,h.call.u (K:=λb=>b<w.z) ⟨G.g,G.h,G.p⟩ λb E=>(h.f b E).1,λb E=>⟨rZ (h.f b E).1 G.h,(h.f b E).2⟩⟩
def km.to (h:km H R T bl bp B r8 w):MS H ss 1 bl bp (pT R T) w:=by
 have G:∀H,Cz (λb=>R b\/b<sr.globals.size) w H->rA R T bl bp B r8 H:=λH E=>h.call.u E λ_ U=>.inl U
 refine⟨N,h.d,h.e,h.f,UZ,λi H V Y E=>?_,λi H Y E=>?_,λi H r Z v O I=>⟨_,_,pj (w:=H) O I,⟨6,J⟩,.inl J⟩⟩
 . obtain rfl:i=0:=N;exact(G H E).v V
 obtain rfl:i=0:=N;exact ra (G H E)
def r6 (h:km H R T bl bp B r8 w){b₀:vh}{a₀}{ops:aO}{i}{rest:lN}{kk:lM}
  (aa:∀(E) D w',Am w w'->DF E w'->(∀b,E b->H b\/w.heap.size<=b)->Bc w' (sa D 0) [6]->AO sr Post E (G (b₀.at (a₀.put ((ops[i]?).bind (·.dst)) (.t #[.sl D 0 1 1,.n])) (.inRegion ops rest::kk)) cs) w'):
  AO sr Post H (IE sr ss 1 2 (ē ss bl bp) (b₀.at a₀ (.inRegion ops (i::rest)::kk)::cs)) w:=by
 refine VU h.to (λ_ _ u=>u=.q 6) (λ_ _=>False) (λ_ _ _ _ _ b=>b) (λ_ v w' _ _ am=>?_) N λE x y w' b Z v d=>?_
 . obtain⟨x,r,L,aq,h,t,ao,V,c,-⟩:=am;exact⟨_,_,pj (w:=À x h) V c,⟨6,J⟩,.inl ⟨J,J⟩⟩
 obtain⟨i,c,-,-,h,-⟩|⟨I,D,O,c,rfl,rfl,Y,ap⟩:=d
 . exact h.elim
 obtain⟨u,rfl⟩:∃u,I=[u]:=by
  obtain _|⟨d,_|⟨d',ds⟩⟩:=I
  . cases O
  . exact⟨d,J⟩
  simp at O
 obtain rfl:=c 0 u J;refine aa E D w' b Z v (.inr ⟨D,0,J,Y,λi d U=>?_⟩);cases i with
 |zero=>
  simp_all
 |succ i=>simp at U
def mJ (E B r8 b:Nat):=CY b=sy\/b=B\/b=r8\/b=E\/b=E+1
def k8 (E B r8 b:Nat):=if b=r8 then 2 else if b=B\/b=E\/b=E+1 then 1 else 0
def p7{c e:tI}(O:We s0 w ad)(j:DF H w)(h:∀b,H b->s0<=b)(b:s0<=r8)(b:s0<=B)(S:r8≠B)(Y:w.heap[B]? = A (.c #[.sl r8 0 1 1] 52 (0,0)))(V:w.heap[r8]? = A (.c #[.q 3,.q 0] 51 (0,0)))
  (Z:w.heap[bl]? = A (.c #[.sl B 0 1 1] c (0,0)))(X:w.heap[bl+1]? = A (.c #[.q 2] e (0,0)))(g:r8<bl)(e:B<bl)(R:¬H bl)(Q:¬H (bl+1)):
  km H (mJ bl B r8) (k8 bl B r8) bl (bl+1) B r8 w:=by
 have T:∀b,b<s0->¬H b:=λb G I=>by
  have:=h b I;omega
 have W:∀b c t,w.heap[b]? = A (.c c t (0,0))->t≠98->¬H b:=λb c t g e G=>by
  let⟨h,c,I⟩:=j b G;have I:w.heap[b]? = A (.c #[.int .u64 h,.int .u32 c] 98 (0,0)):=I;rw[g]at I;injection I with I
  injection I with _ I _
  exact e I
 have w:∀g,CY g=sy->g<s0:=λg e=>rZ (TS (by simp[Ep,e])) O.e
 have t:=O.h;have U:∀{b},b=B\/b=r8\/b=bl\/b=bl+1->mJ bl B r8 b:=λh=>.inr h
 have c:∀n:Int,VR (Ė He) (Ô.j (mJ bl B r8)) (.q n) (.q n):=λn=>VR.int _ _
 refine⟨j,λb G=>⟨rZ G (rX O.e t),T b (rZ G O.e)⟩,⟨λb G=>?_,λg e=>.inl e,U (.inr (.inr (.inl J))),U (.inr (.inr (.inr J))),U (.inl J),U (.inr (.inl J)),?_,?_,?_,⟨?_,?_⟩,rX O.e t,?_,?_,?_,?_⟩,λb G=>?_⟩
 .
  obtain G|rfl|rfl|rfl|rfl:=G
  . let⟨x,t,e⟩:=O.D b (by simp[Ep,G]);refine⟨_,_,_,e,λj y e _=>?_⟩;have:=w b G;unfold k8 at e;rw[Ä N,Ä N]at e;omega
  .
   refine⟨_,_,_,Y,λj y _ E=>?_⟩;cases j with
   |zero=>cases E;exact VR.e ⟨A (C r8 0),J,⟨J,U (.inr (.inl J))⟩,J,J⟩
   |succ j=>simp at E
  .
   refine⟨_,_,_,V,λj y _ E=>?_⟩
   match j,E with
   |0,E=>cases E;exact c _
   |1,E=>cases E;exact c _
   |j+2,E=>simp at E
  .
   refine⟨_,_,_,Z,λj y _ E=>?_⟩;cases j with
   |zero=>cases E;exact VR.e ⟨A (C B 0),J,⟨J,U (.inl J)⟩,J,J⟩
   |succ j=>simp at E
  refine⟨_,_,_,X,λj y _ E=>?_⟩;cases j with
  |zero=>cases E;exact c _
  |succ j=>simp at E
 . simp[sY,Z]
 . simp[sY,X]
 . simp[sY,Y]
 . simp[sY,V]
 . simp[sY,V]
 . unfold k8;rw[Ä N,Æ (.inr (.inl J))];omega
 . unfold k8;rw[Ä N,Æ (.inr (.inr J))];omega
 . unfold k8;rw[Ä (ħ S),Æ (.inl J)];omega
 . unfold k8;rw[Æ J];omega
 obtain G|rfl|rfl|rfl|rfl:=G
 . have:=w b G;exact⟨N,T b this⟩
 . exact⟨AZ Y,W _ _ _ Y dc⟩
 . exact⟨AZ V,W _ _ _ V dc⟩
 . exact⟨AZ Z,R⟩
 exact⟨AZ X,Q⟩
end
open Go.ConcR (KK WgAt stA smA rd wr mk)
section
variable {H:Nat->Prop}{ad:Nat->xr}{B r8 s0:Nat}{cs:List vh}{w:tz}{Post:xn->tz->Prop}
def qD (T:We s0 w ad)(hid:DF H w)(P:∀b,H b ->s0<= b)(S:s0<= r8)(R:s0<= B)(hAB:r8≠B)(Z:w.heap[B]? = A (.cells #[.slice (A ⟨r8,0,sA⟩) 1 1] 52 (0,0)))(Y:w.heap[r8]? = A (.cells #[.int .i64 3,.int .i64 0] 51 (0,0))) {b₀:vh}{a₀ ops i rest k}
  (hend:∀(H') D w',Am w w' ->DF H' w' ->(∀b,H' b ->H b\/w.heap.size<= b) ->Bc w' (A ⟨D,0,sA⟩) [6] ->AO sr Post H' (G (b₀.at (a₀.put ((ops[i]?).bind (·.dst)) (.tuple #[.slice (A ⟨D,0,sA⟩) 1 1,.nilIface])) (.inRegion ops rest::k)) cs) w'):
  AO sr Post H (Y2 w8 (A ⟨B,0,sA⟩) 1 1 2 2 (b₀.at a₀ (.inRegion ops (i::rest)::k)::cs)) w:=by
 unfold Y2
 have a:È w8=.seq (uL w8) (.seq (uC w8) (.seq (A7 (Ak (Ak (È w8)))) .ret)):=rfl
 rw[a]
 refine AO.k ?_
 refine AO.g (p:=Di) D6 (Q:=(λe a v'=>e=.normal/\∃v,Bp H v w/\Am v v'/\a=Vt ((A ⟨B,0,sA⟩)) 1 1 2 2 w.heap.size/\∃k r8,v'.heap[w.heap.size]? = A (.cells #[.slice ((A ⟨B,0,sA⟩)) 1 1] k (0,0))/\v'.heap[w.heap.size+1]? = A (.cells #[.int .i64 2] r8 (0,0)))) ⟨⟨_,D1⟩,J,J⟩ (by decide+kernel) hid.y (λv b=>?_) (λe a v' q=>.inl q.1) (λe a v' t⟨i,v,h,D,G⟩=>⟨i,v,h,D.d t,G⟩) ?_ (λa' todo v' w' q=>by cases q.1)
 .
  refine tL ?_ (q3 v)
  rintro e a v'⟨i,h,k,r8,rfl⟩
  rw[<-b.h]at h
  have hs1:(v.alloc (.cells #[.slice (A ⟨B,0,sA⟩) 1 1] k)).heap.size=w.heap.size+1:=by rw[Cx,b.h]
  refine⟨i,v,b,Am.e (ba.alloc (by rw[Cx];omega) _),h,k,r8,?_,?_⟩
  .
   rw[Ø _ _ (by rw[hs1,b.h];omega),b.h]
   exact Ù _ _
  .
   rw[<-hs1]
   exact Ù _ _
 rintro a' v' x⟨-,v,b,hlv,rfl,k,r8,e,h⟩hm1 hp1
 have hl1:Am w x:=Am.a b hm1 hp1 hlv
 have U:¬H w.heap.size:=λa=>by have:=hid.G a;omega
 have V:¬H (w.heap.size+1):=λa=>by have:=hid.G a;omega
 have r8:=hm1.e e U
 have W:=hm1.e h V
 clear b hlv e h hm1 hp1 v v'
 have hid1:=hid.later hl1
 have he1:=T.j.toErrs9.m hl1
 have X:x.cell? ⟨w.heap.size,0,sA⟩=A (.slice (A ⟨B,0,sA⟩) 1 1):=by simp[sY,r8]
 refine AO.k ?_
 refine AO.g (p:=Di) D6 (Q:=(λe a v'=>(∃v,Bp H v x/\Am v v')/\
   ((e=.ret/\a.defers=[]/\a.tmps.getD 6 undef=.slice sA 0 0/\∃k:Nat,k<9/\Bl 1 2=k+1/\a.tmps.getD 7 undef=.iface 255 (.pointer (A (ad k))))\/(e=.normal/\Bl 1 2=0/\a=ZT ((A ⟨B,0,sA⟩)) 1 1 2 2 w.heap.size)))) ⟨⟨_,D1⟩,J,J⟩ (by decide+kernel) hid1.y (λv b=>?_) (λe a v' q=>q.2.elim (λq=>.inr q.1) λq=>.inl q.1) (λe a v' t⟨⟨v,h,D⟩,G⟩=>⟨⟨v,h,D.d t⟩,G⟩) ?_ ?_
 .
  refine tL ?_ (pZ w.heap.size ad v (he1.E hid1 b) (hid1.E b X (by simp) (by simp)))
  rintro e a v'⟨rfl,q⟩
  exact⟨⟨v',b,Am.I _⟩,q⟩
 .
  rintro a' v' a⟨⟨v,b,hlv⟩,⟨i,-⟩|⟨-,-,rfl⟩⟩hm2 hp2
  . cases i
  have hl2:Am x a:=Am.a b hm2 hp2 hlv
  clear b hlv hm2 hp2 v v'
  have hl02:=hl1.G hl2
  have hid2:=hid.later hl02
  have jc2:=hl2.E X
  have hready:=p7 (T.m hl02) hid2 P S R hAB ((hl02.g _ (AZ Z)).trans Z) ((hl02.g _ (AZ Y)).trans Y) ((hl2.g _ (AZ r8)).trans r8) ((hl2.g _ (AZ W)).trans W) (AZ Y) (AZ Z) U V
  unfold ZT
  simp only[È,A7,Ak,w8,é]
  iterate 2 refine AO.k ?_
  try walk_nrm
  refine AO.h (p:=Di) D6 (Q:=λx v'=>x=.slice (A ⟨B,0,sA⟩) 1 1/\∃v,Bp H v a/\v'=v) J J (by decide) J hid2.y (λv b=>?_) ?_
  .
   refine⟨.slice (A ⟨B,0,sA⟩) 1 1,v,?_,J,v,b,J⟩
   have:=hid2.E b jc2 (by simp) (by simp)
   go_simp
  rintro x v' e⟨rfl,v,b,rfl⟩hm3 hp3
  have hl3:Am a e:=Am.a b hm3 hp3 (Am.I _)
  clear b hm3 hp3
  try walk_nrm
  apply AO.v (.int .i64 1);try walk_nrm
  apply AO.v (.int .i64 2);try walk_nrm
  apply AO.value (ē ss w.heap.size (w.heap.size+1)) J J (by decide) (λ_=>by go_simp;rfl) (λ_=>by simp[go_sem]);try walk_nrm
  apply AO.call J J (by decide) J Tryz.func31 (by decide) J
  walk_nrmf Tryz.ntmps31
  apply (λh=>h)
  refine r6 (hready.later hl3) λH' D a hl4 hh4 hH4 hof=>?_
  walk_nrm
  apply AO.v (.slice (A ⟨D,0,sA⟩) 1 1);try walk_nrm
  apply AO.v .nilIface;try walk_nrm
  apply AO.v (.slice (A ⟨D,0,sA⟩) 1 1);try walk_nrm
  apply AO.v .nilIface;try walk_nrm
  iterate 2 refine AO.k ?_
  apply AO.e (fn:=w8) (v:=.tuple #[.slice (A ⟨D,0,sA⟩) 1 1,.nilIface]) J J D1 (λ_=>by simp[uK,w8]) (λ_=>by simp[uK,w8])
  exact hend H' D a ((hl02.G hl3).G hl4) hh4 (λb a=>IP id (λe=>rX (hl02.G hl3).h e) (hH4 b a)) hof
 .
  rintro a' todo v' a⟨-,⟨-,-,-,b,-,a,-⟩|⟨i,-⟩⟩hm2 hp2
  .
   have e:Bl 1 2=0:=by decide
   have a:Bl 1 2=(b:Int)+1:=a
   omega
  . cases i
end
open Go.ConcR (KK WgAt stA smA rd wr mk)
def xx:Act:=⟨#[uu,uu,uu,uu,uu,uu,uu,uu,uu,uu,uu,uu,uu,uu,uu,uu,uu],[]⟩
def Z7 (f:zJ)(cs:lF):gR:=G ((base 4).at xx [.code (È f)]) cs
def vW (E G d:Vl):Act:=⟨#[.bool ss,d,.n,.t #[d,.n],.agg #[.q 3,.q 0],E,G,.t #[d,.n],d,.n,uu,uu,uu,uu,uu,uu,uu],[]⟩
def mh (f:zJ):=Ak (Ak (È f))
section
variable {H:Nat->Prop}{ad:Nat->xr}{cs:List vh}{w:tz}{Post:xn->tz->Prop}{s0:Nat}
def yH Z ac D(v:M)(E:Bc v (sa D 0) [6]):(mh zj).wp sr (λe a v'=>e=.ret/\a.defers=[]/\a.tmps.getD 0 uu=.bool sy/\Am v v') (vW Z ac (.sl D 0 1 1)) v:=by
 let⟨b,off,U,G,E⟩:=E.h sm;cases U
 have I:=E 0 6 J;have G:v.heap[D]?.isSome:=by
  rw[ÿ G];rfl
 have a:Hid (qW 15 #[.sl D 0 1 1,.sl v.z 0 1 1] (v.alloc (.c #[.q 6] 3 (0,0))) (.bool sy)):=by
  refine ZX D 0 v.z 0 1 1 1 (λ_=>6) _ N (λi aa=>?_) (λi aa=>?_)
  . obtain rfl:i=0:=N;unfold sY;rw[Ø _ _ (by have:=E;simp at G;omega)];exact I
  obtain rfl:i=0:=N;unfold sY;rw[Ù];rfl
 clear E I G;simp only[mh,vW,È,A7,Ak,zj,é];go_wp2_with (apply a.o.mono)
 rintro e Y⟨rfl,O⟩;have V:Hid (Am v Y):=(Am.e ba).G (Am.e O);clear O;go_wp2_with fail;exact V.o
def gH (t:We s0 w ad)(e:DF H w)(Y:∀b,H b->s0<=b){b₀:vh}{a₀}{ops:aO}{i}{rest:lN}{k:lM}
  (X:∀(I) w',Am w w'->DF I w'->(∀b,I b->s0<=b)->AO sr Post I (G (b₀.at (a₀.put ((ops[i]?).bind (·.dst)) (.bool sy)) (.inRegion ops rest::k)) cs) w'):
  AO sr Post H (Z7 zj (b₀.at a₀ (.inRegion ops (i::rest)::k)::cs)) w:=by
 unfold Z7 xx;have a:È zj=.seq (A7 (È zj)) (.seq (A7 (Ak (È zj))) (mh zj)):=rfl;rw[a]
 iterate 2 refine AO.k ?_
 try walk_nrm
 apply AO.v (.bool ss);try walk_nrm
 iterate 3 refine AO.k ?_
 try walk_nrm
 apply AO.v (.agg #[.q 3,.q 0]);try walk_nrm;refine AO.h (p:=Di) D6 (Q:=λx v'=>x=.sl w.heap.size 0 1 1/\∃v,Bp H v w/\v'=v.alloc (.c #[.q 3,.q 0] 51 (0,0))) J J dc J e.y (λv E=>?_) ?_
 .
  refine⟨.sl w.heap.size 0 1 1,?W,?hrun,J,v,E,?hW⟩
  case hrun=>
   rw[E.h];go_simp
   rfl
  case hW=>rfl
 rintro x D a⟨rfl,v,E,rfl⟩h x;have k:Am w a:=Am.l E h x ba;have O:=h.e (b:=w.heap.size) (by rw[E.h];exact Ù _ _) λi=>by have:=e.G i;omega
 clear E h x v;have h:=e.later k
 try walk_nrm
 refine AO.h (p:=Di) D6 (Q:=λx v'=>x=.sl a.heap.size 0 1 1/\∃v,Bp H v a/\v'=v.alloc (.c #[.sl w.heap.size 0 1 1] 52 (0,0))) J J dc J h.y (λv E=>?_) ?_
 .
  refine⟨.sl a.heap.size 0 1 1,?W2,?hrun2,J,v,E,?hW2⟩
  case hrun2=>
   rw[E.h];go_simp
   rfl
  case hW2=>rfl
 rintro x D w⟨rfl,v,E,rfl⟩e x;have U:Am a w:=Am.l E e x ba;have D:=e.e (b:=a.heap.size) (by rw[E.h];exact Ù _ _) λi=>by have:=h.G i;omega
 clear E e x v;have e:=h.later U;have Z:=k.G U
 try walk_nrm
 apply AO.call J J dc J D1 dc J
 walk_nrmf Tryz.ntmps14
 show AO sr Post H (Y2 w8 (sa a.heap.size 0) 1 1 2 2 _) w
 have b:=(U.g _ (AZ O)).trans O;have a:=t.h;refine qD (t.m Z) e Y a (rX a k.h) (λe=>by have:=AZ O;omega) D b λI D i x V a G=>?_
 walk_nrm
 apply AO.v (.t #[.sl D 0 1 1,.n]);try walk_nrm;apply AO.v (.sl D 0 1 1);try walk_nrm;apply AO.v .n;try walk_nrm;apply AO.v (.sl D 0 1 1);try walk_nrm;apply AO.v .n;try walk_nrm;refine AO.k ?_
 have w:∀b,I b->s0<=b:=λb e=>(a b e).elim (Y b) λh=>rX (rX t.h Z.h) h
 refine AO.g (p:=Di) D6 (Q:=λe a v'=>e=.ret/\a.defers=[]/\a.tmps.getD 0 uu=.bool sy/\∃v,Bp I v i/\Am v v') ⟨⟨_,Tryz.func4⟩,J,J⟩ (by decide+kernel) V.y (λv E=>?_) (λe a v' Y=>.inr Y.1) (λe a v' t⟨k,i,h,v,b,a⟩=>⟨k,i,h,v,b,a.d t⟩) (λa' v' w' Y=>by cases Y.1) ?_
 .
  refine tL ?_ (yH _ _ D v (G.E V E))
  rintro e a v'⟨k,i,h,b⟩;exact⟨k,i,h,v,E,b⟩
 rintro a' todo v' p⟨-,k,a,v,E,i⟩e h;have b:=Am.a E e h i;refine AO.e (fn:=zj) (v:=.bool sy) J k Tryz.func4 (λ_=>?_) (λ_=>by simp[uK,zj]) ?_
 . simp only[Η]at a;simp[uK,zj,a]
 exact X I p ((Z.G x).G b) (V.later b) w
end
open Go.ChangeShapes Go.WideShapes Go.ChangeAt
def Tryz.E:ownKnob sr.godebug=none:=kr
def Tryz.F:laidOutB sr=true:=kr
def Tryz.a:sr.cellsOf 3=1:=kr
def Tryz.MT:sr.cellsOf 275=1:=kr
def Yx:String:=match (Rows.laid_floodgate_api_ErrBound:DataW Unit) with|.iface n _=>n|_ => "none"
def qQ{P:pG}{tp:tI}{s}(E:s=Yx)(h:((tW P.types.size).all λu=>P.typeName? 3 u !=A Yx ||u==tp)=sy):((tW P.types.size).all λu=>P.typeName? 3 u !=A s ||u==tp)=true:=by
 rw[E];exact h
def Tryz.Nm (u:tI)(h:sr.typeName? 3 u=A Yx):u=255:=
 typeName_ptr_named (P:=sr) (nm:= "errors.errorString") (tp:=255) (qQ dc kr) kr dc u (h.trans (ť A dc))
def CB{n nm U r}{W:M}{g}
  (h:laidMet sr ((n,.iface nm (.ptr (.agg [.lit (.string U)])))::r) W)
  (r:nm=Yx)(aa:sr.globalNamed n=A g)(Z:(sr.globals[g]?).map (·.type)=A 33):
  ∃(a:xr)(s:bA),W.cell? (C g 0)=A (.iface 255 (.pointer (A a)))/\W.cell? a=A (.string s)/\s.data.toList=U/\∃c t,W.heap[a.block]? = A (.cells c t (0,0)):=by
 let⟨ps,⟨aq,av,a,f0,aw,ao,E,c,I,n,_,V⟩,_,O⟩:=h;obtain rfl:=Ö (aa.symm.trans E);obtain rfl:=Ö (Z.symm.trans c);subst V;let⟨c⟩:=a;have h:∀u v,c=[.iface u v]->Value.okWide sr W .any 0 u v:=λu v e=>by
  subst e;exact(O g 0 (by simp[MemPlace.row])).2 u v (by simpa using D2 E I 0)
 obtain⟨G,c,rfl,Y,e,ap,rfl⟩:=errorString_of_trod Tryz.underlying33 (λu a=>Tryz.Nm u (by rw[<-r];exact a)) Tryz.underlying255 Tryz.underlying275 J J Tryz.underlying9 Tryz.MT kr n h;exact⟨G,c,by simpa using D2 E I 0,Y,e,(O G.block G.off (by simp[MemPlace.row])).1⟩
def Tryz.Nd:((tW 287).filter λt=>sr.rowNamed t [101,114,114,111,114])=[33]:=kr
def Tryz.X:sr.types.size=287:=kr
def Tryz.V:typeHandle sr 33=.pp 10 33:=kr
def pe (I O U Y E Z aa V G:xr)
 |0=>I|1=>O|2=>U|3=>Y|4=>E|5=>Z|6=>aa|7=>V|_=>G
def Wp{W:M}(h:laidMetH sr Rows.sideRunsRow.laid W):∃ad,FV W ad/\∀k,k<9->∃s:bA,W.cell? (ad k)=A (.string s):=by
 have a9:=h;let⟨E,I⟩:=a9;have bv:W.cell? (C 9 0)=A (.iface 207 (.agg #[.pp 10 33])):=by
  let⟨name,u,ty,j,bf,b4,b7,i⟩:=I _ (Đ.2 J);have h:=(Ö j).symm;subst h;obtain rfl:u=207:=Ö (bf.symm.trans kr);have h:ty∈(tW 287).filter λt=>sr.rowNamed t [101,114,114,111,114]:=Ρ.2 ⟨ρ.2 (by rw[<-Tryz.X];exact b4),b7⟩
  rw[Tryz.Nd]at h;obtain rfl:=Đ.1 h;rw[Tryz.V]at i;simpa using D2 kr i 0
 let⟨r9,j,b9,cb,bh,bb⟩:=CB (g:=3) E J kr kr;let⟨P,u,bd,K,bm,D⟩:=CB (g:=1) E.tail J kr kr;let⟨S,Z,bp,h,aE,bZ⟩:=CB (g:=0) E.tail.tail J kr kr;let⟨Q,t,aN,bn,aL,H⟩:=CB (g:=4) E.tail.tail.tail J kr kr;let⟨R,U,r7,bk,a2,F⟩:=CB (g:=5) E.tail.tail.tail.tail J kr kr;let⟨T,x,a3,sd,b2,aI⟩:=CB (g:=6) E.tail.tail.tail.tail.tail J kr kr;let⟨I,O,aW,L,se,a1⟩:=CB (g:=7) E.tail.tail.tail.tail.tail.tail J kr kr;let⟨X,Y,be,bc,a5,bl⟩:=CB (g:=8) E.tail.tail.tail.tail.tail.tail.tail J kr kr;let⟨k,V,b',a0,bq,ca⟩:=CB (g:=2) E.tail.tail.tail.tail.tail.tail.tail.tail J kr kr;have g:∀i,i<9->∃s:bA,W.cell? (pe r9 P S Q R T I X k i)=A (.string s)/\A s.data.toList=[j,u,Z,t,U,x,O,Y,V][i]?.map λs=>s.data.toList:=by
  intro i G
  match i,G with
  |0,_=>exact⟨j,cb,J⟩
  |1,_=>exact⟨u,K,J⟩
  |2,_=>exact⟨Z,h,J⟩
  |3,_=>exact⟨t,bn,J⟩
  |4,_=>exact⟨U,bk,J⟩
  |5,_=>exact⟨x,sd,J⟩
  |6,_=>exact⟨O,L,J⟩
  |7,_=>exact⟨Y,bc,J⟩
  |8,_=>exact⟨V,a0,J⟩
  |i+9,h=>omega
 refine⟨pe r9 P S Q R T I X k,⟨⟨bv,b9,bd,bp,aN,r7,a3,aW,be,b'⟩,?_,?_⟩,λk a8=>(g k a8).elim λs bx=>⟨s,bx.1⟩⟩
 .
  have h:[j,u,Z,t,U,x,O,Y,V].map (λs=>s.data.toList)=(Rows.sideRunsRow.laid.tail.map λx=>match x.2 with|.iface _ (.ptr (.agg [.lit (.string t)]))=>t|_=>[]):=by
   simp only[jN,List.map_nil,bh,bm,aE,aL,a2,b2,se,a5,bq];rfl
  have b0:((Rows.sideRunsRow.laid.tail.map λx=>match x.2 with|.iface _ (.ptr (.agg [.lit (.string t)]))=>t|_=>[]):List (List UInt8)).Nodup:=dc;intro i j G b5 a6 k;let⟨s,E,I⟩:=g i G;let⟨u,bt,i⟩:=g j b5;rw[k,bt]at E;injection E with E
  injection E with E
  subst E;rw[<-τ,h]at I i;exact a6 ((List.getElem?_inj (by rw[<-h];simpa using G) b0).1 (I.symm.trans i))
 intro i G
 match i,G with
 |0,_=>exact bb
 |1,_=>exact D
 |2,_=>exact bZ
 |3,_=>exact H
 |4,_=>exact F
 |5,_=>exact aI
 |6,_=>exact a1
 |7,_=>exact bl
 |8,_=>exact ca
 |i+9,h=>omega
def Ŋ n wks:(wks<1/\Bl n wks=3)\/(¬wks<1/\16<wks/\Bl n wks=3)\/(¬wks<1/\¬16<wks/\100<n/\Bl n wks=2)\/(¬wks<1/\¬16<wks/\¬100<n/\Bl n wks=0):=by
 unfold Bl;split
 . omega
 split<;>omega
def Ps (a:oA) n cap G I(w:M)(h:n≠8):s8 sr 25 #[.s a n cap,.q G,.q I] w λe w'=>e=.r (.q 3)/\w'=w:=by
 have E:(n:Int)≠8:=N;have O:((n:Int)==8)=false:=by simpa using E
 go_in
 go_wp2
 go_ret;exact⟨J,J⟩
def Nb (a:oA) cap(G:lZ) O I(w:M)(k:Bc w a G)(E:G.length=8) j(b:j<=8)(V:∀(i) y,i<j->G[i]? = A y->O<=y/\y<=I) R(h:(j=8/\R=0)\/(R=2/\∃x,G[j]? = A x/\¬(O<=x/\x<=I))):
  Calls sr 25 #[.s a 8 cap,.q O,.q I] w λe w'=>e=.r (.q R)/\w'=w:=by
 have e:=Io V;have y:=Io h;obtain⟨b,off,rfl,-,Z⟩:=k.h N;have a:=Io Z;have Y:=Io E;clear V h k Z E;go_in
 go_wp2_with fail;go_loopw[7] (λi b=>∃k:Nat,k<=j/\i=.q k/\b=w)(λi _=>8-(intOf i).toNat)
 case atStart=>exact⟨0,uD _,J,J⟩
 case round=>
  obtain⟨k,b,rfl,rfl⟩:=hrel;by_cases b:k<j
  .
   obtain⟨x,E,-⟩:=Ao G k (by rw[Y.o];omega);obtain⟨h,h⟩:=e.o k x b E;have b:=a.o k x E;have b:¬x<O:=N;have b:¬I<x:=N;clear E;go_wp2
   go_roundw
   case rel=>exact⟨k+1,N,by go_num,sk⟩
   case measure=>simp[intOf];omega
  obtain rfl:k=j:=N;obtain⟨rfl,rfl⟩|⟨rfl,x,E,b⟩:=y.o
  .
   go_wp2
   go_ret;exact⟨J,J⟩
  have b:=a.o k x E;have a:k<8:=by
   rw[<-Y.o];obtain U|U:=nR k G.length
   . exact U
   simp[ą U]at E
  clear E;by_cases a:x<O
  .
   go_wp2
   go_ret;exact⟨J,J⟩
  have a:I<x:=N;go_wp2
  go_ret;exact⟨J,J⟩
def GG (a:oA) cap(G:lZ) I O(w:M)(Y:Bc w a G) c(h:BK I O G c):Ë 25 #[.s a G.length cap,.q I,.q O] w λe w'=>e=.r (.q c)/\w'=w:=by
 obtain⟨rfl,E⟩|⟨rfl,j,E,U,c⟩|⟨rfl,E,Z⟩:=h
 . exact Ps a _ cap I O w E
 .
  rw[E];have e:j<=8:=by
   obtain⟨x,U,-⟩:=U;rw[<-E];obtain V|V:=nR j G.length
   . exact ŕ V
   simp[ą V]at U
  exact Nb a cap G I O w Y E j e c 2 (.inr ⟨J,U⟩)
 rw[E];exact Nb a cap G I O w Y E 8 lr (λi y _ a=>Z i y a) 0 (.inl ⟨J,J⟩)
def M6 (a:oA) cap(G:lZ)(w:M)(Y:Bc w a G)(I:Ef 1 12 G) j(aE:j<=8)(k:∀(i) y,i<j->G[i]? = A y->NZ y) R(h:(j=8/\R=0)\/(R=2/\∃x,G[j]? = A x/\¬NZ x)):
  Calls sr 26 #[.s a 8 cap] w λe w'=>e=.r (.q R)/\w'=w:=by
 have aw:Hid (Ë 25 #[.s a 8 cap,.q 1,.q 12] w λe w'=>e=.r (.q 0)/\w'=w):=by
  have:=GG a cap G 1 12 w Y 0 (.inr (.inr ⟨J,I⟩));rwa[I.len]at this
 have am:=qX k;have w:=qX h;have O:=qY I.len I.d;obtain⟨b,off,rfl,-,a⟩:=Y.h (by rw[I.len];omega);have b:=qX a;clear k h Y a I;go_in
 go_wp2_with fail;apply aw.o.mono
 rintro e e⟨rfl,rfl⟩;go_wp2_with fail;go_loopg[3,4] 9 (λh a i wr=>wr=e/\∃k:Nat,k<=8/\i=.q k/\h=9-k/\((k<=j/\a=.q 0)\/(k=j+1/\R=2/\a=.q 2)))
 case atStart=>exact⟨J,0,N,J,J,.inl ⟨uD _,J⟩⟩
 case round=>
  obtain⟨rfl,k,ax,rfl,rfl,⟨aq,rfl⟩|⟨aq,rfl,rfl⟩⟩:=hrel
  .
   by_cases ak:k<j
   .
    obtain⟨x,E,-⟩:=Ao G k (by rw[O.o.1];omega);have a:=am.o k x ak E;have V:=O.o.2 k x E;have ap:=b.o k x E;have e:(12%x==0)=true:=by simpa using a.2
    have h:=a.2;clear E a;go_wp2
    go_roundg (9-(k+1))
    case rel=>exact⟨J,k+1,N,by go_num,J,.inl ⟨N,J⟩⟩
    case measure=>omega
   obtain rfl:k=j:=N;obtain⟨rfl,rfl⟩|⟨rfl,x,E,Z⟩:=w.o
   .
    go_wp2
    go_ret;exact⟨J,J⟩
   have ap:=b.o k x E;have V:=O.o.2 k x E;have aB:k<8:=by have:=Ap E;rw[O.o.1]at this;exact this
   have e:(12%x==0)=false:=by simpa using λU=>Z ⟨V.1,U⟩
   have h:¬12%x=0:=λU=>Z ⟨V.1,U⟩
   clear E Z;go_wp2
   go_roundg (9-(k+1))
   case rel=>exact⟨J,k+1,N,by go_num,J,.inr ⟨J,sk,J⟩⟩
   case measure=>omega
  by_cases aC:k<8
  .
   go_wp2
   go_ret;exact⟨J,J⟩
  go_wp2
  go_ret;exact⟨J,J⟩
def LY (a:oA) n cap c(w:M)(Y:n<=1000)(U:0<c)(h:Ë 25 #[.s a n cap,.q 1,.q 12] w λe w'=>e=.r (.q c)/\w'=w):s8 sr 26 #[.s a n cap] w λe w'=>e=.r (.q c)/\w'=w:=by
 have G:=qX h;have O:(c==0)=false:=by simpa using (show c≠0 by omega)
 have V:¬c=0:=N;clear h;go_in
 go_wp2_with fail;apply G.o.mono
 rintro e a⟨rfl,rfl⟩;go_wp2_with fail;go_loopg[3,4] 0 (λ_ E i e=>e=a/\i=.q 0/\E=.q c)
 case atStart=>exact⟨J,J,J⟩
 case round=>
  obtain⟨rfl,rfl,rfl⟩:=hrel;by_cases I:0<n
  .
   go_wp2
   go_ret;exact⟨J,J⟩
  obtain rfl:n=0:=N;go_wp2
  go_ret;exact⟨J,J⟩
def TG (a:oA) cap(E:lZ)(w:M)(U:E.length<=1000)(I:Bc w a E) c(h:EN E c):Ë 26 #[.s a E.length cap] w λe w'=>e=.r (.q c)/\w'=w:=by
 obtain⟨rfl,G⟩|⟨rfl,j,G,⟨x,V,e⟩,Z⟩|⟨rfl,O⟩:=h
 . exact LY a _ cap 3 w U dc (GG a cap E 1 12 w I 3 (.inl ⟨J,G⟩))
 .
  obtain⟨c,c⟩:=Dt 1 12 E;obtain⟨rfl,h⟩|⟨rfl,h⟩|⟨rfl,h⟩:=c
  . exact absurd G h
  . exact LY a _ cap 2 w U dc (GG a cap E 1 12 w I 2 (.inr (.inl ⟨J,h⟩)))
  rw[G];exact M6 a cap E w I h j (by have:=Ap V;omega) Z 2 (.inr ⟨J,x,V,e⟩)
 rw[O.len];exact M6 a cap E w I O.j 8 lr (λi y _ Y=>O.d i y Y) 0 (.inl ⟨J,J⟩)
structure ļ (W:M)(g:Nat)(x y:Vl):Prop where
 e:W.cell? (C g 0)=A x
 a:W.cell? (C g 1)=A y
 f0:W.frozen? (C g 0)=ss
 f1:W.frozen? (C g 1)=ss
section
variable {W W':tz}{g h:Nat}{x y:xn}
def MP (w:M)(x y:Vl)(t:tI):ļ (w.alloc (.c #[x,y] t)) w.heap.size x y:=⟨sm,sm,sm,sm⟩
def ļ.later (k:ļ W g x y)(E:zW W W'):ļ W' g x y:=
 have l:=BZ k.e
 ⟨jf E k.e,jf E k.a,by rw[E.frozen (p:=⟨g,0,_⟩) l];exact k.f0,by rw[E.frozen (p:=⟨g,1,_⟩) l];exact k.f1⟩
def ļ.Q (k:ļ W g x y)(u v:Vl):ļ ((W.setCell (C g 0) u).setCell (C g 1) v) g u v:=by
 have E:(W.setCell (C g 0) u).cell? (C g 0)=A u:=ś _ _ _ (by rw[k.e];rfl);have G:(W.setCell (C g 0) u).cell? (C g 1)=A y:=by
  rw[sF _ _ _ _ (by intro e;cases e)];exact k.a
 refine⟨?_,ś _ _ _ (by rw[G];rfl),?_,?_⟩
 . rw[sF _ _ _ _ (by intro e;cases e)];exact E
 . rw[ñ,ñ];exact k.f0
 rw[ñ,ñ];exact k.f1
def ļ.d (k:ļ W g x y)(E:h≠g)(u v:Vl):ļ ((W.setCell (C h 0) u).setCell (C h 1) v) g x y:=by
 refine⟨?_,?_,?_,?_⟩
 . rw[sF _ _ _ _ (by simp_all),sF _ _ _ _ (by simp_all)];exact k.e
 . rw[sF _ _ _ _ (by simp_all),sF _ _ _ _ (by simp_all)];exact k.a
 . rw[ñ,ñ];exact k.f0
 rw[ñ,ñ];exact k.f1
end
end Go.Proofs.YtaoikkhlnhfkfaaGreatDoor
