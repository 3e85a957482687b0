import Derived.Test.YtaoikkhlnhfkfaaGreatDoorU00
import Derived.Test.YtaoikkhlnhfkfaaGreatDoorU32
import Derived.Deep.RegionWith
import Derived.Test.YtaoikkhlnhfkfaaGreatDoorU11
set_option maxHeartbeats 4000000
set_option maxRecDepth 100000
set_option linter.defProp false
set_option linter.unusedSimpArgs false
set_option linter.unusedVariables false
namespace Go.Proofs.YtaoikkhlnhfkfaaGreatDoor
open Option renaming some->A
open Bool renaming false->ss,true->sy
open Proofs.Tryz renaming prog->sr,f31->vS,f18->v8,func31->Hp,func18->Hs
open World renaming cell?->sY
open Go renaming madeCells->sC,heap_alloc_old->Ln,Ending->Gu,World->tz,results->uK
open Code renaming wp_mono->tL
open Go.RowKit
def ZA (bo n:Nat)(cur:Array Vl)(w:M)(Gd:Nat->Vl->Prop) Bd(hn:n<=100)(hrow:w.heap[bo]? = A (.c cur 128 (0,0)))
  (hv:∀i,i<n->∃u y,cur[i*3]? = A (.q i)/\cur[i*3+1]? = A u/\cur[i*3+2]? = A y/\Oi ss u/\F7 w (Gd i) (Bd i) u y):
  Calls sr 56 #[.sl bo 0 n n] w (Zl Gd Bd n w):=by
 have Y:=qX hv;have HC:Hid (∀(j:Nat) x,cur[j]? = A x->w.cell? (C bo j)=A x):=λj x hx=>by simp[sY,hrow,hx]
 clear hv hrow;have hmk:∀w':M,(Instr.makeSlice 23 (.q n) (.q n)).run sr w'=.ok (.sl w'.heap.size 0 n n) (w'.alloc (.c (sC #[.q 0] n) 3)):=λw'=>by
  obtain⟨d,hi,hz0,hz1,hz2⟩:=ó Tryz.b;have:=Ŭ (P:=sr) w' 23 3 d (.q 0) Tryz.underlying23 hi hz0 .i64 .i64 n n N N (ot hz2) N;simpa[hz1,Value.cells]using this
 have HS0:Hid (KU ss (w.alloc (.c (sC #[.q 0] n) 3)) w.heap.size n []/\zW w (w.alloc (.c (sC #[.q 0] n) 3))):=⟨X8 ss w n,ba⟩
 go_in
 go_wp2_with fail;obtain⟨D,hD⟩:=ex w.heap.size;have HD:=qX hD;rw[hD];clear hD hmk;go_loopg[12] n (λgk i wr=>∃(k:Nat)(us:List Vl),gk+k=n/\i=.q k/\us.length=k/\(∀i d,us[i]? = A d->Gd i d)/\KU ss wr D n us/\zW w wr)
 case atStart=>exact⟨0,[],N,J,J,λi d h=>(nf h),HD.o▸HS0.o.1,HS0.o.2⟩
 case round=>
  obtain⟨k,us,hgk,rfl,hlen,hok,hdel,hb⟩:=hrel;have HB:=qV hb hlen hok hdel;clear hlen hok hdel;by_cases hkn:k<n
  .
   obtain⟨u,y,e0,W,e2,⟨d,rfl⟩,hend⟩:=Y.o k hkn;have X:wr.cell? (C bo (k*3))=A (.q k):=jf hb (HC.o _ _ e0);have X:wr.cell? (C bo (k*3+1))=A (.q d):=jf hb (HC.o _ _ W);have Y:wr.cell? (C bo (k*3+2))=A y:=jf hb (HC.o _ _ e2);clear e0 W e2;obtain⟨rfl,hg⟩|⟨q,hbad,hf⟩:=hend
   .
    have W:=qX hg;obtain⟨x,hu0⟩:=HB.o.2.2.2.E hkn;have X:(wr.alloc (.c #[.q k,.q d,.n] 128)).cell? (C D k)=A x:=jf ba hu0;have x:(wr.alloc (.c #[.q k,.q d,.n] 128)).frozen? (C D k)=false:=by
     rw[(ba:zW wr _).frozen (p:=(C D k)) HB.o.2.2.2.G];exact HB.o.2.2.2.s k
    have HEnd:Hid (KU ss ((wr.alloc (.c #[.q k,.q d,.n] 128)).setCell (C D k) (.q d)) D n (us++[.q d])/\zW w ((wr.alloc (.c #[.q k,.q d,.n] 128)).setCell (C D k) (.q d))):=
     ⟨(HB.o.2.2.2.e (Ln wr _ HB.o.2.2.2.G)).K hkn HB.o.2.1 _,(HB.o.1.alloc HB.o.1.size _).setCell (HD.o▸Nat.le_refl D) _⟩
    clear hg hu0 hb;go_wp2
    go_roundg (gk-1)
    case measure=>omega
    case rel=>
     refine⟨k+1,us++[.q d],N,nd,oy HB.o.2.1,λi x hx=>?_,HEnd.o.1,HEnd.o.2⟩;have hl:=HB.o.2.1;obtain hi|hi:=nR i us.length
     . rw[č hi]at hx;exact HB.o.2.2.1 i x hx
     rw[Ţ hi]at hx;cases hz:i-us.length with
     |zero=>
      rw[hz]at hx;cases hx
      obtain rfl:i=k:=N;exact W.o
     |succ m=>rw[hz]at hx;simp at hx
   have HBad:=qX hbad;have p:Hid (∀W,zW wr W->Ë 62 #[.q k,y] W λe w'=>∃B,e=.r (.f 119 (.pp B 0))/\zW W w'/\Bo w' (.f 119 (.pp B 0)) (q+1) k):=λW e=>UG hf k (hb.tr e)
   obtain⟨x,m,rfl⟩:=Ni hf;clear hbad hf hb;go_wp2_with (refine(p.o _ ?_).mono ?_)
   . exact ba
   rintro e e⟨B,rfl,hb3,herr⟩;have hb0:zW wr (wr.alloc (.c #[.q k,.q d,.f x m] 128)):=ba;have HR:=qY (HB.o.1.trans ((hb0.tr hb3).mono HB.o.1.size)) herr;clear hb0 hb3 herr;go_wp2
   go_ret2;refine⟨HR.o.1,_,_,J,.inl ⟨k,q+1,hkn,λj e=>?_,HBad.o,N,J,HR.o.2⟩⟩;have hl:=HB.o.2.1;exact⟨us[j],HB.o.2.2.1 j _ (ë N)⟩
  clear hb;go_wp2
  go_ret2;have hl:=HB.o.2.1;exact⟨HB.o.1,_,_,J,.inr ⟨us,D,N,HB.o.2.2.1,J,J,HB.o.2.2.2.G,HB.o.2.2.2.cells⟩⟩
def WH (bo n:Nat)(cur:Array Vl)(w:M)(Gd:Nat->Vl->Prop) Bd(hn:n<=100)(hrow:w.heap[bo]? = A (.c cur 101 (0,0)))
  (hv:∀i,i<n->∃u y,cur[i*3]? = A (.q i)/\cur[i*3+1]? = A u/\cur[i*3+2]? = A y/\Oi sy u/\F7 w (Gd i) (Bd i) u y):
  Calls sr 41 #[.sl bo 0 n n] w (Zl Gd Bd n w):=by
 have Y:=qX hv;have HC:Hid (∀(j:Nat) x,cur[j]? = A x->w.cell? (C bo j)=A x):=λj x hx=>by simp[sY,hrow,hx]
 clear hv hrow;have hmk:∀w':M,(Instr.makeSlice 31 (.q n) (.q n)).run sr w'=.ok (.sl w'.heap.size 0 n n) (w'.alloc (.c (sC #[.sn] n) 42)):=λw'=>by
  obtain⟨a,hi,hz0,hz1,hz2⟩:=ó Tryz.c;have:=Ŭ (P:=sr) w' 31 42 a (.sn) Tryz.underlying31 hi hz0 .i64 .i64 n n N N (ot hz2) N;simpa[hz1,Value.cells]using this
 have HS0:Hid (KU sy (w.alloc (.c (sC #[.sn] n) 42)) w.heap.size n []/\zW w (w.alloc (.c (sC #[.sn] n) 42))):=⟨X8 sy w n,ba⟩
 go_in
 go_wp2_with fail;obtain⟨D,hD⟩:=ex w.heap.size;have HD:=qX hD;rw[hD];clear hD hmk;go_loopg[12] n (λgk i wr=>∃(k:Nat)(us:List Vl),gk+k=n/\i=.q k/\us.length=k/\(∀i d,us[i]? = A d->Gd i d)/\KU sy wr D n us/\zW w wr)
 case atStart=>exact⟨0,[],N,J,J,λi d h=>(nf h),HD.o▸HS0.o.1,HS0.o.2⟩
 case round=>
  obtain⟨k,us,hgk,rfl,hlen,hok,hdel,hb⟩:=hrel;have HB:=qV hb hlen hok hdel;clear hlen hok hdel;by_cases hkn:k<n
  .
   obtain⟨u,y,e0,Z,e2,⟨a,m,c,rfl⟩,hend⟩:=Y.o k hkn;have X:wr.cell? (C bo (k*3))=A (.q k):=jf hb (HC.o _ _ e0);have X:wr.cell? (C bo (k*3+1))=A (.s a m c):=jf hb (HC.o _ _ Z);have Y:wr.cell? (C bo (k*3+2))=A y:=jf hb (HC.o _ _ e2);clear e0 Z e2;obtain⟨rfl,hg⟩|⟨q,hbad,hf⟩:=hend
   .
    have Y:=qX hg;obtain⟨B,hu0⟩:=HB.o.2.2.2.E hkn;have X:(wr.alloc (.c #[.q k,.s a m c,.n] 101)).cell? (C D k)=A B:=jf ba hu0;have B:(wr.alloc (.c #[.q k,.s a m c,.n] 101)).frozen? (C D k)=false:=by
     rw[(ba:zW wr _).frozen (p:=(C D k)) HB.o.2.2.2.G];exact HB.o.2.2.2.s k
    have HEnd:Hid (KU sy ((wr.alloc (.c #[.q k,.s a m c,.n] 101)).setCell (C D k) (.s a m c)) D n (us++[.s a m c])/\zW w ((wr.alloc (.c #[.q k,.s a m c,.n] 101)).setCell (C D k) (.s a m c))):=
     ⟨(HB.o.2.2.2.e (Ln wr _ HB.o.2.2.2.G)).K hkn HB.o.2.1 _,(HB.o.1.alloc HB.o.1.size _).setCell (HD.o▸Nat.le_refl D) _⟩
    clear hg hu0 hb;go_wp2
    go_roundg (gk-1)
    case measure=>omega
    case rel=>
     refine⟨k+1,us++[.s a m c],N,nd,oy HB.o.2.1,λi x hx=>?_,HEnd.o.1,HEnd.o.2⟩;have hl:=HB.o.2.1;obtain hi|hi:=nR i us.length
     . rw[č hi]at hx;exact HB.o.2.2.1 i x hx
     rw[Ţ hi]at hx;cases hz:i-us.length with
     |zero=>
      rw[hz]at hx;cases hx
      obtain rfl:i=k:=N;exact Y.o
     |succ m=>rw[hz]at hx;simp at hx
   have HBad:=qX hbad;have x:Hid (∀W,zW wr W->Ë 62 #[.q k,y] W λe w'=>∃B,e=.r (.f 119 (.pp B 0))/\zW W w'/\Bo w' (.f 119 (.pp B 0)) (q+1) k):=λW e=>UG hf k (hb.tr e)
   obtain⟨W,p,rfl⟩:=Ni hf;clear hbad hf hb;go_wp2_with (refine(x.o _ ?_).mono ?_)
   . exact ba
   rintro e e⟨B,rfl,hb3,herr⟩;have hb0:zW wr (wr.alloc (.c #[.q k,.s a m c,.f W p] 101)):=ba;have HR:=qY (HB.o.1.trans ((hb0.tr hb3).mono HB.o.1.size)) herr;clear hb0 hb3 herr;go_wp2
   go_ret2;refine⟨HR.o.1,_,_,J,.inl ⟨k,q+1,hkn,λj c=>?_,HBad.o,N,J,HR.o.2⟩⟩;have hl:=HB.o.2.1;exact⟨us[j],HB.o.2.2.1 j _ (ë N)⟩
  clear hb;go_wp2
  go_ret2;have hl:=HB.o.2.1;exact⟨HB.o.1,_,_,J,.inr ⟨us,D,N,HB.o.2.2.1,J,J,HB.o.2.2.2.G,HB.o.2.2.2.cells⟩⟩
def Te q(bo n:Nat)(cur:Array Vl)(w:M)(E:Nat->Vl->Prop) G(U:n<=100)(O:w.heap[bo]? = A (.c cur (Č q) (0,0)))
  (I:∀i,i<n->∃u y,cur[i*3]? = A (.q i)/\cur[i*3+1]? = A u/\cur[i*3+2]? = A y/\Oi q u/\F7 w (E i) (G i) u y):
  Ë (mi q) #[.sl bo 0 n n] w (Zl E G n w):=by
 cases q
 . exact ZA bo n cur w E G U O I
 exact WH bo n cur w E G U O I
open Go.Conc Go.Conc.Lib Go.ConcR.Gen
open Go.ConcR (KK WgAt stA smA rd wr mk)
variable {w' v:M}{y x:Vl}{sd:Gu ->M ->Prop}{b₀:Frame}{a₀:Act}{ops:aO}{i:Nat}{rest:lN}{kk:lM}
def Am.e{w:M}(h:zW w w'):Am w w':=⟨h.size,h.block,h.os,h.output⟩
def Am.d{w:M}(h:Am w w') t:Am w (Go.Proofs.YtaoikkhlnhfkfaaGreatDoor.À w' t):=⟨h.h,h.g,h.p⟩
def Am.a{H}{v' w w1:M}(h:Bp H v w)(G:Bp H v' w1)(E:Q9 H w w1)(O:Am v v'):Am w w1:=by
 refine⟨h.h▸G.h▸O.h,λb U=>?_,E.2.2⟩;by_cases I:H b
 . exact E.2.1 b I
 exact h.d G E O.g U I
def Bp.a{H}{w:M}(h:Bp H v w){b cap s r}{O:Array Vl}{I tm}(G:v.heap[b]? = A (.chan cap O I s r tm))(Y:¬H b):w.heap[b]? = A (.chan cap O I s r tm):=by
 obtain⟨t,Z,U⟩:=h;obtain⟨E,-⟩|⟨o,o',-,E,V⟩:=U.m b Y
 . exact(E).trans G
 have E:v.heap[b]? = A o':=E;rw[E]at G;obtain⟨_,_,-,rfl⟩|⟨_,_,-,rfl⟩:=V<;>cases G
def wT (n wks:Int)(E:Vl)(ba:Nat):Act:=⟨#[.q n,.q wks,E,uu,uu,.pp ba 0,.sn,.n,uu,uu,uu,uu,uu,uu,uu,uu,uu,uu,uu,uu,uu,uu,uu,uu,uu,uu,uu,uu,uu,uu,uu],[]⟩
def rB (n wks:Int)(E:Vl)(ba I br G cr:Nat):Act:=⟨#[.q n,.q wks,E,uu,uu,.pp ba 0,.sn,.n,.pp I 0,.pp br 0,uu,uu,.chan (A G),.chan (A cr),uu,uu,uu,uu,uu,uu,uu,uu,uu,uu,uu,uu,uu,uu,uu,uu,uu],[]⟩
def zR (H:Nat->Prop)(n wks:Int)(I:Vl)(ba:Nat)(w:M)(e:Exit)(a:Act)(v':M):=e=.normal/\∃v,Bp H v w/\Am v v'/\∃E cr G br:Nat,a=rB n wks I ba G br E cr/\E≠cr/\w.heap.size<=E/\w.heap.size<=cr/\
 v'.heap[E]? = A (.chan 0 #[] ss 0 0 ss)/\v'.heap[cr]? = A (.chan 0 #[] ss 0 0 ss)/\v'.cell? (C G 0)=A (.chan (A E))/\v'.cell? (C br 0)=A (.chan (A cr))
def Mh.E{H}{w:M}{k}(h:Mh w k y)(G:DF H w)(E:Bp H v w):Mh v k y:=by
 obtain⟨I,Y,O,rfl|⟨V,rfl,U⟩⟩:=h
 . exact⟨I,_,O.E G E,.inl J⟩
 exact⟨I,_,O.E G E,.inr ⟨V,J,G.E E U sm sm⟩⟩
def F7.E{H}{w:M}{E:Vl->Prop}{G}{u:Vl}(h:F7 w E G u y)(U:DF H w)(I:Bp H v w):F7 v E G u y:=by
 obtain h|⟨k,V,O⟩:=h
 . exact .inl h
 exact .inr ⟨k,V,O.E U I⟩
def NL.G{H}{Z:Nat->Vl->Prop}{aa n}{w:M}(h:NL Z aa n x y v)(E:Bp H v w):NL Z aa n x y w:=by
 obtain⟨i,c,U,I,Y,O,V,G⟩|⟨d,D,U,I,Y,O,V,G⟩:=h
 . exact .inl ⟨i,c,U,I,Y,O,V,G.G E⟩
 exact .inr ⟨d,D,U,I,Y,O,E.h▸V,λi d c=>E.E (G i d c)⟩
def NL.d{G:Nat->Vl->Prop}{I n}(h:NL G I n x y v) t:NL G I n x y (Go.Proofs.YtaoikkhlnhfkfaaGreatDoor.À v t):=by
 obtain⟨i,c,V,O,Z,U,Y,E⟩|h:=h
 . exact .inl ⟨i,c,V,O,Z,U,Y,E.code.u λ_=>J,E.a,E.b⟩
 exact .inr h
def NL.l{V U:Nat->Vl->Prop}{Y n}{w:M}(h:NL V Y n x y w)(Z:∀i u,V i u->U i u):NL U Y n x y w:=by
 obtain⟨i,c,G,E,O,W,S,X⟩|⟨T,D,G,E,O⟩:=h
 . exact .inl ⟨i,c,G,λj c=>(by obtain⟨u,I⟩:=E j c;exact⟨u,Z j u I⟩),O,W,S,X⟩
 exact .inr ⟨T,D,G,λi u I=>Z i u (E i u I),O⟩
def zU (H:Nat->Prop)(G:Nat->Vl->Prop)(E:Nat->Int->Prop)(n:Nat)(w:M)(e:Exit)(a:Act)(v':M):=e=.ret/\a.defers=[]/\∃v,Bp H v w/\Am v v'/\∃x y,a.tmps.getD 6 uu=x/\a.tmps.getD 7 uu=y/\NL G E n x y v'
section
variable {H:Nat->Prop}{q:Bool}{k:OO}{cs:List Frame}{w:tz}{Post:Value->tz->Prop}{n bl bp:Nat}{wks:Int}
def mZ q z(ob:oA) x(v:M)(E:Ë (mi q) #[.s ob z.n z.n] v sd)(G:∀e v',sd e v'->∃x y,e=.r (.t #[x,y])):(Q7 (đ sr q)).wp sr (λe a v'=>e=.ret/\a.defers=[]/\∃x y,a.tmps.getD 6 uu=x/\a.tmps.getD 7 uu=y/\sd (.r (.t #[x,y])) v') ⟨W9 z x (.s ob z.n z.n) (.s ob z.n z.n) (.t #[]),[]⟩ v:=by
 have O:=qX E;have Y:=qX G;clear E G;cases q
 all_goals
  simp only[Q7,UQ,KN,Kg,W9,È,Ak,OU,OT,vS,v8,é];go_wp2_with (apply O.o.mono)
  intro e U I;obtain⟨Z,O,rfl⟩:=Y.o e U I;have V:=qX I;go_wp2_with fail;exact V.o
def TA z(ob:oA) x(v:M)(E:Ë (mi ss) #[.s ob z.n z.n] v sd)(G:∀e v',sd e v'->∃x y,e=.r (.t #[x,y])):(Q7 vS).wp sr (λe a v'=>e=.ret/\a.defers=[]/\∃x y,a.tmps.getD 6 uu=x/\a.tmps.getD 7 uu=y/\sd (.r (.t #[x,y])) v') ⟨W9 z x (.s ob z.n z.n) (.s ob z.n z.n) (.t #[]),[]⟩ v:=by
 have:=mZ _ z ob x v E G;exact this
def VS z(ob:oA) x(v:M)(E:Ë (mi sy) #[.s ob z.n z.n] v sd)(G:∀e v',sd e v'->∃x y,e=.r (.t #[x,y])):(Q7 v8).wp sr (λe a v'=>e=.ret/\a.defers=[]/\∃x y,a.tmps.getD 6 uu=x/\a.tmps.getD 7 uu=y/\sd (.r (.t #[x,y])) v') ⟨W9 z x (.s ob z.n z.n) (.s ob z.n z.n) (.t #[]),[]⟩ v:=by
 have:=mZ _ z ob x v E G;exact this
def bU (h:MS H ss n bl bp k w)(al:Nat->M->Vl->Prop) aq(b0:∀i u w1 w2,Am w1 w2->al i w1 u->al i w2 u)(bw:∀i v w',i<n->Am w w'->k.B i v w'->∃u y,v=.t #[u,y]/\Oi ss u/\F7 w' (al i w') (aq i) u y)(ci:1<=wks/\wks<=16)      
  (b4:∀(aL) x y w',Am w w'->DF aL w'->(∀b,aL b->H b\/w.heap.size<=b)->NL (λi=>al i w') aq n x y w'->AO sr Post aL (G (b₀.at (a₀.put ((ops[i]?).bind (·.dst)) (.t #[x,y])) (.inRegion ops rest::kk)) cs) w'):
  AO sr Post H (IE sr ss n wks (ē ss bl bp) (b₀.at a₀ (.inRegion ops (i::rest)::kk)::cs)) w:=by
 have b':=h.l;unfold IE;simp only[OU];have d:È vS=.seq (A7 (È vS)) (.seq (TN vS) (.seq (A7 (Ak (Ak (È vS)))) (Kg vS))):=rfl;rw[d]
 iterate 2 refine AO.k ?_
 refine AO.h (p:=Di) D6 (Q:=λx v'=>∃v,Bp H v w/\x=.pp w.heap.size 0/\∃t,v'=v.alloc (.c #[ē ss bl bp] t (0,0))) J J dc J h.d.y (λv E=>?_) ?_
 .
  refine⟨.pp w.heap.size 0,?W,?hrun,v,E,J,?t,?hW⟩
  case hrun=>
   rw[E.h];unfold ē;go_simp
   rfl
  case hW=>rfl
 rintro x d w1⟨v,E,rfl,t,rfl⟩d e;have I:Am w w1:=Am.l E d e ba;have V:w1.cell? (C w.heap.size 0)=A (ē ss bl bp):=d.E (by rw[E.h];unfold sY;rw[Ù];rfl);clear E d e v;have d:=h.later I;refine AO.v (.sn) ?_
 refine AO.v .n ?_
 iterate 2 refine AO.k ?_
 refine AO.g (p:=Di) (a:=wT n wks (ē ss bl bp) w.heap.size) D6 (Q:=zR H n wks (ē ss bl bp) w.heap.size w1) ⟨⟨_,Hp⟩,J,J⟩ td d.d.y (λv E=>?_) (λe a v' P=>.inl P.1) (λe a v' t⟨T,v,S,Y,U,j,Z,R,X⟩=>⟨T,v,S,Y.d t,U,j,Z,R,X⟩) ?_ (λa' todo v' w' P=>nf P.1)
 .
  refine tL ?_ (OU▸dh ss n wks (ē ss bl bp) w.heap.size v)
  rintro e a v'⟨T,U,j,Z,R,S,Y,X,W,se,r7⟩;exact⟨T,v,E,Am.e Y,U,j,Z,R,S,X,E.h▸W,E.h▸se,r7⟩
 rintro a' v' w2⟨-,v,E,K,U,j,Z,R,rfl,S,t,F,r9,m,D,L⟩a se;have e:=Am.a E a se K;have r7:∀b,w1.heap.size<=b->¬H b:=λb O O=>by
  have:=d.d.G O;omega
 have P:=a.a r9 (r7 _ t);have O:=a.a m (r7 _ F);have r7:=a.E D;have T:=a.E L;clear E K r9 m D L a se v v';have D:=e.E V;obtain⟨m,a⟩:∃m:Nat,(if (n:Int)<wks then(n:Int)else wks)=(m:Int):=⟨(if (n:Int)<wks then(n:Int)else wks).toNat,by split<;>omega⟩
 have K:m<=16:=by split at a<;>omega
 have L:0<n->0<m:=λE=>by split at a<;>omega
 have r9:=I.G e;have E:=aQ (wks:=wks) d e K L S t F P O r7 T D
 iterate 2 refine AO.k ?_
 have D:AO sr Post H (Ov sr ss ⟨⟨w2.heap.size,Z,w.heap.size,R,U,j,bl,bp⟩,n,m,wks,ē ss bl bp⟩ (b₀.at a₀ (.inRegion ops (i::rest)::kk)::cs)) w2:=by
  intro d;refine pg (E.B d) a λx d cur w' V=>?_
  have F:Am w w':=by
   refine⟨rX r9.h (ŕ V.I),λb O=>?_,V.p.1.trans r9.p.1,V.p.2.trans r9.p.2⟩;have a:=I.h;have a:=r9.h;have e:b≠U:=N
   have a:b≠j:=N
   exact(V.g b (show b<w2.heap.size by omega) e a).trans (r9.g b O)
  have L:DF (λb=>H b\/b=w2.heap.size) w':=by
   rintro b (O|rfl)
   . exact h.d.later F b O
   exact⟨0,0,V.a⟩
  have K:¬(H d\/d=w2.heap.size):=λO=>by
   obtain⟨a,e,I⟩:=L d O;have I:w'.heap[d]? = A (.c #[.int .u64 a,.int .u32 e] 98 (0,0)):=I;rw[V.row]at I;injection I with I
   injection I with _ I _
   exact absurd I dc
  have key:AO sr Post (λb=>H b\/b=w2.heap.size) (P9 sr ss ⟨⟨w2.heap.size,Z,w.heap.size,R,U,j,bl,bp⟩,n,m,wks,ē ss bl bp⟩ (sa d 0) x (b₀.at a₀ (.inRegion ops (i::rest)::kk)::cs)) w':=by
   unfold P9;simp only[OU];refine AO.k ?_
   refine AO.g (p:=Di) D6 (Q:=zU (λb=>H b\/b=w2.heap.size) (λi=>al i w') aq n w') ⟨⟨_,Hp⟩,J,J⟩ td L.y (λv E=>?_) (λe a v' P=>.inr P.1) (λe a v' t⟨T,S,v,Y,X,x,y,W,se,r7⟩=>⟨T,S,v,Y,X.d t,x,y,W,se,r7.d t⟩) (λa' v' w' P=>nf P.1) ?_
   .
    refine tL ?_ (TA ⟨⟨w2.heap.size,Z,w.heap.size,R,U,j,bl,bp⟩,n,m,wks,ē ss bl bp⟩ (sa d 0) x v (Te ss d n cur v (λi=>al i w') aq b' (E.row K V.row sm) λj t=>?_) λe v' I=>?_)
    .
     rintro e a v'⟨T,S,e,d,Y,X,W⟩;obtain⟨W,p,m,a,se⟩:=W;cases a
     exact⟨T,S,v,E,Am.e W,e,d,Y,X,se⟩
    .
     obtain⟨u,y,m,a,K,d⟩:=V.e j t;obtain⟨e,e,e,p,r7⟩:=bw j _ w' t F d;cases e
     exact⟨u,y,m,a,K,p,r7.E L E⟩
    obtain⟨-,p,m,a,-⟩:=I;exact⟨p,m,a⟩
   rintro a' todo v' j⟨-,r7,v,E,K,e,d,t,m,I⟩p se;have a:=Am.a E p se K;refine AO.e (fn:=vS) (v:=.t #[e,d]) J r7 Hp (λw=>?_) (λw=>?_) ?_
   . simp only[Η]at t m;simp[uK,vS,t,m]
   . simp[uK,vS]
   exact b4 _ e d j (F.G a) (L.later a) (λb O=>IP id (λe=>rj e r9.h) O) ((I.G p).l λi u=>b0 i u w' j a)
  exact key.d
 simp only[Ov,OU]at D;exact D
def fO (h:MS H sy n bl bp k w)(al:Nat->M->Vl->Prop) aq(b0:∀i u w1 w2,Am w1 w2->al i w1 u->al i w2 u)(bw:∀i v w',i<n->Am w w'->k.B i v w'->∃u y,v=.t #[u,y]/\Oi sy u/\F7 w' (al i w') (aq i) u y)(ci:1<=wks/\wks<=16)      
  (b4:∀(aL) x y w',Am w w'->DF aL w'->(∀b,aL b->H b\/w.heap.size<=b)->NL (λi=>al i w') aq n x y w'->AO sr Post aL (G (b₀.at (a₀.put ((ops[i]?).bind (·.dst)) (.t #[x,y])) (.inRegion ops rest::kk)) cs) w'):
  AO sr Post H (IE sr sy n wks (ē sy bl bp) (b₀.at a₀ (.inRegion ops (i::rest)::kk)::cs)) w:=by
 have b':=h.l;unfold IE;simp only[OT];have d:È v8=.seq (A7 (È v8)) (.seq (TN v8) (.seq (A7 (Ak (Ak (È v8)))) (Kg v8))):=rfl;rw[d]
 iterate 2 refine AO.k ?_
 refine AO.h (p:=Di) D6 (Q:=λx v'=>∃v,Bp H v w/\x=.pp w.heap.size 0/\∃t,v'=v.alloc (.c #[ē sy bl bp] t (0,0))) J J dc J h.d.y (λv E=>?_) ?_
 .
  refine⟨.pp w.heap.size 0,?W,?hrun,v,E,J,?t,?hW⟩
  case hrun=>
   rw[E.h];unfold ē;go_simp
   rfl
  case hW=>rfl
 rintro x d w1⟨v,E,rfl,t,rfl⟩d e;have I:Am w w1:=Am.l E d e ba;have V:w1.cell? (C w.heap.size 0)=A (ē sy bl bp):=d.E (by rw[E.h];unfold sY;rw[Ù];rfl);clear E d e v;have d:=h.later I;refine AO.v (.sn) ?_
 refine AO.v .n ?_
 iterate 2 refine AO.k ?_
 refine AO.g (p:=Di) (a:=wT n wks (ē sy bl bp) w.heap.size) D6 (Q:=zR H n wks (ē sy bl bp) w.heap.size w1) ⟨⟨_,Hs⟩,J,J⟩ td d.d.y (λv E=>?_) (λe a v' P=>.inl P.1) (λe a v' t⟨T,v,S,Y,U,j,Z,R,X⟩=>⟨T,v,S,Y.d t,U,j,Z,R,X⟩) ?_ (λa' todo v' w' P=>nf P.1)
 .
  refine tL ?_ (OT▸dh sy n wks (ē sy bl bp) w.heap.size v)
  rintro e a v'⟨T,U,j,Z,R,S,Y,X,W,se,r7⟩;exact⟨T,v,E,Am.e Y,U,j,Z,R,S,X,E.h▸W,E.h▸se,r7⟩
 rintro a' v' w2⟨-,v,E,K,U,j,Z,R,rfl,S,t,F,r9,m,D,L⟩a se;have e:=Am.a E a se K;have r7:∀b,w1.heap.size<=b->¬H b:=λb O O=>by
  have:=d.d.G O;omega
 have P:=a.a r9 (r7 _ t);have O:=a.a m (r7 _ F);have r7:=a.E D;have T:=a.E L;clear E K r9 m D L a se v v';have D:=e.E V;obtain⟨m,a⟩:∃m:Nat,(if (n:Int)<wks then(n:Int)else wks)=(m:Int):=⟨(if (n:Int)<wks then(n:Int)else wks).toNat,by split<;>omega⟩
 have K:m<=16:=by split at a<;>omega
 have L:0<n->0<m:=λE=>by split at a<;>omega
 have r9:=I.G e;have E:=aQ (wks:=wks) d e K L S t F P O r7 T D
 iterate 2 refine AO.k ?_
 have D:AO sr Post H (Ov sr sy ⟨⟨w2.heap.size,Z,w.heap.size,R,U,j,bl,bp⟩,n,m,wks,ē sy bl bp⟩ (b₀.at a₀ (.inRegion ops (i::rest)::kk)::cs)) w2:=by
  intro d;refine pg (E.B d) a λx d cur w' V=>?_
  have F:Am w w':=by
   refine⟨rX r9.h (ŕ V.I),λb O=>?_,V.p.1.trans r9.p.1,V.p.2.trans r9.p.2⟩;have a:=I.h;have a:=r9.h;have e:b≠U:=N
   have a:b≠j:=N
   exact(V.g b (show b<w2.heap.size by omega) e a).trans (r9.g b O)
  have L:DF (λb=>H b\/b=w2.heap.size) w':=by
   rintro b (O|rfl)
   . exact h.d.later F b O
   exact⟨0,0,V.a⟩
  have K:¬(H d\/d=w2.heap.size):=λO=>by
   obtain⟨a,e,I⟩:=L d O;have I:w'.heap[d]? = A (.c #[.int .u64 a,.int .u32 e] 98 (0,0)):=I;rw[V.row]at I;injection I with I
   injection I with _ I _
   exact absurd I dc
  have key:AO sr Post (λb=>H b\/b=w2.heap.size) (P9 sr sy ⟨⟨w2.heap.size,Z,w.heap.size,R,U,j,bl,bp⟩,n,m,wks,ē sy bl bp⟩ (sa d 0) x (b₀.at a₀ (.inRegion ops (i::rest)::kk)::cs)) w':=by
   unfold P9;simp only[OT];refine AO.k ?_
   refine AO.g (p:=Di) D6 (Q:=zU (λb=>H b\/b=w2.heap.size) (λi=>al i w') aq n w') ⟨⟨_,Hs⟩,J,J⟩ td L.y (λv E=>?_) (λe a v' P=>.inr P.1) (λe a v' t⟨T,S,v,Y,X,x,y,W,se,r7⟩=>⟨T,S,v,Y,X.d t,x,y,W,se,r7.d t⟩) (λa' v' w' P=>nf P.1) ?_
   .
    refine tL ?_ (VS ⟨⟨w2.heap.size,Z,w.heap.size,R,U,j,bl,bp⟩,n,m,wks,ē sy bl bp⟩ (sa d 0) x v (Te sy d n cur v (λi=>al i w') aq b' (E.row K V.row sm) λj t=>?_) λe v' I=>?_)
    .
     rintro e a v'⟨T,S,e,d,Y,X,W⟩;obtain⟨W,p,m,a,se⟩:=W;cases a
     exact⟨T,S,v,E,Am.e W,e,d,Y,X,se⟩
    .
     obtain⟨u,y,m,a,K,d⟩:=V.e j t;obtain⟨e,e,e,p,r7⟩:=bw j _ w' t F d;cases e
     exact⟨u,y,m,a,K,p,r7.E L E⟩
    obtain⟨-,p,m,a,-⟩:=I;exact⟨p,m,a⟩
   rintro a' todo v' j⟨-,r7,v,E,K,e,d,t,m,I⟩p se;have a:=Am.a E p se K;refine AO.e (fn:=v8) (v:=.t #[e,d]) J r7 Hs (λw=>?_) (λw=>?_) ?_
   . simp only[Η]at t m;simp[uK,v8,t,m]
   . simp[uK,v8]
   exact b4 _ e d j (F.G a) (L.later a) (λb O=>IP id (λe=>rj e r9.h) O) ((I.G p).l λi u=>b0 i u w' j a)
  exact key.d
 simp only[Ov]at D;exact D
def VU (h:MS H q n bl bp k w)(E:Nat->M->Vl->Prop) I(U:∀i u w1 w2,Am w1 w2->E i w1 u->E i w2 u)(Y:∀i v w',i<n->Am w w'->k.B i v w'->∃u y,v=.t #[u,y]/\Oi q u/\F7 w' (E i w') (I i) u y)(V:1<=wks/\wks<=16)      
  (Z:∀(O) x y w',Am w w'->DF O w'->(∀b,O b->H b\/w.heap.size<=b)->NL (λi=>E i w') I n x y w'->AO sr Post O (G (b₀.at (a₀.put ((ops[i]?).bind (·.dst)) (.t #[x,y])) (.inRegion ops rest::kk)) cs) w'):
  AO sr Post H (IE sr q n wks (ē q bl bp) (b₀.at a₀ (.inRegion ops (i::rest)::kk)::cs)) w:=by
 cases q
 . exact bU h E I U Y V Z
 exact fO h E I U Y V Z
end
def dK Y E B off n cap i per(a:oA) len I(w:M)(R:Vl->Vl->M->Prop)
  (ab:w.cell? (C Y 0)=A (.sl B off n cap))(aa:w.cell? (C E 0)=A (.q per))(aj:i<n)(ai:w.cell? (C B (off+i))=A (.s a len I))
  (V:∀W,zW w W->Ë 33 #[.s a len I,.q per] W λe w'=>zW W w'/\∃x y,e=.r (.t #[x,y])/\R x y w'):
  Calls sr 32 #[.q i,.pp Y 0,.pp E 0] w λe w'=>zW w w'/\∃x y,e=.r (.t #[x,y])/\R x y w':=by
 have G:decide ((i:Int)<0)=false:=ĕ N;have G:decide ((i:Int)<(n:Int))=true:=ď N;have Z:=qX V;clear V;go_in
 go_wp2_with fail;go_region_with (first
  |(go_simp;go_at_call 33;go_must (refine(Z.o _ ?_).mono ?_;exact br.drew;rintro e Z⟨U,x,y,rfl,G⟩;have O:Hid (Below w.drew.z w.drew Z/\R x y Z):=⟨U,G⟩;clear U G))
  |fail)
 all_goals (go_wp2_with fail)
 all_goals (go_ret2;exact⟨(ì br 1).trans (O.o.1.mono lr),x,y,J,O.o.2⟩)
def He (f:Nat):=f==32 ||aM f
def rm:[32,33,57,58,59,61,102,103,104,105,106,107,135,136].all (jd sr (ß sr He CY))=true:=td
def UZ:Es sr He CY:=λf G=>by
 obtain⟨f,O,E,I⟩:=mR rm G;exact⟨f,O,E,.inl I⟩
variable {L:Nat}{r s:Ô}{F:Nat ->Prop}{x w1:M}{cs:lF}
def uh (G U:Nat->Bool)(O:Gu->M->Prop)(v:Vl)(w:M):=∃(x:M)(r:Ô)(L:Nat)(E:Vl)(T t I:Nat->Question->Nat),
 O (.r E) (À x T)/\VR (Ė G) r E v/\WR (Ė G) L r (À x t) (À w I)/\∀g,U g=sy->r.rel g g
section
variable {P:Program}{Post:Value->tz->Prop}{H R:Nat->Prop}{Fb Gb:Nat->Bool}{f:FuncId}{args:Array Value}{w w0:tz}{PostC:Gu->tz->Prop}
def uV{n e}(O:∀a b,r.rel a b->¬H b/\b<n)(h:jU L r e):Qx H n e:=by
 obtain⟨a,b,o,p,I,rfl⟩|⟨a,b,o,p,-,I,rfl⟩|⟨a,b,x,-,I,rfl⟩|rfl|⟨g,rfl⟩:=h
 . exact⟨λc E=>by cases E;exact O a b I,λc E=>(nf E),sm,λm G=>(nf G)⟩
 . exact⟨λc E=>by cases E;exact O a b I,λc E=>(nf E),sm,λm G=>(nf G)⟩
 . exact⟨λc E=>(nf E),λc E=>by cases E;exact O a b I,sm,λm G=>(nf G)⟩
 . exact⟨λc E=>(nf E),λc E=>(nf E),sm,λm G=>by cases G;exact .inl J⟩
 exact⟨λc E=>(nf E),λc E=>(nf E),sm,λm G=>by cases G;exact .inr ⟨g,J⟩⟩
def XD (R:Nat->Prop)(L:Nat)(r:Ô):=∀a b,r.rel a b->a<L->R a
def XD.e{w w':M}(h:XD R L r)(O:ĩ L r s w w'):XD R L s:=λa b G I=>by
 obtain E|⟨E,-,-⟩:=O.l a b G
 . exact h a b E I
 omega
def cB{w2:M}{O}(U:WR F w.heap.size r x (À w1 O))(E:Am w w1)(G:ĩ w.heap.size r s w1 w2):Am w w2:=by
 refine⟨rX E.h G.h,λb I=>?_,G.x.trans E.p.1,G.i.trans E.p.2⟩;rw[G.d b (rZ I E.h) λa V Y=>oe (U.g a b Y V)];exact E.g b I
def nU (I:WR F w.heap.size r x w1)(Z:XD R w.heap.size r)(V:∀b,R b->¬H b)(Y:∀b,H b->b<w.heap.size):∀a b,r.rel a b->¬H b/\b<w1.heap.size:=λa b E=>by
 obtain⟨o,o',o,U,-⟩:=I.e a b E;refine⟨λO=>?_,AZ U⟩;obtain G|G:=nR a w.heap.size
 . rw[I.d a b E G]at O;exact V a (Z a b E G) O
 have:=I.g a b E G;have:=Y b O;omega
def AO.goes{Y:lF}{c}(bh:Y=c::cs)(a0:Es P Fb Gb)(a4:P.globals.size<=w.heap.size)(a5:Ď P f args w0 PostC)(aN:Lj P Fb Gb w.heap.size (Ú P f args w0))(a7:∀b,R b->¬H b)(a1:∀b,H b->b<w.heap.size)
  (bd:∀v w',uh Fb Gb PostC v w'->Am w w'->AO P Post H (G (c.finish v) cs) w'):
  ∀x,Acc (λy x=>Ez P x y) x->∀r fr cs' w1,FC P Fb Gb w.heap.size (Ú P f args w0) Y x r fr cs' w1->XD R w.heap.size r->Am w w1->AO P Post H (G fr cs') w1:=by
 intro x a;induction a with
 |
  intro x _ bv=>
  intro r fr cs' w1 O r7 a S k i t q B Z n m h;have W:∀d,FC P Fb Gb w.z (Ú P f args w0) Y x r fr cs' ((w1.at S).at d):=λd=>O.k lr λ_ _ _=>J
  have j:∀d,Am w ((w1.at S).at d):=λd=>⟨a.h,a.g,a.p⟩
  by_cases l:DV x
  .
   refine GZ (P:=P) (Shun:=KM H) J (λa' w' I=>I<=w'.z/\∃v,uh Fb Gb PostC v w'/\Am w w'/\a'=G (c.finish v) cs) ?_ _ k (w1.at S) i t q B J Z n m λd=>?_
   . rintro K a' w' r8 se q' I⟨o,v,e,a,rfl⟩u F z;exact(bd v w' e a).d K r8 se q' I u F z o
   obtain⟨p,r8,a,e,v,v',T,g,E,X,evs,L,sd,Q,V,r9,⟨g,u,o⟩,I,z⟩:=(W d).q a0 a4 a5 aN l;subst p;subst bh;obtain⟨bk,bl,s⟩:=(W d).b;have D:=cB s (j d) I;refine⟨_,X,_,X.z,PO r8 a e sd Q V,λe p=>?_,rX h I.h,lr,v',⟨_,E,_,v,T,g,u,L,r9,o,λg Z=>I.t _ _ (O.d g Z)⟩,D,J⟩;exact Qr (uV (λa b g=>nU (w1:=À X u) o (r7.e I) a7 a1 a b g) (z e (mem_seen p)))
  refine GZ (P:=P) (Shun:=KM H) J (λa' w' I=>I<=w'.z/\∃y E O U,Ez P x y/\FC P Fb Gb w.z (Ú P f args w0) Y y E O U w'/\XD R w.z E/\Am w w'/\a'=G O U) ?_ _ k (w1.at S) i t q B J Z n m λd=>?_
  . rintro K a' w' r8 se q' I⟨o,y,E,O,U,e,g,i,a,rfl⟩u F z;exact(bv y e E O U w' g i a).d K r8 se q' I u F z o
  obtain⟨y,E,O,U,X,evs,L,sd,Q,V,r9⟩:=(W d).u a0 a4 a5 aN l sy;obtain⟨bk,bl,s⟩:=(W d).b;obtain⟨a,i,k⟩:=Q.b;have D:=cB s (j d) V;refine⟨_,X,_,X.z,L,λe p=>?_,rX h V.h,lr,y,E,O,U,sd,Q,r7.e V,D,J⟩;exact Qr (uV (λa b g=>nU (w1:=À X i) k (r7.e V) a7 a1 a b g) (r9 e (mem_seen p)))
def AO.a{b:Frame}{a:Act}{k:lM}{ops:aO}{i}{rest:lN}{o}{f:fI}{fn c E}{V:Array tI}{argv:Array Vl}(U:ops[i]? = A o)(I:Region.wanted o (yielded ops a.tmps)=sy)(O:b.kind≠.early)(Y:o.op=.call {callee:=.value (.func f),args:=E,argTypes:=V})
  (hf:P.funcs[f]? = A fn)(hname:(fn.name== "runtime.NumGoroutine")=ss)(hb:fn.body=A c)(hargs:E.map a.eval=argv)
  (h:AO P Post H (G (Frame.enter P f argv .normal) (b.at a (.inRegion ops (i::rest)::k)::cs)) w):=
 AO.call U I O Y hf hname hb (hargs▸enter_at argv hf hb▸h)
end
end Go.Proofs.YtaoikkhlnhfkfaaGreatDoor
