import Derived.Test.YtaoikkhlnhfkfaaGreatDoorU00
import Derived.Test.YtaoikkhlnhfkfaaGreatDoorU13
import Derived.Deep.Cut
set_option maxHeartbeats 8000000
set_option maxRecDepth 100000
set_option linter.defProp false
set_option linter.unusedSimpArgs false
set_option linter.unusedVariables false
namespace Go.Proofs.YtaoikkhlnhfkfaaGreatDoor
open RowKit renaming Hid->sE,intOf->BE
open Option renaming some->A,none->sA
open World.ownsRow renaming lt->xK
open Go.RowKit
def G9.s{w:M}{g m}(h:G9 w g m) x:G9 (w.setCell (C g 4) (.q x)) g ⟨m.b,m.d,m.j,m.a,x⟩:=
 ⟨by rw[sF _ _ _ _ sm];exact h.e,by rw[sF _ _ _ _ sm];exact h.a,by rw[sF _ _ _ _ sm];exact h.k,by rw[sF _ _ _ _ sm];exact h.l,ŏ _ _ _ h.b,
  rj ñ h.f2,rj ñ h.f3,rj ñ h.f4⟩
def G9.h{w:M}{g m}(h:G9 w g m) x:G9 (w.setCell (C g 2) (.q x)) g ⟨m.b,m.d,x,m.a,m.last⟩:=
 ⟨by rw[sF _ _ _ _ sm];exact h.e,by rw[sF _ _ _ _ sm];exact h.a,ŏ _ _ _ h.k,by rw[sF _ _ _ _ sm];exact h.l,by rw[sF _ _ _ _ sm];exact h.b,
  rj ñ h.f2,rj ñ h.f3,rj ñ h.f4⟩
def vU g b m t n(w:M)(ai:G9 w g m)(I:b.r)(G:ě b m)(aq:EC b.last t n=0):Calls Tryz.prog 46 #[.pp g 0,.q t,.q n] w λe w'=>e=.r (.bool (decide (n*1000<=b.e t)))/\G9 w' g (m.g t n)/\Ç (λk=>k=g) w w':=by
 obtain⟨v,v,v,v,V⟩:=Hu.1 aq;have U:=G.e I V;have E:=I.lev_bd V;have E:=I.m1;have E:=qX ai;have se:=qX (ai.s t);have H:sE (qW 93 #[.pp g 0,.q t] (w.setCell (C g 4) (.q t)) (.q (b.e t))):=let E:=G.h;let E:=G.d;let E:=G.last;let E:=G.a;let E:=I.m0;let E:=I.m1;let E:=I.r0;let E:=I.r1;let Y:=se.o;SA g m.b m.d m.j m.a t _ Y.e Y.a Y.k Y.l N N N N G.l G.k G.p N v _ (U▸rfl)
 by_cases P:n*1000<=b.e t
 .
  have L:sE (m.g t n=⟨m.b,m.d,b.e t-1000*n,t,t⟩):=by show _=_;unfold Rb.g;rw[U,Ä N]
  rw[show decide (n*1000<=b.e t)=true by simpa using P];generalize b.e t=v at*;have F:¬v<1000*n:=N;have⟨T,Z,R,X,Y,r9,Q,W⟩:=ai;clear I aq G U V P;go_in
  go_wp21;apply H.o.mono
  rintro e K⟨rfl,O⟩;have r7:sE (Ç (λk=>k=g) w K):=(Ç.g (S:=λk=>k=g) (Ç.I ..) J _).G (.e O);let v:=se.o.d O;let E:=qX v;clear T Z R X Y r9 Q W;obtain⟨T,Z,R,X,Y,r9,Q,W⟩:=v;clear O;go_wp2
  go_ret;refine⟨J,?_,?_⟩
  .
   rw[L.o];exact⟨by rw[sF _ _ _ _ sm];exact ((E.o.h _)).e,by rw[sF _ _ _ _ sm];exact ((E.o.h _)).a,by rw[sF _ _ _ _ sm];exact ((E.o.h _)).k,ŏ _ _ _ ((E.o.h _)).l,by rw[sF _ _ _ _ sm];exact ((E.o.h _)).b,
        by rw[ñ];exact ((E.o.h _)).f2,by rw[ñ];exact ((E.o.h _)).f3,by rw[ñ];exact ((E.o.h _)).f4⟩
  exact Ç.g (S:=λk=>k=g) (Ç.g (S:=λk=>k=g) r7.o J _) J _
 have L:sE (m.g t n=⟨m.b,m.d,m.j,m.a,t⟩):=by show _=_;unfold Rb.g;rw[U,Æ N]
 rw[show decide (n*1000<=b.e t)=false by simpa using P];generalize b.e t=v at*;have F:v<1000*n:=N;have⟨T,Z,R,X,Y,r9,Q,W⟩:=ai;clear I aq G U V P;go_in
 go_wp21;apply H.o.mono
 rintro e K⟨rfl,O⟩;have r7:sE (Ç (λk=>k=g) w K):=(Ç.g (S:=λk=>k=g) (Ç.I ..) J _).G (.e O);have E:=qX (se.o.d O);clear O T Z R X Y r9 Q W;go_wp2
 go_ret;refine⟨J,?_,r7.o⟩;rw[L.o];exact E.o
def lS{q:Prop}(h:q:=by
 subst G;go_in
 go_wp2_with fail;refine O.o.mono ?_
 rintro e w2⟨rfl,E⟩;have Y:=jf E V;have I:=qX E;clear E;go_wp2
 go_ret;exact⟨rfl,I.o⟩):q:=h
def pV g B r v t n R(w:M)(a0:w.cell? (C g 0)=A (.q B))(V:w.cell? (C g 1)=A (.q r))(aB:1<=B)(aG:B<=20000)(ak:0<=r)(an:r<=100000)(aW:0<=v)(aw:v<=1000*B)(aC:0<=t)(aE:t<=1099511627776)(ax:1<=n)(aN:n<=1500)
  (O:sE (Ë 93 #[.pp g 0,.q t] w λe w'=>e=.r (.q v)/\zW w w'))
  (G:R=if B<n then -1 else if 1000*n - v<= 0 then t else if r=0 then -1
   else if 1099511627776<t+(if (1000*n-v)/r*r<1000*n-v then(1000*n-v)/r+1 else(1000*n-v)/r)then -1
   else t+(if (1000*n - v)/ r*r<1000*n - v then (1000*n - v)/ r+1 else (1000*n - v)/ r)):
  Calls Tryz.prog 45 #[.pp g 0,.q t,.q n] w λe w'=>e=.r (.q R)/\zW w w':=by
 by_cases E:B<n
 .
  rw[Æ E]at G;subst G;go_in
  go_wp2
  go_ret;exact⟨J,br⟩
 rw[Ä E]at G;by_cases I:1000*n-v<=0
 .
  rw[Æ I]at G;subst G;go_in
  go_wp21;apply O.o.mono
  rintro e U⟨rfl,E⟩;go_wp2
  go_ret;exact⟨J,E⟩
 rw[Ä I]at G;by_cases Z:r=0
 .
  rw[Æ Z]at G;subst G;go_in
  go_wp21;apply O.o.mono
  rintro e U⟨rfl,E⟩;have Y:=jf E V;have I:=qX E;subst Z;clear E;go_wp2
  go_ret;exact⟨J,I.o⟩
 rw[Ä Z]at G;let E:(r==0)=false:=sx Z
 let E:1<=r:=N;let E:=Int.ediv_le_self r (show 0<=1000*n-v by omega);let E:0<=(1000*n-v)/r:=Int.ediv_nonneg N N;let Y:=mc (1000*n-v) r;let U:=Int.emod_nonneg (1000*n-v) (show r≠0 by omega);let I:(1000*n-v)/r*r=r*((1000*n-v)/r):=kY ..;let Z:0<=(1000*n-v)/r*r:=Ŗ E ak;let E:(1000*n-v)/r*r<=1000*n-v:=N;let E:sE (1000*n-v<=30000000):=by show _<=_;omega
 clear Y U I;by_cases E:(1000*n-v)/r*r<1000*n-v
 .
  rw[Æ E]at G;by_cases U:1099511627776<t+((1000*n-v)/r+1)
  . rw[Æ U]at G;exact lS
  rw[Ä U]at G;exact lS
 rw[Ä E]at G;by_cases U:1099511627776<t+(1000*n-v)/r
 . rw[Æ U]at G;exact lS
 rw[Ä U]at G;exact lS
def lX (o:Option Int):=match o with|some T=>T|none=>-1
def vH g b m t n(w:M)(I:G9 w g m)(E:b.r)(G:ě b m)(al:EC b.last t n=0):qW 45 #[.pp g 0,.q t,.q n] w (.q (lX (b.i t n))):=by
 have⟨Z,T,W,U,O⟩:=Hu.1 al;let Q:=G.h;let X:=G.d;let R:=E.m0;let S:=E.m1;let Y:=E.r0;let V:=E.r1;let Q:=G.e E O;let Q:=E.lev_bd O;let V:lX (b.i t n)=m.i t n:=G.i E O▸rfl
 rw[V];exact pV g m.b m.d (m.e t) t n _ w I.e I.a N N N N N N W U Z T ((let Q:=G.h;let X:=G.d;let O:=G.last;let O:=G.a;let R:=E.m0;let S:=E.m1;let Y:=E.r0;let V:=E.r1;SA g m.b m.d m.j m.a t w I.e I.a I.k I.l N N N N G.l G.k G.p N U _ J)) J
def qp{w:M}{g x y z}(I:w.cell? (C g 0)=A (.q x))(E:w.cell? (C g 1)=A (.q y))(G:w.cell? (C g 2)=A (.q z)):∀j u,[Value.int .i64 x,.q y,.q z][j]? = A u->w.cell? (((C g 0):Addr).add j)=A u:=by
 intro j u h
 match j,h with
 |0,h=>simp at h;subst h;simpa[Addr.add]using I
 |1,h=>simp at h;subst h;simpa[Addr.add]using E
 |2,h=>simp at h;subst h;simpa[Addr.add]using G
 |j+3,h=>simp at h
def jT x y z:∀u∈[Value.int .i64 x,.q y,.q z],u.oneCell'=true:=by
 intro u E;simp at E
 obtain rfl|rfl|rfl:=E<;>rfl
def CF.b{w:M}{B:Nat}{v:Vl}{q:List Pk}{x y z:Int}(h:w.ownsRow B 68 3 v (q.length+1) (Dk q++[.q x,.q y,.q z])):CF w B v (q++[⟨x,y,z⟩]):=by
 unfold CF;rw[Lt,ý];exact h
def Li{S}{w w':M}{Z}{e:tI}{size}{v:Vl}{n}{xs:List Vl}(h:w.ownsRow Z e size v n xs)(U:Ç S w w')(V:∀k,v.ownBlock=A k->¬S k):w'.ownsRow Z e size v n xs:=by
 let G:=xK h;obtain⟨E,I|⟨g,cap,cur,rfl,O,Y,r⟩⟩:=h
 exact⟨E,.inl I⟩
 exact⟨E,.inr ⟨g,cap,cur,J,O,U.block g (G g J).2 (V g J)▸Y,r⟩⟩
variable {w wr w':M}{v:Vl}{t n:Int}
def Κ (E:lN):List Vl:=E.map λh=>.pp h 0
structure Jq (w wr:M)(v:Vl)(hs:lN)(ms:List Rb):Prop where
 len:hs.length=ms.length
 E:wr.ownsRow w.heap.size 110 1 v hs.length (Κ hs)
 a:∀(i:Nat) h m,hs[i]? = A h->ms[i]? = A m->G9 wr h m
 l:∀h,h∈hs->w.heap.size<=h/\v.ownBlock≠A h
 D:∀(i j:Nat) h,hs[i]? = A h->hs[j]? = A h->i=j
def Jq.r{S E G}(h:Jq w wr v E G)(I:Ç S wr w')(V:∀k,v.ownBlock=A k->¬S k)(Y:∀q,q∈E->¬S q):Jq w w' v E G:=
 ⟨h.len,Li h.E I V,λi q m O U=>(h.a i q m O U).r I (Y q (ĵ O)),h.l,h.D⟩
def Jq.d{G E}(h:Jq w wr v G E)(I:zW wr w'):=
 h.r (S:=λ_=>False) (.e I) (λ_ _=>id) (λ_ _=>id)
def Jq.G{G I}(h:Jq w wr v G I):∀q,q∈G->q<wr.heap.size:=λq V=>by
 have⟨i,O⟩:=υ.1 V;let U:i<I.length:=by
  rw[<-h.len];obtain E|E:=nR i G.length
  exact E
  simp[ą E]at O
 exact(h.a i q _ O (ë U)).G
def Jq.ptr{Z cap E O}(h:Jq w wr (.sl Z 0 E.length cap) E O) i q(I:E[i]? = A q):wr.cell? (C Z i)=A (.pp q 0):=by
 let U:i<E.length:=by
  obtain G|G:=nR i E.length
  exact G
  simp[ą G]at I
 rw[h.E.cellAt i N];simp[Κ,I]
def o7 w wr:Jq w wr (.sn) [] []:=
 ⟨J,Ĉ ..,(λi h m E=>oF E),(λh G=>nf G),(λi j h E=>oF E)⟩
def Tryz.L5:(Tryz.prog.info? 110).map (λi=>(i.zero,i.size,i.bytes))=A (A (.p sA),1,8):=kr
def XQ (E:w.grownBy w' v.ownBlock):Ç (λj=>v.ownBlock=A j) w w':=⟨E.os,E.tape,E.output,E.size,λj I G=>E.block j I (λe=>G e.symm)⟩
def uI (u:M) x y:G9 (u.alloc (.c #[.q x,.q y,.q (1000*x),.q 0,.q 0] 112)) u.heap.size (QL (x,y)):=by constructor<;>simp[QL]
def Jq.q{O Y}(h:Jq w wr v O Y) x y g cap(ao:w.heap.size<=wr.heap.size)
  (ai:w'.ownsRow w.heap.size 110 1 (.sl g 0 (O.length+1) cap) (O.length+1) (Κ O++[.pp wr.heap.size 0]))
  (ak:World.grownBy ((wr.drew.alloc (.c #[.q x,.q y,.q (1000*x),.q 0,.q 0] 112)).alloc (.c #[.pp wr.heap.size 0] 110)) w' v.ownBlock)
  (Z:v.ownBlock=A g\/g=wr.heap.size+2):
  Jq w w' (.sl g 0 (O.length+1) cap) (O++[wr.heap.size]) (Y++[QL (x,y)]):=by
 let X:=XQ ak;let e:zW wr ((wr.drew.alloc (.c #[.q x,.q y,.q (1000*x),.q 0,.q 0] 112)).alloc (.c #[.pp wr.heap.size 0] 110)):=
  ((br.drew).alloc lr _).alloc sm _
 let S:=h.d e;let W:∀k,v.ownBlock=A k->k<wr.heap.size:=λk e=>(xK h.E k e).2
 refine⟨oy h.len,by simpa[Κ]using ai,λi q m V k=>?_,λq V=>?_,λi j q T R=>?_⟩
 .
  obtain⟨G,E⟩|⟨G,E⟩:=Fa V
  .
   obtain⟨U,I⟩|⟨U,I⟩:=Fa k
   exact(S.a i q m E I).r X (λe=>(h.l q (ĵ E)).2 e)
   rw[h.len]at G;omega
  obtain⟨U,I⟩|⟨U,I⟩:=Fa k
  rw[h.len]at G;omega
  rw[E,I];let k:G9 ((wr.drew.alloc (.c #[.q x,.q y,.q (1000*x),.q 0,.q 0] 112)).alloc (.c #[.pp wr.heap.size 0] 110)) wr.heap.size (QL (x,y)):=let e:=uI wr.drew x y;e.d ba
  exact k.r X (λe=>oe (W _ e))
 .
  obtain G|G:=ĭ.1 V
  .
   refine⟨(h.l q G).1,λe=>?_⟩;let e':g=q:=Ö e;obtain E|E:=Z
   exact(h.l q G).2 (by rw[E,e'])
   have:=h.G q G;omega
  simp at G
  subst G;refine⟨ao,λe=>?_⟩;let e':g=wr.heap.size:=Ö e;obtain E|E:=Z
  have:=W g E;omega
  omega
 obtain⟨G,E⟩|⟨G,E⟩:=Fa T<;>obtain⟨U,I⟩|⟨U,I⟩:=Fa R
 exact h.D i j q E I
 have:=h.G q (ĵ E);omega
 have:=h.G q (ĵ I);omega
 omega
def jO{E b u T}(O:∀c,c∈E->c.r)(I:b.r)(V:t<=1099511627776)(ac:En E t n=A u)(Z:b.i t n=A T):En (E++[b]) t n=A (if u<T then T else u):=by
 obtain⟨h,h,S,W⟩:=M3 E t u O V ac;obtain⟨h,h,h,X⟩:=b.a I V Z;let s:∀c,c∈E++[b]->c.r:=λc G=>by
  obtain h|h:=ĭ.1 G
  exact O c h
  simp at h;rw[h];exact I
 let h:(if u<T then T else u)=max u T:=by split<;>omega
 rw[h];refine wL s N N (λc G=>?_) (λs Y h U=>?_)
 .
  obtain h|h:=ĭ.1 G
  have:=S c h;have:=Bk.b (O c h).r0 (show u<=max u T by omega);omega
  simp at h;rw[h]
  have:=Bk.b I.r0 (show T<=max u T by omega);omega
 by_cases h:s<u
 exact W s Y h (λc G=>U c (List.mem_append_left _ G))
 have:=X s Y N;have:=U b sm;omega
def gY{E b}(I:∀c,c∈E->c.r)(G:b∈E)(U:t<=1099511627776)(Z:b.i t n=sA):En E t n=none:=by
 cases e:En E t n with
 |none=>rfl
 |some O=>
  obtain⟨V,Y,X,-⟩:=M3 E t O I U e;have:=b.l (I b G) Z O V Y;have:=X b G;omega
variable {w w':M}{sd:Nat}{x y z:Int}
def PT (ls:lI)(ps:List Pk)(w:M)(e:Ending)(w':M):=
 zW w w'/\
 ((∃s v,shape ls ps=A s/\e=.r (.t #[v,.q (-1)])/\CF w' w.heap.size v s.p)\/
  (∃(j:Nat)(p:Pk)(s:Sh),ps[j]? = A p/\shape ls (ps.take j)=A s/\Dn s p=sA/\e=.r (.t #[.sn,.q j])))
structure mF (ls:lI)(ps:List Pk)(w wr:M)(v:Vl)(hs:lN)(ms:List Rb)(o:Vl)(k:Nat)(s:Sh):Prop where
 a:shape ls (ps.take k)=A s
 f:Jq w wr v hs ms
 len:ms.length=s.a.length
 rel:∀(i:Nat) b m,s.a[i]? = A b->ms[i]? = A m->ě b m
 p:CF wr w.heap.size o s.p
 apart:∀h,h∈hs->o.ownBlock≠A h
 e:∀j,o.ownBlock=A j->v.ownBlock≠A j
 d:zW w wr
structure GA (w:M)(sd:Nat)(x y z:Int):Prop where
 e:w.cell? (C sd 0)=A (.q x)
 a:w.cell? (C sd 1)=A (.q y)
 k:w.cell? (C sd 2)=A (.q z)
 f2:w.frozen? (C sd 2)=false
def p5 (w:M) x y z:GA (w.alloc (.c #[.q x,.q y,.q z] 68)) w.heap.size x y z:=⟨sm,sm,sm,sm⟩
def GA.r{S}(h:GA w sd x y z)(G:Ç S w w')(E:¬S sd):GA w' sd x y z:=
 let l:=BZ h.e
 ⟨G.E (p:=⟨sd,0,_⟩) l E▸h.e,G.E (p:=⟨sd,1,_⟩) l E▸h.a,G.E (p:=⟨sd,2,_⟩) l E▸h.k,G.s (p:=⟨sd,2,_⟩) l E▸h.f2⟩
def GA.d (h:GA w sd x y z)(E:zW w w'):=h.r (S:=λ_=>False) (.e E) id
def GA.Q (h:GA w sd x y z) u:GA (w.setCell (C sd 2) (.q u)) sd x y u:=
 ⟨by rw[sF _ _ _ _ sm];exact h.e,by rw[sF _ _ _ _ sm];exact h.a,ŏ _ _ _ h.k,rj ñ h.f2⟩
def Jq.Q{wr v E I}(h:Jq w wr v E I) a q m'(U:E[a]? = A q)(Z:Ç (λk=>k=q) wr w')(ac:G9 w' q m'):Jq w w' v E (I.set a m'):=by
 let m:=ĵ U;refine⟨oy h.len,Li h.E Z (λk i e=>(h.l q m).2 (by rw[i,e])),λi p m G Y=>?_,h.l,h.D⟩;by_cases V:i=a
 .
  subst V;obtain rfl:q=p:=Ö (U.symm.trans G);let e:i<I.length:=by
   rw[<-h.len];obtain O|O:=nR i E.length
   exact O
   simp[ą O]at G
  simp_all
 rw[List.getElem?_set_ne (λe=>V e.symm)]at Y;exact(h.a i p m G Y).r Z (λe=>V (h.D i a p G (e▸U)))
def iU{ps}(h:Ar ps) k:Ar (ps.take k):=by
 refine⟨by have:=h.j;simp;omega,λi p E=>?_⟩;let I:i<k:=by
  obtain G|G:=nR i k
  exact G
  rw[ψ,Ä N]at E;cases E
 rw[lg I]at E;have:=h.d i p E;refine⟨this.1,?_⟩;let e:Ò (ps.take k) i=Ò ps i:=by
  cases i with
  |zero=>rfl
  |succ i=>simp[Ò];rw[lg N]
 rw[e];exact this.2
def dH (dq:oA) dy(ls:lI)(de:oA) cap ps(w:M)(c':Cr w dq ls)(cg:Bq ls)(Z:AL w de ps)(ca:Ar ps):Calls Tryz.prog 28 #[.slice dq ls.length dy,.slice de ps.length cap] w λe w'=>PT ls ps w e w':=by
 have t:=qY Z ca;have ec:=qX cg;have ee:=ca.j;obtain⟨I,eN,cT⟩:=cg;obtain⟨cN,f,rfl,dt,a⟩:=c'.some I;have c:=qX a;have da:=qY cT dt;clear c' Z ca cT a dt;obtain⟨r9,a⟩:=ex ls.length;have E:=qX a;obtain⟨n,b⟩:=ex ps.length;have b0:=qX b;rw[a,b];rw[a]at I eN;rw[b]at ee;clear a b;obtain⟨c5,a9,d3,eJ,eo⟩:=ó Tryz.L5;obtain⟨dd,d2,eu,dB,d4⟩:=ó Tryz.l;go_in
 go_wp2_with fail;go_loopw[6,7] (λv i wr=>∃k:Nat,k<=r9/\i=.q k/\∃ai,Jq w wr v ai ((ls.take k).map QL)/\zW w wr)(λ_ i _=>r9-(BE i).toNat)
 case atStart=>exact⟨0,uD _,J,[],o7 w w,br⟩
 case round=>
  obtain⟨k,cg,rfl,ai,V,G⟩:=hrel;have s:=qX V;have a3:=qX G;have o:ai.length=k:=by rw[V.len,lx,Ε,E.o];omega
  have c6:=qX o;by_cases dv:k<r9
  .
   obtain⟨⟨x,y⟩,Z,ap⟩:=Ao ls k (by rw[E.o];exact dv);have sd:=jf G (c.o k x y Z).1;have cS:=jf G (c.o k x y Z).2;have dj:=qX (c.o k x y Z);obtain⟨et,dX,-,-⟩:=BJ (da.o.1 _ ap);simp only at et dX;have e8:IntKind.i64.wrap (1000*x)=1000*x:=Ĵ _ (by omega);have bb:sE ((ls.take (k+1)).map QL=(ls.take k).map QL++[QL (x,y)]):=by
    show _=_
    rw[Δ,Z];simp
   clear V G Z ap o;go_wp2_with fail;go_region_held_law (λw'=>w'.cell? (C cN (f+k*2))=A (.q x)/\w'.cell? (C cN (f+k*2+1))=A (.q y))(go_keep)
    (first
     | (refine step_append_lies _ J _ _ 109 J w.heap.size 110 c5 (.pointer sA) 1 8 Tryz.underlying109 a9 d3 eJ eo J (by decide) u6 ai.length (Κ ai) J (by exact (s.o.d (((br.drew).alloc lr _).alloc (by simp) _)).E) (C (wr.heap.size+1) 0) 1 1 [.pp wr.heap.size 0] J J (by intro j u h;match j,h with|0,h=>simp at h;subst h;simp[Addr.add]|j+1,h=>simp at h) (by intro u a8;simp at a8;subst a8;rfl) (by decide) (by have:=c6.o;unfold maxLen;omega) (by have:=c6.o;omega) (by have:=a3.o.size;simp;omega) (wr.heap.size+2) (by simp) ?_
        intro a7 cA cC bm a5 bd b';have r:=qX (s.o.q x y a7 cA a3.o.size bm a5 bd);have b:sE (zW w cC):=((a3.o.drew.alloc (by exact a3.o.size) _).alloc (by have:=a3.o.size;simp;omega) _).grown a5 (by have:=a3.o.size;simp;omega) (λj cU=>(xK s.o.E j cU).1);have eV:=jf b.o dj.o.1;have fd:=jf b.o dj.o.2;clear bm a5 bd b')
     |fail)
   all_goals
    go_wp2
    go_roundw
    case rel=>exact⟨k+1,by omega,by go_num,_,by rw[bb.o];exact r.o,b.o⟩
    case measure=>simp[BE];omega
  obtain rfl:k=r9:=by omega
  obtain⟨ac,av,rfl,e6⟩:∃ac av,u6=.sl ac 0 k av/\w.heap.size<=ac:=by
   obtain⟨-,⟨-,e⟩|⟨g,c,cur,e,eg,-⟩⟩:=V.E
   . omega
   exact⟨g,c,by rw[e,o],eg⟩
  have eI:sE (mF ls ps w wr (.sl ac 0 k av) ai (ls.map QL) (.sn) 0 ⟨ls.map Js,0,[]⟩):=by
   have b:=V;rw[iG (by rw[E.o];omega)]at b;refine⟨by simp[shape],b,by simp,λi b m G ap=>?_,Ĉ _ _ _ _,(λh _ e=>by cases e),(λj e=>by cases e),G⟩;simp only[τ,ė]at G ap;obtain⟨p,Z,rfl⟩:=G;obtain⟨ef,dN,rfl⟩:=ap;obtain rfl:p=ef:=Ö (Z.symm.trans dN);exact wZ p (da.o.1 p (ĵ Z))
  clear V G o s a3;go_wp2_with fail;go_loopw[8,9] (λo i wr=>∃j:Nat,j<=n/\i=.q j/\∃bj s,mF ls ps w wr (.sl ac 0 k av) ai bj o j s)(λ_ i _=>n-(BE i).toNat)
  case atStart=>exact⟨0,uD _,J,_,_,eI.o⟩
  case round=>
   obtain⟨j,cU,rfl,bj,s,a4⟩:=hrel;have O:=qX a4;have aI:sE (MQ ls (ps.take j) s):=I4 ec.o _ _ (iU t.o.2 j) a4.a;by_cases dV:j<n
   .
    obtain⟨⟨x,y,z⟩,Z,-⟩:=Ao ps j (by rw[b0.o];exact dV);obtain⟨b,off,rfl,-,am⟩:=(t.o.1.d a4.d).h (by rw[b0.o];omega);obtain⟨sd,cS,eb⟩:=am j _ Z;simp only at sd cS eb;have o:=Bw (t.o.2.d j _ Z).1;simp only at o;obtain⟨-,-,cf,dg,e7,fc⟩:=o;have df:=aI.o.a.a;rw[<-aI.o.h]at df;have c2:=qX Z;have aE:sE (s.p.length=j):=by
     show _=_
     rw[aI.o.len,Ε,b0.o];omega
    have r:sE (j=0->s.h=0):=λe=>by
     have I:=aI.o.h;rw[aE.o,e]at I;exact I
    obtain⟨b4,b8,al,-,-,cW,-,-⟩:=CF.open a4.p;have en:=qX cW;rw[aE.o]at al;subst al;have i:sE (1<=j->∃a6 al,b4=A (C a6 al)/\wr.cell? (C a6 (al+(j-1)*3+2))=A (.q s.h)):=λI=>by
     obtain⟨a6,al,e,-,dT⟩:=en.o.h (by rw[aE.o];exact I);refine⟨a6,al,e,?_⟩;obtain⟨ev,a,-⟩:=Ao s.p (j-1) (by rw[aE.o];omega);have m:=(dT (j-1) ev a).2.2;have h:=aI.o.h;rw[aE.o]at h;have u:=Mr a;rw[show j-1+1=j by omega]at u;rw[h,u];exact m
    obtain⟨L,a⟩:=ex s.h;have cx:=qX a;rw[a]at df r i;obtain⟨t,b⟩:∃t:Bool,decide (1<=j/\z<L)=t:=⟨_,J⟩
    have bb:=qX b;clear a4 am Z cW a b;go_upto_region 11 with fail
    go_cut[58]from 36 to 109 (λd1 ab=>d1=.bool t/\GA ab wr.heap.size x y z/\zW wr ab)
    case first=>
     have aL:zW wr (wr.alloc (.cells #[.q x,.q y,.q z] 68)):=ba;have du:=qX aL;have an:=qX (p5 wr x y z);obtain rfl|p:=Ģ j
     .
      obtain rfl:t=false:=by rw[<-bb.o];simp
      clear aL;go_quiet (fail);go_wp2_with fail;go_meet;exact⟨J,an.o.d (ì br _),ì du.o _⟩
     obtain⟨a6,al,rfl,h⟩:=i.o p;have eE:=jf aL h;have e2:decide ((0:Int)<(j:Int))=true:=ď (by omega);have eS:decide (z<L)=t:=by
      rw[<-bb.o];have:1<=j:=p;simp[this]
     clear aL;cases t
     all_goals
      go_quiet (fail);go_wp2_with fail;go_meet;exact⟨J,an.o.d (ì br _),ì du.o _⟩
    case rest=>
    obtain⟨rfl,aa,bk⟩:=hcut;go_upto_if 58 with fail
    go_cut[58]from 36 to 109 (λ_ ab=>GA ab wr.heap.size x y (max z L)/\zW wr ab)
    case first=>
     have an:=qX aa;have cY:=qX bk;cases t with
     |false=>
      have bl:max z L=z:=by
       have I:=j7 bb.o;have m:=r.o;omega
      clear aa bk;go_wp2_with fail;go_meet;exact⟨by rw[bl];exact an.o,cY.o⟩
     |true=>
      have I:=Θ bb.o;have r:sE (max z L=L):=by show _=_;omega
      obtain⟨a6,al,rfl,h⟩:=i.o I.1;have eE:=jf bk h;obtain⟨d0,ch,b6,R⟩:=aa;have p:=I.1;clear bk I;go_wp2_with fail;go_meet;exact⟨by rw[r.o];exact an.o.Q L,cY.o.setCell lr _⟩
    case rest=>
    obtain⟨a,c1⟩:=hcut;clear aa bk;obtain⟨se,bl⟩:=ex (max z L);rw[bl]at a;have c7:=qX bl;have ea:0<=se:=by omega
    have bg:se<=1099511627776:=by omega
    have el:L<=se:=by omega
    have d6:=qX a;have ep:=qX c1;have aj:sE (ai.length=k/\s.a.length=k/\bj.length=k):=by
     have I:=aI.o.j;have m:=E.o;have h:=O.o.len;have u:=O.o.f.len;exact⟨by omega,by omega,by omega⟩
    have bK:sE (∀b,b∈s.a->b.r/\b.last=L):=λb G=>by
     have:=aI.o.y b G;rwa[cx.o]at this
    obtain⟨d0,ch,b6,R⟩:=a;clear bl c1;obtain⟨W,hW⟩:∃W,W=wr:=⟨_,J⟩
    subst hW;go_wp2_with fail;go_loopw[12] (λi ab=>∃l:Nat,l<=k/\i=.q l/\∃u,En (s.a.take l) se y=A u/\se<=u/\u<=1099511627776/\GA ab W.heap.size x y u/\zW W ab)(λi _=>k-(BE i).toNat)
    case atStart=>exact⟨0,uD _,J,se,J,Ā _,bg,d6.o,ep.o⟩
    case round=>
     obtain⟨l,eW,rfl,u,a8,ed,dk,aa,aW⟩:=hrel;have o:=qX a8;have an:=qX aa;have h:=qX aW;by_cases a:l<k
     .
      obtain⟨U,aG,bc⟩:=Ao s.a l (by rw[aj.o.2.1];exact a);obtain⟨E,aC,-⟩:=Ao ai l (by rw[aj.o.1];exact a);obtain⟨m,a2,-⟩:=Ao bj l (by rw[aj.o.2.2];exact a);have V:=O.o.f.d aW;have eq:wr.cell? (C ac l)=A (.pp E 0):=Jq.ptr (cap:=av) (by rw[aj.o.1];exact V) l E aC;have ao:=qX (bK.o U bc);have eL:=qX bc;have ck:sE (EC U.last se y=0):=Hu.2 ⟨cf,dg,ea,bg,by rw[ao.o.2];exact el⟩;have a1:sE (∀w',zW wr w'->Ë 45 #[.pp E 0,.q se,.q y] w' λe aB=>e=.returned (.q (lX (U.i se y)))/\zW w' aB):=
       λw' cl=>vH E U m se y w' ((V.a l E m aC a2).d cl) ao.o.1 (O.o.rel l U m aG a2) ck.o
      have ce:sE (s.a.take (l+1)=s.a.take l++[U]):=by show _=_;rw[Δ,aG];rfl
      have bh:=aa.a;have bZ:=aa.k;have eZ:=aa.f2;clear V aG aC a2 bc a8 aW d0 ch b6 R;cases aN:U.i se y with
      |none=>
       have eA:sE (Dn s ⟨x,y,z⟩=sA):=by
        show _=_
        unfold Dn;simp only;rw[cx.o,c7.o,gY (λc am=>(bK.o c am).1) eL.o bg aN]
       rw[aN]at a1;change sE (∀w',zW wr w'->Ë 45 #[.pp E 0,.q se,.q y] w' λe aB=>e=.returned (.q (-1))/\zW w' aB)at a1
       clear aN aa;go_wp2_with fail;go_region_with (first
        |(go_simp;go_at_call 45;go_must (refine(a1.o _ ?_).mono ?_;exact br.drew;rintro e ak⟨rfl,Y⟩;have aq:sE (zW wr ak):=Mo Y;clear Y))
        |fail)
       all_goals
        go_wp2
        go_ret2;have em:=h.o.tr aq.o;have d5:=O.o.d;exact⟨d5.tr em,.inr ⟨j,⟨x,y,z⟩,s,c2.o,O.o.a,eA.o,J⟩⟩
      |some T=>
       rw[aN]at a1;change sE (∀w',zW wr w'->Ë 45 #[.pp E 0,.q se,.q y] w' λe aB=>e=.returned (.q T)/\zW w' aB)at a1
       obtain⟨e5,eC,-,-⟩:=Bk.a ao.o.1 bg aN;have d:sE (En (s.a.take (l+1)) se y=A (if u<T then T else u)):=by
        show _=_
        rw[ce.o];exact jO (λc am=>(bK.o c (List.mem_of_mem_take am)).1) ao.o.1 bg o.o aN
       have e9:¬T<0:=by omega
       clear aN aa;by_cases c:u<T
       .
        rw[Æ c]at d;go_wp2_with fail;go_region_with (first
         |(go_simp;go_at_call 45;go_must (refine(a1.o _ ?_).mono ?_;exact br.drew;rintro e ak⟨rfl,Y⟩;have aq:sE (zW wr ak):=Mo Y;have a0:sE (GA ak _ x y u):=an.o.d aq.o;have ew:=a0.o.k;have eM:=a0.o.f2;clear Y))
         |fail)
        all_goals
         go_wp2
         go_roundw
         case rel=>exact⟨l+1,by omega,by go_num,T,d.o,by omega,eC,a0.o.Q T,(h.o.tr aq.o).setCell lr _⟩
         case measure=>simp[BE];omega
       rw[Ä c]at d;go_wp2_with fail;go_region_with (first
        |(go_simp;go_at_call 45;go_must (refine(a1.o _ ?_).mono ?_;exact br.drew;rintro e ak⟨rfl,Y⟩;have aq:sE (zW wr ak):=Mo Y;have a0:sE (GA ak _ x y u):=an.o.d aq.o;have ew:=a0.o.k;have eM:=a0.o.f2;clear Y))
        |fail)
       all_goals
        go_wp2
        go_roundw
        case rel=>exact⟨l+1,by omega,by go_num,u,d.o,ed,dk,a0.o,h.o.tr aq.o⟩
        case measure=>simp[BE];omega
     obtain rfl:k=l:=by omega
     have d8:sE (En s.a se y=A u):=by
      have:=o.o;rwa[iG (by rw[aj.o.2.1];omega)]at this
     have dU:sE (Dn s ⟨x,y,z⟩=A ⟨s.a.map λb=>b.g u y,u,s.p++[⟨x,y,u⟩]⟩):=by
      show _=_
      unfold Dn;simp only;rw[cx.o,c7.o,d8.o]
     have dF:=qX (O.o.f.d aW);have eh:sE (CF wr w.heap.size (.slice b4 j b8) s.p):=Li O.o.p (Ç.e (S:=λ_=>False) aW) (λ_ _ h=>h);have ek:=qX (O.o.d.tr aW);have bh:=aa.a;have bZ:=aa.k;clear a8 aW d0 ch b6 R;go_wp2_with fail;go_loopw[14] (λi ab=>∃a:Nat,a<=k/\i=.q a/\∃aw,Jq w ab (.sl ac 0 k av) ai aw/\aw.length=k/\(∀(l:Nat) b m,s.a[l]? = A b->aw[l]? = A m->ě (if l<a then b.g u y else b) m)/\GA ab W.heap.size x y u/\CF ab w.heap.size (.slice b4 j b8) s.p/\zW w ab)(λi _=>k-(BE i).toNat)
     case atStart=>exact⟨0,uD _,J,bj,dF.o,aj.o.2.2,λl b m G ap=>by rw[Ä (by omega)];exact O.o.rel l b m G ap,an.o,eh.o,ek.o⟩
     case round=>
      obtain⟨a,fa,rfl,aw,V,T,r,ax,B,R⟩:=hrel;have be:=qX V;have r9:=qX T;have cM:=qX r;have ej:=qX ax;have S:=qX B;have Q:=qX R;by_cases h:a<k
      .
       obtain⟨U,aG,bc⟩:=Ao s.a a (by rw[aj.o.2.1];exact h);obtain⟨E,aC,cV⟩:=Ao ai a (by rw[aj.o.1];exact h);obtain⟨m,a2,-⟩:=Ao aw a (by rw[r9.o];exact h);have eq:wr.cell? (C ac a)=A (.pp E 0):=Jq.ptr (cap:=av) (by rw[aj.o.1];exact V) a E aC;have ao:=qX (bK.o U bc);have cQ:sE (ě U m):=by have:=r a U m aG a2;rwa[Ä (by omega)]at this
       have ck:sE (EC U.last u y=0):=Hu.2 ⟨cf,dg,by omega,dk,by rw[ao.o.2];omega⟩;have ce:sE (∀w',zW wr w'->Ë 46 #[.pp E 0,.q u,.q y] w' λe aB=>e=.returned (.bool (decide (y*1000<=U.e u)))/\G9 aB E (m.g u y)/\Ç (λk=>k=E) w' aB):=
        λw' cl=>vU E U m u y w' ((V.a a E m aC a2).d cl) ao.o.1 cQ.o ck.o
       have bf:=qZ aC aG cV;have dd:=ax.a;have ei:=ax.k;generalize decide (y*1000<=U.e u)=fb at*;clear V T r ax B R aG aC cV a2 bc bh bZ aa;go_wp2_with fail;go_region_with (first
        |(go_simp;go_at_call 46;go_must (refine(ce.o _ ?_).mono ?_;exact br.drew;rintro e ak⟨rfl,c9,Y⟩;have er:sE (G9 ak E (m.g u y)):=c9;have aq:sE (Ç (λk=>k=E) wr ak):=(Ç.e br.drew).G Y;clear c9 Y))
        |fail)
       all_goals
        go_wp2
        go_roundw
        case rel=>
         have Y:=aq.o;have ey:=be.o.l E bf.o.2.2;have e1:=O.o.f.G E bf.o.2.2;refine⟨a+1,by omega,by go_num,aw.set a (m.g u y),be.o.Q a E _ bf.o.1 Y er.o,by simp[r9.o],λl b ez G m=>?_,ej.o.r Y (by omega),Li S.o Y (λi a9 e=>O.o.apart E bf.o.2.2 (by rw[a9,e])),Q.o.trans (Y.D Q.o.size ey.1)⟩;by_cases db:l=a
         .
          subst db;rw[List.getElem?_set_self (by rw[r9.o];exact h)]at m;cases m
          obtain rfl:b=U:=Ö (G.symm.trans bf.o.2.1);rw[Æ (by omega)];exact cQ.o.g ao.o.1 (by rw[ao.o.2];omega) cf
         rw[List.getElem?_set_ne (λe=>db e.symm)]at m;have:=cM.o l b ez G m;by_cases dp:l<a
         . rw[Æ dp]at this;rw[Æ (by omega)];exact this
         rw[Ä dp]at this;rw[Ä (by omega)];exact this
        case measure=>simp[BE];omega
      obtain rfl:k=a:=by omega
      have c5:=ax.e;have e4:=ax.a;have ei:=ax.k;have eK:sE (ps.take (j+1)=ps.take j++[⟨x,y,z⟩]):=by show _=_;rw[Δ,c2.o];rfl
      clear V T r ax B R bh bZ aa;go_wp2_with (at_builtin;refine wpList_append_lies _ rfl _ _ 29 rfl w.heap.size 68 dd (.agg #[.q 0,.q 0,.q 0]) 3 24 Tryz.underlying29 d2 eu dB d4 rfl (by decide) (.slice b4 j b8) s.p.length (Dk s.p) rfl (S.o.alloc _) (C wr.heap.size 0) 1 1 [.q x,.q y,.q u] rfl rfl (qp (by simp) (by simp) (by simp)) (jT x y u) (by decide) (by have:=aE.o;unfold maxLen;omega) (by have:=aE.o;omega) (by have:=Q.o.size;simp;omega) _ J ?_;intro a7 cA cC bm a5 bd b')
      have d7:sE (mF ls ps w cC (.sl ac 0 k av) ai aw (.sl a7 0 (s.p.length+1) cA) (j+1) ⟨s.a.map λb=>b.g u y,u,s.p++[⟨x,y,u⟩]⟩):=by
       have a:=XQ a5;have aL:zW wr (wr.alloc (.cells #[.q x,.q y,.q u] 68)):=ba;have eR:=be.o.d aL;have c:=Q.o.tr aL;have e3:(wr.alloc (.cells #[.q x,.q y,.q u] 68)).heap.size=wr.heap.size+1:=by simp
       have e0:ac<wr.heap.size:=(xK be.o.E ac J).2;refine⟨?_,eR.r a (λq E e=>O.o.e q e E) (λq E e=>O.o.apart q E e),?_,λi b m G ap=>?_,CF.b bm,λq E e=>?_,λq E e=>?_,c.trans (a.d c.size (λq E=>(xK S.o q E).1))⟩
       . rw[eK.o,ME,O.o.a];exact dU.o
       . rw[lx,r9.o,aj.o.2.1]
       .
        simp only[τ,ė]at G;obtain⟨c,am,rfl⟩:=G;have I:=cM.o i c m am ap;have a9:i<s.a.length:=by
         obtain h|h:=nR i s.a.length
         . exact h
         simp[ą h]at am
        rwa[Æ (by rw[aj.o.2.1]at a9;exact a9)]at I
       .
        have e':a7=q:=Ö e;obtain h|h:=bd
        . exact O.o.apart q E (by rw[h,e'])
        have:=be.o.G q E;omega
       have bh:a7=q:=Ö E;have bZ:ac=q:=Ö e;obtain h|h:=bd
       . exact O.o.e a7 h (by rw[bh];exact e)
       omega
      clear bm a5 bd b';go_wp2
      go_roundw
      case rel=>exact⟨j+1,by omega,by go_num,aw,_,d7.o⟩
      case measure=>simp[BE];omega
   clear a4;go_wp2
   go_ret2;obtain rfl:j=n:=by omega
   have I:=O.o;exact⟨I.d,.inl ⟨s,u8,by have:=I.a;rwa[iG (by rw[b0.o];omega)]at this,J,I.p⟩⟩
def qj{ls:lI}{ps:List Pk}{j I q q' s s'}(Y:ps[j]? = A q)(G:shape ls (ps.take j)=A s)(aa:Dn s q=sA)(ab:ps[I]? = A q')(E:shape ls (ps.take I)=A s')(ac:Dn s' q'=sA):j=I:=by
 let key:∀(a b:Nat)(p:Pk)(u v:Sh),a<b->ps[a]? = A p->shape ls (ps.take a)=A u->Dn u p=sA->shape ls (ps.take b)=A v->False:=λa b p u v Z U h V O=>by
  have:=Tq (ls:=ls) (ps:=ps.take b) (j:=a) (p:=p) (s:=u) (rj (lg Z) U) (by rw[List.take_take,Nat.min_eq_left N];exact h) V;rw[this]at O;cases O
 obtain h|h|h:=θ j I
 exact(key j I q s s' h Y G aa E).elim
 exact h
 exact(key I j q' s' s h ab E ac G).elim
variable {i j f n:Nat}{p:Pk}{out:List Pk}{z:Int}{a a':Nat ->Int}
section
variable {cs:Nat->List (Int×Int)}{ps:List Pk}
def Bz.D (E:Ar ps)(h:Bz cs ps i)(k:Bz cs ps j)(Z:Aj ps i=Aj ps j):i=j:=by
 have⟨p,s,Y,e,X,W⟩:=h;obtain⟨q,t,O,p,V,q⟩:=k;let e:=Ap Y;let s:=Ap O;let G:=Us E e lr;let I:=Us E s lr;rw[<-Z]at p V I;let U:=Fz E (Aj ps i) ps.length lr;let s:=(U.2 _ _ G).2.2.2;let p:=(U.2 _ _ I).2.2.2;let e:=qj (s.trans Y) X W (p.trans O) V q;rw[e,I]at G;exact(Ö G).symm
def XG (I:Ar ps)(Z:cs f≠[]){r s}(U:(A9 ps f ps.length)[r]? = A i)(V:(Bv ps f ps.length)[r]? = A p)(O:shape (cs f) ((Bv ps f ps.length).take r)=A s)(Y:Dn s p=sA):Bz cs ps i/\Aj ps i=f:=by
 obtain⟨E,E,X,G⟩:=(Fz I f ps.length lr).2 r i U;exact⟨⟨p,s,G.symm.trans V,E▸Z,E▸X▸O,Y⟩,E⟩
def OA (G:Ar ps)(E:Dy cs ps f=A out)(O:Aj ps j=f):¬Bz cs ps j:=by
 rintro⟨p,s,U,I,V,s⟩;rw[O]at I V;unfold Dy at E;rw[Ä I]at E;let p:=Ap U;let Y:=Us G p lr;rw[O]at Y;let Z:=((Fz G f ps.length lr).2 _ _ Y).2.2.2;rw[Tq (Z.trans U) V s]at E;cases E
def BL (cs:Nat->lI)(ps:List Pk)(f:Nat)(z:Int)(a:Nat->Int):=
 (z= -1/\∀g,g<f->∃out,Dy cs ps g=A out/\∀(r i:Nat),(A9 ps g ps.length)[r]? = A i->a i=Ay out r)\/
  (∃i:Nat,z=i/\Bz cs ps i/\Aj ps i<f/\∀j,Bz cs ps j->Aj ps j<f->i<=j)
def Ot a:BL cs ps 0 (-1) a:=.inl ⟨J,λ_ h=>absurd h (İ _)⟩
def BL.range (h:BL cs ps f z a):z= -1\/∃i:Nat,z=i/\i<ps.length:=by
 obtain⟨h,-⟩|⟨i,h,⟨p,s,E,-⟩,-⟩:=h
 exact .inl h
 exact .inr ⟨i,h,Ap E⟩
def BL.b (Y:Ar ps)(h:BL cs ps f z a)(O:Dy cs ps f=A out)(ab:∀(r i),(A9 ps f ps.length)[r]? = A i->a' i=Ay out r)(aa:∀i,i ∉ A9 ps f ps.length->a' i=a i):BL cs ps (f+1) z a':=by
 obtain⟨rfl,h⟩|⟨i,rfl,G,g,V⟩:=h
 .
  refine .inl ⟨J,λg j=>?_⟩;obtain E|E:=nR g f
  .
   have⟨o,Z,j⟩:=h g E;refine⟨o,Z,λr i I=>?_⟩;rw[aa i ?_]
   exact j r i I
   intro U;let j:=OE.1 (ĵ I);let j:=OE.1 U;omega
  obtain rfl:g=f:=N;exact⟨out,O,ab⟩
 refine .inr ⟨i,J,G,N,λj G g=>?_⟩;obtain E|E:=nR (Aj ps j) f
 exact V j G E
 cases OA Y O N G
def BL.stuck (Y:Ar ps)(h:BL cs ps f z a)(U:Bz cs ps n)(ab:Aj ps n=f):BL cs ps (f+1) (if z<0\/(n:Int)<z then(n:Int)else z) a':=by
 let O:∀j,Bz cs ps j->Aj ps j<f+1->Aj ps j<f\/j=n:=λj G I=>by
  obtain E|E:=nR (Aj ps j) f
  exact .inl E
  exact .inr (G.D Y U N)
 obtain⟨rfl,h⟩|⟨i,rfl,X,j,V⟩:=h
 .
  rw[Æ (.inl N)];refine .inr ⟨n,J,U,N,λj G I=>?_⟩;obtain E|E:=O j G I
  obtain⟨out,Z,-⟩:=h _ E;cases OA Y Z J G
  omega
 by_cases j:n<i
 .
  rw[Æ (.inr N)];refine .inr ⟨n,J,U,N,λj G I=>?_⟩;obtain E|E:=O j G I
  have:=V j G E;omega
  omega
 rw[Ä N];refine .inr ⟨i,J,X,N,λj G I=>?_⟩;obtain E|E:=O j G I
 exact V j G E
 omega
def BL.g (G:Ar ps)(h:BL cs ps 8 z a):(z= -1/\è cs ps a/\∀i,¬Bz cs ps i)\/(∃i:Nat,z=i/\Bz cs ps i/\∀j,j<i->¬Bz cs ps j):=by
 let X:∀j,Bz cs ps j->Aj ps j<8:=λj⟨p,s,V,_⟩=>Kn G (Ap V)
 obtain⟨rfl,h⟩|⟨i,rfl,E,Z,O⟩:=h
 refine .inl ⟨J,h,λi E=>?_⟩;obtain⟨out,U,-⟩:=h _ (X i E);exact OA G U J E
 exact .inr ⟨i,J,E,λj Y I=>oe (O j I (X j I))⟩
end
def ic ps a(L:lN) k i(E:ps[i]? = A p):(Aq ps a L).take k++[(⟨p.b,p.h,a i⟩:Pk)]++(Aq ps a L).drop k=Aq ps a (L.take k++i::L.drop k):=by
 simp[Aq,FN E,List.map_take,List.map_drop]
def nY{L:lN}(h:BD a n L){k m}(I:L[k]? = A m){t}(Z:a m<=t):∀(i) x,i<k+1->L[i]? = A x->a x<=t:=λi x E G=>by
 obtain O|O:=nR i k
 let U:=Ap G;let V:=Ap I;let E:=ŷ.1 h.a i k U V O;let Y:=Ö ((ë U).symm.trans G);let O:=Ö ((ë V).symm.trans I);rw[Y,O]at E;obtain E|⟨E,-⟩:=E<;>omega
 obtain rfl:i=k:=N;rw[I]at G;obtain rfl:=Ö G;exact Z
end Go.Proofs.YtaoikkhlnhfkfaaGreatDoor
