import Derived.Test.YtaoikkhlnhfkfaaGreatDoorU00
import Derived.Test.YtaoikkhlnhfkfaaGreatDoorU46
set_option maxHeartbeats 4000000
set_option maxRecDepth 100000
set_option linter.defProp false
set_option linter.unusedSimpArgs false
set_option linter.unusedVariables false
namespace Go.Proofs.YtaoikkhlnhfkfaaGreatDoor
open Option renaming some->A,none->sA
open Go renaming Value->xn,wpList_append_lies->xl,maxLen->s7
open Proofs.Tryz renaming f3->ti,prog->sr,results9->L1,underlying31->IT
open Code renaming wp_mono->tL
open Go.RowKit
def Yl (U:oA) O(cs:List lI)(Z:bA) per(V:oA) Y(T:lZ)(j:oA) ac ps(w:M) c p(I:CS w U O cs V Y T)(X:CU w j ac ps)(h:XR cs (Ê Z.toList) per T ps c p)(S:0<c):Ë 11 #[.agg #[.s U cs.length O,.st Z,.q per,.s V T.length Y],.s j ps.length ac] w λe w'=>ma c p w e w':=by
 have e:=I.l;have aw:=e.a;have av:=e.j;obtain⟨h,-⟩|⟨G,h,-⟩|⟨G,ap,i,R,an,rfl,rfl⟩|⟨-,-,-,h,-⟩:=h
 . exact WJ U _ O Z per V _ Y j _ ac w c p S λW E=>GM U O cs Z per V Y T W c p (I.a.d E) N (I.j.d E) N h
 . exact Zv U _ O Z per V _ Y j _ ac w c p S (λW E=>GM U O cs Z per V Y T W 0 (-1) (I.a.d E) N (I.j.d E) N (.inr (.inr ⟨G.len,G.a,J,.inr ⟨G.d.1,G.d.2,.inr ⟨G.e.1,G.e.2,0,G.j,J⟩⟩⟩))) (λW E=>Ya j ac ps W (X.h.d E) X.b X.max c p h)
 .
  refine(O0 U O cs Z per V Y T j ac ps w I.a I.j N X.h X.b X.max ap G).mono ?_
  rintro e w'⟨E,⟨j,ao,aq,rfl⟩|⟨am,-⟩⟩
  .
   have:i=j:=by
    obtain h|h|h:=θ i j
    . exact absurd R (aq i h)
    . exact h
    exact absurd ao (an j h)
   rw[this];exact⟨J,E⟩
  exact absurd R (am i)
 omega
variable {w w':M}{B:Nat}{v:Vl}{cs:List (List Sn)}{xs:List Vl}
def ju (E U aa Y O Z G V I:Vl)(f:Nat->Vl):Act:=⟨#[E,U,aa,Y,f 4,f 5,O,Z,f 8,f 9,f 10,f 11,G,V,I,f 15,f 16,f 17,f 18,f 19,f 20,f 21,f 22,f 23,f 24,f 25,f 26,f 27,f 28,f 29,f 30,f 31,f 32,f 33,f 34,f 35,f 36,f 37,f 38,f 39,f 40,f 41,f 42,f 43,f 44,f 45,f 46,f 47,f 48,f 49,f 50,f 51,f 52,f 53,f 54,f 55,f 56,f 57,f 58,f 59,f 60,f 61,f 62,f 63,f 64,f 65,f 66,f 67,f 68,f 69,f 70,f 71,f 72,f 73,f 74,f 75,f 76,f 77,f 78,f 79,f 80,f 81,f 82,f 83,f 84,f 85,f 86,f 87,f 88,f 89,f 90,f 91,f 92,f 93,f 94,f 95,f 96,f 97,f 98,f 99,f 100,f 101,f 102,f 103,f 104,f 105,f 106,f 107,f 108,f 109,f 110,f 111,f 112,f 113,f 114,f 115,f 116,f 117,f 118,f 119,f 120,f 121,f 122,f 123,f 124,f 125,f 126,f 127,f 128,f 129,f 130,f 131,f 132,f 133,f 134,f 135,f 136,f 137,f 138,f 139,f 140,f 141,f 142],[]⟩
def ε (E V ab Z U aa G Y I O:Vl)(f:Nat->Vl):Act:=⟨#[E,V,ab,Z,f 4,f 5,U,aa,f 8,f 9,f 10,f 11,G,Y,I,O,f 16,f 17,f 18,f 19,f 20,f 21,f 22,f 23,f 24,f 25,f 26,f 27,f 28,f 29,f 30,f 31,f 32,f 33,f 34,f 35,f 36,f 37,f 38,f 39,f 40,f 41,f 42,f 43,f 44,f 45,f 46,f 47,f 48,f 49,f 50,f 51,f 52,f 53,f 54,f 55,f 56,f 57,f 58,f 59,f 60,f 61,f 62,f 63,f 64,f 65,f 66,f 67,f 68,f 69,f 70,f 71,f 72,f 73,f 74,f 75,f 76,f 77,f 78,f 79,f 80,f 81,f 82,f 83,f 84,f 85,f 86,f 87,f 88,f 89,f 90,f 91,f 92,f 93,f 94,f 95,f 96,f 97,f 98,f 99,f 100,f 101,f 102,f 103,f 104,f 105,f 106,f 107,f 108,f 109,f 110,f 111,f 112,f 113,f 114,f 115,f 116,f 117,f 118,f 119,f 120,f 121,f 122,f 123,f 124,f 125,f 126,f 127,f 128,f 129,f 130,f 131,f 132,f 133,f 134,f 135,f 136,f 137,f 138,f 139,f 140,f 141,f 142],[]⟩
structure Nc (w:M)(B:Nat)(v:Vl)(cs:List (List Sn))(xs:List Vl):Prop where
 row:w.ownsRow B 42 1 v cs.length xs
 d:∀(i:Nat) ls,cs[i]? = A ls->∃x,xs[i]? = A x/\Dz w B x ls/\∀g,x.ownBlock=A g->v.ownBlock≠A g
def Nc.later (h:Nc w B v cs xs)(G:zW w w'):Nc w' B v cs xs:=by
 refine⟨Ai h.row λg _ E=>G.block g E,λi g V=>?_⟩;obtain⟨x,I,U,O⟩:=h.d i g V;exact⟨x,I,Ai U λg _ E=>G.block g E,O⟩
def Nc.I (h:Nc w B v cs xs){ls}{x:Vl}(T:Dz w B x ls)(W:∀g,x.ownBlock=A g->v.ownBlock≠A g){g O}
  (i:w'.ownsRow B 42 1 (.sl g 0 (cs.length+1) O) (cs.length+1) (xs++[x]))(e:w.grownBy w' v.ownBlock)(G:v.ownBlock=A g\/g=w.heap.size):Nc w' B (.sl g 0 (cs.length+1) O) (cs++[ls]) (xs++[x]):=by
 have S:xs.length=cs.length:=by have:=h.row.1;simpa using this
 have X:∀y l,Dz w B y l->(∀g,y.ownBlock=A g->v.ownBlock≠A g)->Dz w' B y l/\∀g',y.ownBlock=A g'->(Value.sl g 0 (cs.length+1) O).ownBlock≠A g':=λy l V U=>by
  refine⟨Ai V λk Z I=>e.block k I λe=>U k Z e.symm,λg' Y e=>?_⟩;obtain rfl:g=g':=Ö e;obtain G|G:=G
  . exact U g Y G
  have:=(AC V Y).2;omega
 refine⟨by rw[ý];exact i,λi l E=>?_⟩;obtain I|e:=nR i cs.length
 . rw[č I]at E;obtain⟨y,e,k,g⟩:=h.d i l E;exact⟨y,by rw[č N];exact e,X y l k g⟩
 have e:i=cs.length:=by
  have:=Ap E;simp at this
  omega
 subst e;obtain rfl:ls=l:=by simpa using E
 exact⟨x,by rw[<-S];simp,X x ls T W⟩
def Nc.r{S}(h:Nc w B v cs xs)(aa:Ç S w w')(ab:∀k,S k->k<B):Nc w' B v cs xs:=by
 have k:∀{e:tI}{E:Nat}{y:Vl}{m:Nat}{G:List Vl},w.ownsRow B e E y m G->w'.ownsRow B e E y m G:=λ{e E y m G} I=>Ai I λg e O=>aa.block g O λY=>by
  have:=ab g Y;have:=(AC I e).1;omega
 refine⟨k h.row,λi e Z=>?_⟩;obtain⟨x,U,g,V⟩:=h.d i e Z;exact⟨x,U,k g,V⟩
section
variable (x0 x1 x3 x6 x7 x8 x9 x12 x13:xn)
def oY{q:Prop}(h:q:=by
 show Calls _ _ _ _ _;go_in
 go_wp2_with fail;refine(Cf 3 _).mono ?_
 rintro e w1⟨rfl,E⟩;obtain⟨U,O,V,Z⟩:=(EE w _ _ _).later E;have I:=qX (G.tr E);clear E G;go_wp2_with fail;exact Ę (v:=.agg #[.q 3,.q (-1)]) (by simp[results,Tryz.results9,go_sem,U,O]) rfl ⟨rfl,(I.o.setCell lr _).setCell lr _⟩):q:=h
def qT (h:oA)(n cap:Nat) wks(f:Nat->Vl)(v:M):(xP ti).wp sr (λe a v'=>e=.normal/\∃w1,zW v w1/\v'=w1.alloc (.c #[.q (Bl n wks),.q (-1)] 39)/\a=ju x0 (.s h n cap) (.q wks) x3 x6 x7 x12 x13 (.pp w1.heap.size 0) λi=>a.tmps.getD i uu) (l2 x0 (.s h n cap) (.q wks) x3 x6 x7 x8 x9 x12 x13 f) v:=by
 obtain⟨r8,a⟩:=ex (Bl n wks);have al:Hid (∀w,qW 9 #[.q wks,.q n] w (.agg #[.q r8,.q (-1)])):=λw=>by
  rw[<-a];have G:zW w (w.alloc (.c #[.q 0,.q 0] 39)):=ba;obtain⟨Y,h⟩|⟨Y,e,h⟩|⟨Y,e,aj,h⟩|⟨Y,e,aj,h⟩:=Ŋ n wks<;>rw[h]<;>clear h
  . exact oY
  . exact oY
  .
   show Calls _ _ _ _ _;go_in
   go_wp2_with fail;refine(Cf 2 _).mono ?_
   rintro e w1⟨rfl,E⟩;obtain⟨U,O,V,Z⟩:=(EE w _ _ _).later E;have I:=qX (G.tr E);clear E G;go_wp2_with fail;exact Ę (v:=.agg #[.q 2,.q (-1)]) (by simp[results,L1,go_sem,U,O]) J ⟨J,(I.o.setCell lr _).setCell lr _⟩
  show Calls _ _ _ _ _;go_in
  go_wp2_with fail;refine(Jw _).mono ?_
  rintro e w1⟨rfl,E⟩;obtain⟨U,O,V,Z⟩:=(EE w _ _ _).later E;have I:=qX (G.tr E);clear E G;go_wp2_with fail;exact Ę (v:=.agg #[.q 0,.q (-1)]) (by simp[results,L1,go_sem,U,O]) J ⟨J,(I.o.setCell lr _).setCell lr _⟩
 rw[a];clear a;simp only[xP,GY,EF,l2,È,A7,Ak,ti,é];go_wp2_with fail;refine(al.o _).mono ?_
 rintro e w1⟨rfl,a⟩;have ak:=qX a;clear a;go_wp2_with fail;exact⟨w1,ak.o,J,J⟩
end
def qz (E O Z V U Y G I:Vl)(c p:Int)(w1 wr:M)(e:Exit)(a:Act)(v':M):=e=.normal/\Below w1.heap.size wr v'/\Š w1 v' (.q c) (.q p)/\a=ju E O Z V U Y G I (.pp w1.heap.size 0) λi=>a.tmps.getD i uu
section
variable (x0 x1 x3 x6 x7 x12 x13:xn)
def r3 (g:Cn) aa al r8 O V f(w1 e:M)(m:Š w1 e (.q r8) (.q (-1)))(r:CE e aa (.s g.i g.d.length g.b) g.k g.e (.s g.g g.h.length g.a))(I:CS e g.i g.b g.d g.g g.a g.h)(E:GV g.d (Ê g.k.toList) g.e g.h O V):(nz ti).wp sr (qz x0 x1 al (.pp aa 0) x6 x7 x12 x13 (if r8=0 then O else r8) (if r8=0 then V else -1) w1 e) (ju x0 x1 al (.pp aa 0) x6 x7 x12 x13 (.pp w1.heap.size 0) f) e:=by
 have Z:=I.l;have R:=Z.a;have G:=Z.j;have Y:=qX (GM g.i g.b g.d g.k g.e g.g g.a g.h e O V I.a N I.j N E);have U:=qX m;obtain⟨P,Q,S,X⟩:=m;obtain⟨V,T,W,f⟩:=r;obtain⟨m,e⟩:=ex g.d.length;obtain⟨r,m⟩:=ex g.h.length;rw[e]at V Y;rw[m]at f Y;clear I E Z R G e m;by_cases g:r8=0
 .
  subst g;simp only[ô];simp only[nz,GY,EF,ju,È,A7,Ak,ti,é];go_wp2_with fail;refine Y.o.mono ?_
  rintro e e⟨rfl,G⟩;have E:=qY (U.o.later G) G;obtain⟨m,m,m,m⟩:=U.o.later G;clear G P Q S X V T W f;go_wp2_with fail;have m:=BZ U.o.e;have r:(e.setCell (C w1.z 0) (.q O)).cell? (C w1.z 1)=A (.q (-1)):=by
   rw[sF _ _ _ _ (by intro e;injection e with _ f;cases f)];exact E.o.1.a
  refine⟨rfl,((E.o.2.mono (ŕ m)).setCell (p:=(C w1.z 0)) lr _).setCell (p:=(C w1.z 1)) lr _,⟨?_,?_,?_,?_⟩,J⟩
  . rw[sF _ _ _ _ (by intro e;injection e with _ f;cases f)];exact ś _ _ _ (by rw[E.o.1.e];rfl)
  . exact ś _ _ _ (by rw[r];rfl)
  . rw[ñ,ñ];exact E.o.1.f0
  rw[ñ,ñ];exact E.o.1.f1
 simp only[Ä g];simp only[nz,GY,EF,ju,È,A7,Ak,ti,é];go_wp2_with fail;exact⟨J,br,U.o,J⟩
def pr G E f(v:M):(vF ti).wp sr (λe a v'=>e=.normal/\v'=v/\a=ε x0 x1 G x3 x6 x7 x12 x13 E (.sn) λi=>a.tmps.getD i uu) (ju x0 x1 G x3 x6 x7 x12 x13 E f) v:=by
 simp only[vF,GY,EF,ju,È,A7,Ak,ti,é];go_wp2_with fail;exact J
end
structure Ga (g:Cn)(pss:List (List Pk))(stop:Nat)(sd Q:Int)(v w1:M)(i:Nat)(v15:Vl)(c p:Int)(ls:List (List Sn))(xs:List Vl)(wr:M):Prop where
 d:zW v wr
 u:v.heap.size<=w1.heap.size
 G:w1.heap.size<wr.heap.size
 e:Š w1 wr (.q c) (.q p)
 len:ls.length=i
 E:Nc wr (w1.heap.size+1) v15 ls xs
 a:c=0->i<=stop/\∀(j:Nat) l,ls[j]? = A l->g.j (pss.getD j []) l
 b:c≠0->0<c/\c=sd/\p=Q
section
variable {g:Cn}{pss:List (List Pk)}{stop:Nat}{sd Q:Int}{v w1 wr w':World}{i:Nat}{v15:xn}{c p:Int}{ls:List (List Sn)}{xs:List xn}
def Ga.later (h:Ga g pss stop sd Q v w1 i v15 c p ls xs wr)(E:zW wr w'):Ga g pss stop sd Q v w1 i v15 c p ls xs w':=
 ⟨h.d.tr E,h.u,rZ h.G E.size,h.e.later E,h.len,h.E.later E,h.a,h.b⟩
def Ga.h (h:Ga g pss stop sd Q v w1 i v15 0 p ls xs wr)(I:0<sd)(V:Q=i):Ga g pss stop sd Q v w1 i v15 sd i ls xs ((wr.setCell (C w1.heap.size 0) (.q sd)).setCell (C w1.heap.size 1) (.q i)):=by
 have E:=h.e;have O:(wr.setCell (C w1.heap.size 0) (.q sd)).cell? (C w1.heap.size 1)=A (.q p):=by
  rw[sF _ _ _ _ (by intro e;injection e with _ G;cases G)];exact E.a
 have U:Ç (λk=>k=w1.heap.size) wr ((wr.setCell (C w1.heap.size 0) (.q sd)).setCell (C w1.heap.size 1) (.q i)):=Ç.g (S:=λk=>k=w1.heap.size) (Ç.g (S:=λk=>k=w1.heap.size) (Ç.I _ wr) (p:=(C w1.heap.size 0)) rfl _) (p:=(C w1.heap.size 1)) J _;refine⟨(h.d.setCell h.u _).setCell h.u _,h.u,by simpa using h.G,⟨?_,?_,?_,?_⟩,h.len,h.E.r U (λk Y=>by omega),λZ=>by omega,λ_=>⟨I,J,V.symm⟩⟩
 . rw[sF _ _ _ _ (by intro e;injection e with _ G;cases G)];exact ś _ _ _ (by rw[E.e];rfl)
 . exact ś _ _ _ (by rw[O];rfl)
 . rw[ñ,ñ];exact E.f0
 rw[ñ,ñ];exact E.f1
def Ga.I (h:Ga g pss stop sd Q v w1 i v15 c p ls xs wr){l}{x:Vl}{Z cap}(j:Dz wr (w1.heap.size+1) x l)(E:∀b,x.ownBlock=A b->v15.ownBlock≠A b)(I:w'.ownsRow (w1.heap.size+1) 42 1 (.sl Z 0 (i+1) cap) (i+1) (xs++[x]))(G:wr.grownBy w' v15.ownBlock)(V:v15.ownBlock=A Z\/Z=wr.heap.size)
  (O:c=0->i<stop/\g.j (pss.getD i []) l):Ga g pss stop sd Q v w1 (i+1) (.sl Z 0 (i+1) cap) c p (ls++[l]) (xs++[x]) w':=by
 have b:∀k,k<=w1.heap.size->v15.ownBlock≠A k:=λk U e=>by
  have:=(AC h.E.row e).1;omega
 have c:=h.len;subst c;refine⟨h.d.grown G h.d.size (λk U=>?_),h.u,rZ h.G G.size,h.e.block (G.block _ h.G λe=>b _ lr e.symm),by simp,h.E.I j E I G V,λI=>⟨by have:=(O I).1;omega,λj b E=>?_⟩,h.b⟩
 . have:=(AC h.E.row U).1;have:=h.u;omega
 obtain c|V:=nR j ls.length
 . rw[č c]at E;exact(h.a I).2 j b E
 rw[Ţ V]at E;have Y:j-ls.length=0:=by
  have:=Ap E;simp at this
  omega
 rw[Y]at E;cases E
 obtain rfl:j=ls.length:=by omega
 exact(O I).2
end
def zL (g:Cn)(ps:List Pk)(sd:Int)(b:Bool)(W:M)(e:Ending)(w':M):=∃G E l c p,e=.r (.t #[G,E,.agg #[.q c,.q p]])/\Dz w' W.heap.size E l/\zW W w'/\((b=true/\c=0/\g.j ps l)\/(b=false/\c=sd/\0<sd))
def vX g(O:oA) I ps sd b(W:M)(E:CS W g.i g.b g.d g.g g.a g.h)(G:CU W O I ps)(h:(b=true/\∃l,g.j ps l)\/(b=false/\(∃p,g.p ps sd p)/\0<sd)):Ë 11 #[.agg #[.s g.i g.d.length g.b,.st g.k,.q g.e,.s g.g g.h.length g.a],.s O ps.length I] W λe w'=>zL g ps sd b W e w':=by
 have b:=E.l;have e:=b.j;obtain⟨V,l,h,-⟩|⟨V,⟨p,h⟩,Y⟩:=h
 .
  have X:=h;obtain⟨-,Z⟩|⟨-,-,Z⟩|⟨-,-,i,-,-,Z,-⟩|⟨b,e,T,-,-⟩:=h
  . omega
  . omega
  . omega
  refine(O0 g.i g.b g.d g.k g.e g.g g.a g.h O I ps W E.a E.j N G.h G.b G.max e b).mono ?_
  rintro e w'⟨U,⟨i,S,-⟩|⟨-,Q,b,Z,l,rfl,-,R,e⟩⟩
  . exact absurd S (T i)
  exact⟨Q,b,l,0,-1,J,R,U,.inl ⟨V,J,X,Z,e⟩⟩
 refine(Yl g.i g.b g.d g.k g.e g.g g.a g.h O I ps W sd p E G h Y).mono ?_
 rintro e w'⟨rfl,U⟩;exact⟨_,.sn,[],sd,p,J,Ĉ _ _ _ _,U,.inr ⟨V,J,Y⟩⟩
def aJ (g:Cn)(ps:List Pk)(sd:Int)(b:Bool)(wr:M)(U O:Vl)(G:M):=∃I l E,O=.pp I 0/\zW wr G/\Dz G wr.heap.size U l/\G.cell? (C I 0)=A (.q E)/\wr.heap.size<=I/\((b=true/\E=0/\g.j ps l)\/(b=false/\E=sd/\0<sd))
def sw (W:M) b(x:Vl)(t:tI)(h:b=W.heap.size):(W.alloc (.c #[x] t)).cell? (((C b 0):Addr).add 0)=A x:=by
 subst h;simp[Addr.add]
def vJ (G Y ac Z V ab I U O:Vl)(g:Cn)(ai:List (List Pk))(stop n:Nat)(sd Q aa:Int)(v w1:M)(e:Exit)(a:Act)(v':M):=
 e=.normal/\∃i E c p ls xs,Ga g ai stop sd Q v w1 i E c p ls xs v'/\(c=0->i=n/\aa=0)/\a=ε G Y ac Z V ab I U O E λi=>a.tmps.getD i uu
section
variable {g:Cn}{pss:List (List Pk)}{stop n:Nat}{sd Q:Int}
def uk (b:oA) cap O x0 x2 x6 x7 x12 x13 f(v w1 V:M) c0 p0(hn:n<=110)(h:pss.length=n)(hlp:Ie v b pss)(hcap:n<=cap)(hg:CE v O (.s g.i g.d.length g.b) g.k g.e (.s g.g g.h.length g.a))(hgl:CS v g.i g.b g.d g.g g.a g.h)
  (hst:stop<=n)(hgood:∀i,i<stop->∃l,g.j (pss.getD i []) l)(hbad:stop<n->c0=0->(∃p,g.p (pss.getD stop []) sd p)/\0<sd/\Q=stop)(h0:Ga g pss stop sd Q v w1 0 (.sn) c0 p0 [] [] V):
  (m5 ti).wp sr (vJ x0 (.s b n cap) x2 (.pp O 0) x6 x7 x12 x13 (.pp w1.heap.size 0) g pss stop n sd Q c0 v w1) (ε x0 (.s b n cap) x2 (.pp O 0) x6 x7 x12 x13 (.pp w1.heap.size 0) (.sn) f) V:=by
 obtain⟨iL,hiL,hzL0,hzL1,hzL2⟩:=ó Tryz.c;have e:=qZ hlp h hst;have HG:=qY hg hgl;have L:Hid ((∀i,i<stop->∃l,g.j (pss.getD i []) l)/\(stop<n->c0=0->(∃p,g.p (pss.getD stop []) sd p)/\0<sd/\Q=stop)):=⟨hgood,hbad⟩
 have H0:=qX h0;clear hlp h hg hgl hst hgood hbad h0;simp only[m5,GY,EF,ε,È,A7,Ak,ti,é];go_wp2_with fail;go_loopg[15,16] n (λgk v15 iv wr=>∃i:Nat,gk+i=n/\iv=.q i/\∃c p ls xs,Ga g pss stop sd Q v w1 i v15 c p ls xs wr/\(c=0->c0=0))
 case atStart=>exact⟨0,N,J,c0,p0,[],[],H0.o,id⟩
 case round=>
  obtain⟨i,hi',rfl,c,p,ls,xs,b,hc00⟩:=hrel;have HR:=qY b hc00;obtain⟨k0,k1,kf0,kf1⟩:=b.e;clear b hc00;by_cases hc0:c=0
  .
   subst hc0;have HC0:Hid (c0=0):=HR.o.2 J;by_cases him:i<n
   .
    obtain⟨ps,hps,-⟩:=Ao pss i (by rw[e.o.2.1];exact him);obtain⟨cb,co,rfl,-,hcc⟩:=e.o.1.h (by rw[e.o.2.1];omega);obtain⟨a',pcap,cj,hlies⟩:=hcc i ps hps;have hgi:pss.getD i []=ps:=by simp[kA,hps]
    have hle:=(HR.o.1.a J).1;have hcls:(decide (i<stop)=true/\∃l,g.j ps l)\/(decide (i<stop)=false/\(∃p,g.p ps sd p)/\0<sd):=by
     by_cases his:i<stop
     .
      left
      obtain⟨l,hl⟩:=L.o.1 i his;rw[hgi]at hl;exact⟨ď his,l,hl⟩
     obtain rfl:i=stop:=N;obtain⟨h1,h2,-⟩:=L.o.2 him HC0.o;rw[hgi]at h1;exact .inr ⟨ĕ his,h1,h2⟩
    have HRef:Hid (∀W,zW wr W->Ë 11 #[.agg #[.s g.i g.d.length g.b,.st g.k,.q g.e,.s g.g g.h.length g.a],.s a' ps.length pcap] W λe w'=>zL g ps sd (decide (i<stop)) W e w'):=λW b=>by
     have hb:=HR.o.1.d.tr b;exact vX g a' pcap ps sd _ W (HG.o.2.d hb) (hlies.d hb) hcls
    obtain⟨y0,y1,y2,y3⟩:=HG.o.1.later HR.o.1.d;have cj':=jf HR.o.1.d cj;have HP:=qX hgi;have HSb:Hid (∀W,zW wr W->W.cell? (C O 0)=A (.s g.i g.d.length g.b)/\W.cell? (C O 1)=A (.st g.k)/\W.cell? (C O 2)=A (.q g.e)/\W.cell? (C O 3)=A (.s g.g g.h.length g.a)/\W.cell? (C cb (co+i))=A (.s a' ps.length pcap)):=λW b=>⟨jf b y0,jf b y1,jf b y2,jf b y3,jf b cj'⟩
    have k:Hid (zW wr wr.drew):=ì br 1;have HDa:Hid (zW wr (wr.drew.alloc (.c #[.q 0,.q 0] 39))/\Š wr (wr.drew.alloc (.c #[.q 0,.q 0] 39)) (.q 0) (.q 0)):=⟨k.o.alloc k.o.size _,⟨(EE wr.drew _ _ 39).e,(EE wr.drew _ _ 39).a,(EE wr.drew _ _ 39).f0,(EE wr.drew _ _ 39).f1⟩⟩
    obtain⟨m,h⟩:=ex g.d.length;obtain⟨r,b⟩:=ex g.h.length;obtain⟨q,hq⟩:=ex ps.length;rw[h,b,hq]at HRef HSb;rw[h]at y0;rw[b]at y3;rw[hq]at cj';clear hcc cj hlies hps hgi hcls hle h b hq;go_wp2_with fail;go_cut[17,18,19]from 75 to 106 (λ_ s18 s19 wx=>aJ g ps sd (decide (i<stop)) wr s18 s19 wx)
    case first=>
     go_region_held3 (λw'=>w'.cell? (C O 0)=A (.s g.i m g.b)/\w'.cell? (C O 1)=A (.st g.k)/\w'.cell? (C O 2)=A (.q g.e)/\w'.cell? (C O 3)=A (.s g.g r g.a)/\w'.cell? (C cb (co+i))=A (.s a' q pcap))
      (first|exact hS|exact HSb.o _ k.o|exact HSb.o _ HDa.o.1|exact HSb.o _ (HB6.o.alloc HB6.o.size _)|exact HSb.o _ ((HB6.o.setCell (p:=(C wr.heap.size 0)) lr _).setCell (p:=(C wr.heap.size 1)) lr _))
      (first
      |(go_at_call 11;refine (HRef.o _ k.o).mono ?_;rintro e w6⟨qv,m,l,h,j,rfl,ho6,hb6,hk6⟩;have HB6:Hid (zW wr w6):=k.o.tr hb6;have HX:Hid (aJ g ps sd (decide (i<stop)) wr m (.pp w6.heap.size 0) (w6.al #[.q h,.q j] 39)):=(by
        have hb':zW wr w6:=(ì br 1).trans hb6;have ha:zW w6 (w6.alloc (.c #[.q h,.q j] 39)):=ba;exact⟨w6.heap.size,l,h,J,hb'.tr ha,Ai ho6 λk _ hlt=>ha.block k hlt,(EE w6 _ _ _).e,hb'.size,hk6⟩);have hS:=HSb.o w6 HB6.o;clear ho6 hb6 hk6)
      |(go_at_call 11;refine (HRef.o _ HDa.o.1).mono ?_;rintro e w6⟨qv,m,l,h,j,rfl,ho6,hb6,hk6⟩;obtain⟨z0,z1,zf0,zf1⟩:=HDa.o.2.later hb6;have HB6:Hid (zW wr w6):=HDa.o.1.tr hb6;have HX:Hid (aJ g ps sd (decide (i<stop)) wr m (.pp wr.heap.size 0) ((w6.setCell (C wr.heap.size 0) (.q h)).setCell (C wr.heap.size 1) (.q j))):=(by
        have hb:=HB6.o;have hbut:Ç (λk=>k=wr.heap.size) w6 ((w6.setCell (C wr.heap.size 0) (.q h)).setCell (C wr.heap.size 1) (.q j)):=Ç.g (S:=λk=>k=wr.heap.size) (Ç.g (S:=λk=>k=wr.heap.size) (Ç.I _ w6) (p:=(C wr.heap.size 0)) rfl _) (p:=(C wr.heap.size 1)) J _;have hsz:(wr.drew.alloc (.c #[.q 0,.q 0] 39)).heap.size=wr.heap.size+1:=by rw[World.size_alloc];rfl
        refine⟨wr.heap.size,l,h,rfl,(hb.setCell (p:=(C wr.heap.size 0)) lr _).setCell (p:=(C wr.heap.size 1)) lr _,BA (Ai ho6 λk hk6 hlt=>hbut.block k hlt λe=>?_) (by rw[hsz];omega),?_,lr,hk6⟩
        . have:=(AC ho6 hk6).1;omega
        rw[sF _ _ _ _ (by intro e;injection e with _ K;cases K)];exact ś _ _ _ (by rw[z0];rfl));have hS:=HSb.o w6 HB6.o;clear ho6 hb6 hk6))
     all_goals (go_wp2_with fail;go_meet;exact HX.o)
    case rest=>
    obtain⟨Hb,l,c2,rfl,hbx,hos,hc2,hHb,I⟩:=hcut;obtain⟨sa,sc,rfl,-,-,-,-,-⟩:=hos.open;have HRc:=qY (HR.o.1.later hbx) hos;obtain⟨sn,hsn⟩:=ex l.length;rw[hsn]at HRc⊢;obtain⟨j0,j1,jf0,jf1⟩:=HRc.o.1.e;clear hbx hos hHb k0 k1 kf0 kf1 y0 y1 y2 y3 cj' hsn;obtain⟨hb1,rfl,hruns⟩|⟨hb1,rfl,hC⟩:=I
    .
     have HK:=qY (Θ hb1) hruns;have HR3:=qZ HRc.o.1 HRc.o.2 sk;clear hb1 hruns;have HZ:Hid (Ga g pss stop sd Q v w1 i u15 0 p ls xs (wc.alloc (.c #[.s sa sn sc] 42))/\Dz (wc.alloc (.c #[.s sa sn sc] 42)) (w1.heap.size+1) (.s sa sn sc) l/\∀b,(Value.slice sa sn sc).ownBlock=A b->u15.ownBlock≠A b):=by
      have ha:Below (wc).heap.size wc (wc.alloc (.c #[.s sa sn sc] 42)):=ba;refine⟨HR3.o.1.later ha,Ai (BA HR3.o.2.1 (mm HR.o.1.G)) λk _ hlt=>ha.block k hlt,λb hb e=>?_⟩;have e1:=(AC HR3.o.2.1 hb).1;have K:=(AC HR.o.1.E.row e).2;omega
     have hrow:=HZ.o.1.E.row;rw[HZ.o.1.len]at hrow;have HRow:=qX hrow;have HLt:Hid (w1.heap.size+1<=(wc.alloc (.c #[.s sa sn sc] 42)).heap.size):=mm HZ.o.1.G;clear hrow;go_wp2_with (at_builtin;go_must (refine xl _ J _ _ 31 J (w1.heap.size+1) 42 iL (.sn) 1 24 IT hiL hzL0 hzL1 hzL2 J dc u15 i xs J HRow.o (C ((wc).heap.size) 0) 1 1 [.slice sa sn sc] J J (by intro j u se;cases j with|zero=>(have:u=.slice sa sn sc:=by simpa using se.symm);rw[this];simp[Addr.add]|succ j=>simp at se) (by intro u H;rw[Đ.1 H];rfl) dc (by unfold s7;omega) N HLt.o _ J ?_;intro r7 cap' w9 h1 h2 r9 h4;have HPut:Hid (∃c p ls xs,Ga g pss stop sd Q v w1 (i+1) (.sl r7 0 (i+1) cap') c p ls xs w9/\(c=0->c0=0)):=⟨0,p,_,_,HZ.o.1.I HZ.o.2.1 HZ.o.2.2 h1 h2 r9 (λ_=>⟨HK.o.1,by rw[HP.o];exact HK.o.2⟩),λh=>by first|exact HC0.o|exact absurd h (by have:=HK.o.2;omega)⟩;clear h1 h2 r9 h4))
     go_roundg (gk-1)
     case measure=>omega
     case rel=>exact⟨i+1,N,by go_num,HPut.o⟩
    have HK:=qY (j7 hb1) hC;have HQi:Hid (Q=i):=by
     have h1:=(HR.o.1.a J).1;have h2:=L.o.2 (by have:=HK.o.1;omega) HC0.o;show Q=i
     rw[h2.2.2];have:=HK.o.1;omega
    clear hb1;have HR3:Hid (Ga g pss stop c2 Q v w1 i u15 c2 i ls xs ((wc.setCell (C w1.heap.size 0) (.q c2)).setCell (C w1.heap.size 1) (.q i))/\Dz ((wc.setCell (C w1.heap.size 0) (.q c2)).setCell (C w1.heap.size 1) (.q i)) wr.heap.size (.s sa sn sc) l/\True):=by
     refine⟨HRc.o.1.h HK.o.2 HQi.o,?_,sk⟩;have hbut:Ç (λk=>k=w1.heap.size) wc ((wc.setCell (C w1.heap.size 0) (.q c2)).setCell (C w1.heap.size 1) (.q i)):=Ç.g (S:=λk=>k=w1.heap.size) (Ç.g (S:=λk=>k=w1.heap.size) (Ç.I _ wc) (p:=(C w1.heap.size 0)) rfl _) (p:=(C w1.heap.size 1)) J _;refine Ai HRc.o.2 λk I hlt=>hbut.block k hlt λe=>?_
     have:=(AC HRc.o.2 I).1;have:=HR.o.1.G;omega
    have HZ:Hid (Ga g pss stop c2 Q v w1 i u15 c2 i ls xs (((wc.setCell (C w1.heap.size 0) (.q c2)).setCell (C w1.heap.size 1) (.q i)).alloc (.c #[.s sa sn sc] 42))/\Dz (((wc.setCell (C w1.heap.size 0) (.q c2)).setCell (C w1.heap.size 1) (.q i)).alloc (.c #[.s sa sn sc] 42)) (w1.heap.size+1) (.s sa sn sc) l/\∀b,(Value.slice sa sn sc).ownBlock=A b->u15.ownBlock≠A b):=by
     have ha:Below (((wc.setCell (C w1.heap.size 0) (.q c2)).setCell (C w1.heap.size 1) (.q i))).heap.size ((wc.setCell (C w1.heap.size 0) (.q c2)).setCell (C w1.heap.size 1) (.q i)) (((wc.setCell (C w1.heap.size 0) (.q c2)).setCell (C w1.heap.size 1) (.q i)).alloc (.c #[.s sa sn sc] 42)):=ba;refine⟨HR3.o.1.later ha,Ai (BA HR3.o.2.1 (mm HR.o.1.G)) λk _ hlt=>ha.block k hlt,λb hb e=>?_⟩;have e1:=(AC HR3.o.2.1 hb).1;have K:=(AC HR.o.1.E.row e).2;omega
    have hrow:=HZ.o.1.E.row;rw[HZ.o.1.len]at hrow;have HRow:=qX hrow;have HLt:Hid (w1.heap.size+1<=(((wc.setCell (C w1.heap.size 0) (.q c2)).setCell (C w1.heap.size 1) (.q i)).alloc (.c #[.s sa sn sc] 42)).heap.size):=mm HZ.o.1.G;clear hrow;go_wp2_with (at_builtin;go_must (refine xl _ J _ _ 31 J (w1.heap.size+1) 42 iL (.sn) 1 24 IT hiL hzL0 hzL1 hzL2 J dc u15 i xs J HRow.o (C wc.heap.size 0) 1 1 [.slice sa sn sc] J J (by intro j u se;cases j with|zero=>(have:u=.slice sa sn sc:=by simpa using se.symm);rw[this];exact sw _ _ _ _ sm|succ j=>simp at se) (by intro u H;rw[Đ.1 H];rfl) dc (by unfold s7;omega) N HLt.o _ J ?_;intro r7 cap' w9 h1 h2 r9 h4;have HPut:Hid (∃c p ls xs,Ga g pss stop c2 Q v w1 (i+1) (.sl r7 0 (i+1) cap') c p ls xs w9/\(c=0->c0=0)):=⟨c2,i,_,_,HZ.o.1.I HZ.o.2.1 HZ.o.2.2 h1 h2 r9 (λh=>absurd h (by have:=HK.o.2;omega)),λh=>by first|exact HC0.o|exact absurd h (by have:=HK.o.2;omega)⟩;clear h1 h2 r9 h4))
    go_roundg (gk-1)
    case measure=>omega
    case rel=>exact⟨i+1,N,by go_num,HPut.o⟩
   obtain rfl:i=n:=N;go_wp2_with fail;exact⟨J,i,_,0,p,ls,xs,HR.o.1,λ_=>⟨J,HC0.o⟩,J⟩
  have HNc:=qX hc0;by_cases him:i<n
  . go_wp2_with fail;exact⟨J,i,_,c,p,ls,xs,HR.o.1,λh=>absurd h HNc.o,J⟩
  obtain rfl:i=n:=N;go_wp2_with fail;exact⟨J,i,_,c,p,ls,xs,HR.o.1,λh=>absurd h HNc.o,J⟩
end
def Cn.j.same{g:Cn}{ps l E}(h:g.j ps l)(I:g.j ps E):l=E:=by
 obtain⟨Y,i,O⟩:=h;obtain⟨-,h,Z⟩:=I;have G:M5 g.d (Ê g.k.toList) g.e g.h/\Ar ps:=by
  obtain⟨-,h⟩|⟨-,-,h⟩|⟨-,-,i,-,-,h,-⟩|⟨V,U,g,-,-⟩:=Y
  . omega
  . omega
  . omega
  exact⟨V,U⟩
 exact(O.u G.2 Z).2
def l5 (v:M)(e:Exit)(a:Act)(v':M):=e=.ret/\a.defers=[]/\a.tmps.getD 6 uu=.bool true/\zW v v'
section
variable (x0 x1 x2 x3 x6 x7:xn)
def cz (e y:Vl) f(v w1 E:M) c p{ad}(G:FV E ad)(ak:0<c)(Z:Š w1 E (.q c) (.q p))(O:zW v E)(I:Dm E y c p):(VJ ti).wp sr (l5 v) (ε x0 x1 x2 x3 x6 x7 (.sn) y (.pp w1.heap.size 0) e f) E:=by
 have e:=qX (bV y c p E I G);have V:=qX O;obtain⟨c,c,al,am⟩:=Z;clear G I O;simp only[VJ,GY,EF,ε,È,A7,Ak,ti,é];go_wp2_with fail;refine e.o.mono ?_
 rintro e aj⟨rfl,U⟩;have Y:=qX (V.o.tr U);clear U;go_wp2_with fail;exact⟨J,J,J,Y.o⟩
def Za{n ls xs} D B v15 f(v w1 V:M) p(hn:n<=110)(hl:ls.length=n)(O:Š w1 V (.q 0) (.q p))(hb:zW v V)(ho:Nc V B v15 ls xs)
  (hd:∀(j) l,ls[j]? = A l->∃la lcap,V.cell? (C D j)=A (.s la l.length lcap)/\F8 V la l):
  (VJ ti).wp sr (l5 v) (ε x0 x1 x2 x3 x6 x7 (.sl D 0 n n) .n (.pp w1.heap.size 0) v15 f) V:=by
 have hrow:=ho.row;obtain⟨a15,c15,rfl,hb15⟩:∃a c,v15=.s a n c/\∀(j:Nat),j<n->∃b,a=A (C b 0)/\V.cell? (C b j)=xs[j]?:=by
  obtain⟨h1,⟨rfl,a⟩|⟨g,cap,cur,rfl,hB,hg,hn',hm',hc',ht'⟩⟩:=ho.row
  . exact⟨sA,0,by rw[<-hl,a],λj hj=>N⟩
  exact⟨_,cap,by rw[hl],λj hj=>⟨g,J,hrow.cellAt j N⟩⟩
 have HJ:Hid (∀(j:Nat),j<n->∃b la ca lb cb l,a15=A (C b 0)/\V.cell? (C D j)=A (.s la (l:List Sn).length ca)/\V.cell? (C b j)=A (.s lb l.length cb)/\F8 V la l/\F8 V lb l/\l.length<=9223372036854775807):=λj hj=>by
  obtain⟨l,hlj,-⟩:=Ao ls j N;obtain⟨la,ca,h2,h3⟩:=hd j l hlj;obtain⟨x,B,x,-⟩:=ho.d j l hlj;obtain⟨b,rfl,y⟩:=hb15 j hj;obtain⟨lb,cb,rfl,j,a,se,-⟩:=x.open;exact⟨b,la,ca,lb,cb,l,J,h2,y.trans B,h3,se,rX j (rX a (by unfold s7;omega))⟩
 have HB:=qX hb;obtain⟨L,r9,kf0,kf1⟩:=O;clear hb hd ho hrow hb15 hl;simp only[VJ,GY,EF,ε,È,A7,Ak,ti,é];go_wp2_with fail;go_loopg[20] n (λgk b wr=>∃i:Nat,gk+i=n/\b=.q i/\zW V wr)
 case atStart=>exact⟨0,N,J,br⟩
 case round=>
  obtain⟨i,hi',rfl,hbr⟩:=hrel;have HR:=qX hbr;clear hbr;by_cases him:i<n
  .
   obtain⟨b,la,ca,lb,cb,l,rfl,c1,c2,l1,O,se⟩:=HJ.o i him;have c1':=jf HR.o c1;have c2':=jf HR.o c2;have HC:Hid (∀W,zW V W ->qW 13 #[.s la l.length ca,.s lb l.length cb] W (.bool true)):=λW hW=>by
     have h1:=(l1.d hW)
     have h2:=(O.d hW)
     have U:=qX h1;have HB:=qX h2;clear h1 h2;generalize hm:l.length=n at*;have Hn:=(show Hid (l.length=n)from hm)
     clear hm;show Calls _ _ _ _ _;go_in
     go_wp2_with fail;go_loopw[5] (λi wr=>∃k:Nat,k<=n/\i=.q k/\zW W wr)(λi _=>n-(intOf i).toNat)
     case atStart=>exact⟨0,uD _,J,br⟩
     case round=>
      obtain⟨k,hk,rfl,hb⟩:=hrel;have HBR:=qX hb;by_cases hkn:k<n
      .
       obtain⟨⟨x,y,z⟩,hp,-⟩:=Ao l k (by rw[Hn.o];exact hkn);obtain⟨b1,o1,rfl,-,hc1⟩:=U.o.h (by rw[Hn.o];omega);obtain⟨b2,o2,rfl,-,hc2⟩:=HB.o.h (by rw[Hn.o];omega);have c1:wr.cell? (C b1 (o1+k*3))=A (.q x):=jf hb (hc1 k _ hp).1;have c2:wr.cell? (C b1 (o1+k*3+1))=A (.q y):=jf hb (hc1 k _ hp).2.1;have c3:wr.cell? (C b1 (o1+k*3+2))=A (.q z):=jf hb (hc1 k _ hp).2.2;have d1:wr.cell? (C b2 (o2+k*3))=A (.q x):=jf hb (hc2 k _ hp).1;have d2:wr.cell? (C b2 (o2+k*3+1))=A (.q y):=jf hb (hc2 k _ hp).2.1;have d3:wr.cell? (C b2 (o2+k*3+2))=A (.q z):=jf hb (hc2 k _ hp).2.2;have q1:=Tryz.MY;have g1:=λ(W:M) op x y xs ys=>run_eqGuard_agg (P:=sr) W op 75 x y xs ys Tryz.W
       have he:=sU x y z;clear hc1 hc2 hp;go_wp2
       go_quiet (fail);go_wp2
       go_roundw
       case rel=>exact⟨k+1,N,by go_num,ì HBR.o _⟩
       case measure=>simp[intOf];omega
      go_wp2
      go_ret;exact⟨J,HBR.o⟩
   have HD:=qX HR.o.drew;obtain⟨q,f⟩:=ex l.length;have HSb:Hid (∀W,zW V W->W.cell? (C D i)=A (.s la l.length ca)/\W.cell? (C b i)=A (.s lb l.length cb)):=λW hW=>⟨jf hW c1,jf hW c2⟩
   rw[f]at c1' c2' HC HSb;clear c1 c2 l1 O se f;go_wp2_with fail;go_cut[142]from 127 to 142 (λs142 wx=>s142=.bool false/\zW V wx)
   case first=>
    go_region_held3 (λw'=>w'.cell? (C D i)=A (.s la q ca)/\w'.cell? (C b i)=A (.s lb q cb))
     (first|exact hS|exact HSb.o _ HD.o)
     (first|(go_at_call 13;refine(HC.o _ HD.o).mono ?_;rintro e w6⟨rfl,hb6⟩;have HB6:Hid (zW V w6):=HD.o.tr hb6;have hS:=HSb.o w6 HB6.o;clear hb6))
    all_goals (go_wp2_with fail;go_meet;exact⟨J,HB6.o⟩)
   case rest=>
   obtain⟨rfl,hbc⟩:=hcut;have HBc:=qX hbc;clear hbc c1' c2' L r9 kf0 kf1;go_wp2
   go_roundg (gk-1)
   case measure=>omega
   case rel=>exact⟨i+1,N,by go_num,HBc.o⟩
  obtain rfl:i=n:=N;go_wp2_with fail;exact⟨J,J,J,HB.o.tr HR.o⟩
end
def PN (g:Cn)(ps:Nat->List Pk)(n:Nat)(wks:Int)(x y:Vl)(w:M):=∃E I,GV g.d (Ê g.k.toList) g.e g.h E I/\
 ((Bl n wks≠0/\x=.sn/\Dm w y (Bl n wks) (-1))\/
  (Bl n wks=0/\0<E/\x=.sn/\Dm w y E I)\/
  (Bl n wks=0/\E=0/\
  ((∃i c,i<n/\(∀j,j<i ->∃l,g.j (ps j) l)/\(∃p,g.p (ps i) c p)/\0<c/\x=.sn/\Dm w y c i)\/
   (∃D,x=.sl D 0 n n/\y=.n/\∀(i:Nat),i<n ->∃G O l,w.cell? (C D i)=A (.s G (l:List Sn).length O)/\F8 w G l/\g.j (ps i) l))))
def iZ.e{g ps n wks}{x y:Vl}{w:M}(h:iZ g ps n wks x y w):PN g ps n wks x y w:=by
 obtain⟨G,E,I⟩|⟨G,c,p,E,I,O,U⟩|⟨G,E,⟨i,c,I,O,U,Y,l,V⟩|⟨n,D,I,O,U,Y,l,V⟩⟩:=h
 . obtain⟨u,j,h⟩:=RG g.d (IX g.k.toList) g.e g.h;exact⟨u,j,h,.inl ⟨G,E,I.code⟩⟩
 . exact⟨c,p,E,.inr (.inl ⟨G,I,O,U.code⟩)⟩
 . refine⟨_,_,E,.inr (.inr ⟨G,J,.inl ⟨i,c,I,λj c=>?_,U,Y,l,V.code⟩⟩)⟩;obtain⟨u,g,h,l,-,-,Z⟩:=O j c;exact⟨l,Z⟩
 refine⟨_,_,E,.inr (.inr ⟨G,J,.inr ⟨D,U,Y,λi c=>?_⟩⟩)⟩;obtain⟨u,c,-⟩:=Ao n i N;obtain⟨g,h,l,rfl,Z,j⟩:=O i u c;exact⟨g,h,l,V i _ c,Z.j,j⟩
section
variable {g:Cn}{pss:List (List Pk)}{n:Nat}
def zm (G:oA) cap Y wks(I V O a8 a x y:xn) f v ad(b0:FV v ad)(r7:n<=110)(bw:pss.length=n)(b3:Ie v G pss)(bl:n<=cap)(a1:CE v Y (.s g.i g.d.length g.b) g.k g.e (.s g.g g.h.length g.a))(K:CS v g.i g.b g.d g.g g.a g.h)(T:PN g (λi=>pss.getD i []) n wks x y v):(GY ti).wp sr (l5 v) (l2 I (.s G n cap) (.int .i64 wks) (.p (A ⟨Y,0,sA⟩)) V O a8 a x y f) v:=by
 obtain⟨i,j,bx,T⟩:=T;have b4:Bl n wks=0\/0<Bl n wks:=by obtain⟨-,h⟩|⟨-,-,h⟩|⟨-,-,-,h⟩|⟨-,-,-,h⟩:=Ŋ n wks<;>omega
 rw[vz];refine wp_seq (tL ?_ (qT I (.p (A ⟨Y,0,sA⟩)) V O a8 a x y G n cap wks f v));rintro e a b5⟨rfl,w1,aw,rfl,U⟩;obtain⟨aG,rfl⟩:∃aG,a=ju I (.s G n cap) (.int .i64 wks) (.p (A ⟨Y,0,sA⟩)) V O x y (.p (A ⟨w1.heap.size,0,sA⟩)) aG:=⟨_,U⟩
 clear U;have ao:zW v (w1.alloc (.c #[.int .i64 (Bl n wks),.int .i64 (-1)] 39)):=aw.alloc aw.size _;have a:=EE w1 (.int .i64 (Bl n wks)) (.int .i64 (-1)) 39;have h:=BZ a.e;generalize w1.alloc (.c #[.int .i64 (Bl n wks),.int .i64 (-1)] 39)=bt at ao a h⊢;refine wp_seq (tL ?_ (r3 I (.s G n cap) V O x y g Y (.int .i64 wks) (Bl n wks) i j aG w1 bt a (a1.later ao) (K.d ao) bx));rintro e a be⟨rfl,a9,L,U⟩;obtain⟨e,rfl⟩:∃e,a=ju I (.s G n cap) (.int .i64 wks) (.p (A ⟨Y,0,sA⟩)) V O x y (.p (A ⟨w1.heap.size,0,sA⟩)) e:=⟨_,U⟩
 clear U;have bm:=ao.trans (a9.mono aw.size);refine wp_seq (tL ?_ (pr I (.s G n cap) (.p (A ⟨Y,0,sA⟩)) V O x y (.int .i64 wks) (.p (A ⟨w1.heap.size,0,sA⟩)) e be));rintro e a se⟨rfl,rfl,U⟩;obtain⟨P,rfl⟩:∃P,a=ε I (.s G n cap) (.int .i64 wks) (.p (A ⟨Y,0,sA⟩)) V O x y (.p (A ⟨w1.heap.size,0,sA⟩)) (.s sA 0 0) P:=⟨_,U⟩
 clear U;have bc:w1.heap.size<se.heap.size:=rZ h a9.size
 -- what is wrong at first
 obtain⟨aa,am,ac,aj⟩:∃aa am,(if Bl n wks=0 then i else Bl n wks)=aa/\(if Bl n wks=0 then j else -1)=am:=⟨_,_,J,J⟩
 rw[ac,aj]at L;obtain⟨stop,sd,Q,bg,bf,bv,b2,bd⟩:∃(stop:Nat)(sd Q:Int),stop<= n/\(∀i,i<stop ->∃l,g.j (pss.getD i []) l)/\(stop<n ->aa=0 ->(∃p,g.p (pss.getD stop []) sd p)/\0<sd/\Q=stop)/\(aa≠0 ->0<aa/\aa=sd/\am=Q)/\
   ((0<sd/\(aa=0->stop<n)/\x=.s sA 0 0/\Dm v y sd Q)\/(aa=0/\sd=0/\∃D,x=.s (A ⟨D,0,sA⟩) n n/\y=.n/\∀(i:Nat),i<n->∃G an l,v.cell? ⟨D,i,sA⟩=A (.s G (l:List Sn).length an)/\F8 v G l/\g.j (pss.getD i []) l)):=by
  obtain⟨ab,r9,Z⟩|⟨ab,Z,ai,ak⟩|⟨ab,rfl,h⟩:=T
  . rw[Ä ab]at ac aj;subst ac aj;exact⟨0,_,_,uD _,λi al=>by omega,λ_ h=>absurd h ab,λ_=>⟨by omega,J,J⟩,.inl ⟨by omega,λh=>absurd h ab,r9,Z⟩⟩
  . rw[Æ ab]at ac aj;subst ac aj;exact⟨0,_,_,uD _,λi al=>by omega,λ_ h=>by omega,λ_=>⟨Z,J,J⟩,.inl ⟨Z,λh=>by omega,ai,ak⟩⟩
  rw[Æ ab]at ac aj;subst ac aj;obtain⟨i,c,Z,ai,ak,ap,bk,bq⟩|⟨D,Z,ai,ak⟩:=h
  . exact⟨i,c,i,by omega,ai,λ_ _=>⟨ak,ap,J⟩,λh=>absurd J h,.inl ⟨ap,λ_=>Z,bk,bq⟩⟩
  refine⟨n,0,0,lr,λi al=>?_,λh=>absurd h (ų _),λh=>absurd J h,.inr ⟨J,J,D,Z,ai,ak⟩⟩;obtain⟨G,an,l,-,-,ap⟩:=ak i al;exact⟨l,ap⟩
 have b1:Ga g pss stop sd Q v w1 0 (.s sA 0 0) aa am [] [] se:=⟨bm,aw.size,bc,L,J,⟨Ĉ _ _ _ _,λi ls h=>by simp at h⟩,λ_=>⟨uD _,λj l av=>by simp at av⟩,b2⟩
 refine wp_seq (tL ?_ (uk G cap Y I (.int .i64 wks) V O x y P v w1 se aa am r7 bw b3 bl a1 K bg bf bv b1));rintro e a j⟨rfl,i,g,c,p,ls,xs,E,al,U⟩;obtain⟨aq,rfl⟩:∃aq,a=ε I (.s G n cap) (.int .i64 wks) (.p (A ⟨Y,0,sA⟩)) V O x y (.p (A ⟨w1.heap.size,0,sA⟩)) g aq:=⟨_,U⟩
 clear U;obtain⟨ab,r9,rfl,ai⟩|⟨ab,rfl,D,rfl,rfl,Z⟩:=bd
 .
  have bs:c≠0:=λh=>by
   have bZ:=al h;have b6:=(E.a h).1;have b8:=r9 bZ.2;omega
  obtain⟨a,rfl,rfl⟩:=E.b bs;exact cz I _ _ _ V O g y aq v w1 j c p (b0.d E.d) a E.e E.d (ai.d E.d)
 have bn:c=0:=by
  by_cases h:c=0
  . exact h
  have:=E.b h;omega
 subst bn;obtain⟨rfl,-⟩:=al J;refine Za I _ _ _ V O D (w1.heap.size+1) g aq v w1 j p r7 E.len E.e E.d E.E λj l av=>?_
 have bj:j<i:=by
  have:=Ap av;have:=E.len;omega
 obtain⟨bp,an,b7,a,bK,bh⟩:=Z j bj;obtain rfl:=((E.a J).2 j l av).same bh;exact⟨bp,an,jf E.d a,bK.d E.d⟩
end
end Go.Proofs.YtaoikkhlnhfkfaaGreatDoor
