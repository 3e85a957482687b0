import Derived.Test.YtaoikkhlnhfkfaaGreatDoorU00
import Derived.Shelf.Slices.Delete
import Derived.Test.YtaoikkhlnhfkfaaGreatDoorU09
set_option maxHeartbeats 4000000
set_option maxRecDepth 100000
set_option linter.defProp false
set_option linter.unusedSimpArgs false
set_option linter.unusedVariables false
namespace Go.Proofs.YtaoikkhlnhfkfaaGreatDoor
open Proofs.Tryz renaming prog->sr
open Go renaming maxLen->s7,Calls->s8,callFunc->vi
open Option renaming some->A
open RowKit renaming Below->vl,Hid->sE
open Sem renaming run->tj
open Go.RowKit
def q4:Go.Shelf.Ren where
 f:=λ_=>158
 t:=λk=>match k with|0=>0|3=>3|4=>4|_=>23
 g:=λk=>k
def zo:Go.Proofs.Lays2.n23 sr q4 where
 mixed:=kr
 f23:=kr
 t0:=kr
 a0:=λw=>kr
 z0:=λw=>kr
 v0:=λw=>kr
 t3:=kr
 a3:=λw=>kr
 z3:=λw=>kr
 v3:=λw=>kr
 t4:=kr
 a4:=λw=>kr
 z4:=λw=>kr
 v4:=λw=>kr
 t22:=kr
 a22:=λw=>kr
 z22:=λw=>kr
 v22:=λw=>kr
 i3:=kr
def P8 B g cap i(E:lZ)(w:M)(h:w.ownsRow B 3 1 (.sl g 0 E.length cap) E.length (É E))(V:i<E.length)(U:E.length<=cap)(I:cap<=s7):Ë 158 #[.sl g 0 E.length cap,.q (i:Int),.q ((i:Int)+1)] w λe w'=>e=.r (.sl g 0 (E.length-1) cap)/\w'.ownsRow B 3 1 (.sl g 0 (E.length-1) cap) (E.length-1) (É (E.eraseIdx i))/\Ç (λk=>k=g) w w':=by
 have G:=Any.slices_Delete_int zo g 0 cap i (i+1) E w ((by
   intro j O;have Y  := by simpa using O
   refine⟨?_,h.frozenAt _⟩;rw[Ă,h.cellAt j N,Jn _];simp_all)) U (by unfold s7 at I;omega) N N
 refine G.mono ?_
 rintro e w'⟨rfl,q,rfl⟩;exact⟨by rw[show i+1-i=1 by omega],eT h i q V⟩
def Au (q:lN):lZ:=q.map λ(k:Nat)=>(k:Int)
def AJ q:(Au q).length=q.length:=by simp[Au]
def M4{q}{j k:Nat}(h:q[j]? = A k):(Au q)[j]? = A (k:Int):=by simp[Au,h]
def FJ q k:É (Au (q++[k]))=É (Au q)++[.q (k:Int)]:=by simp[Au,É]
def SQ L(i:Nat):Au (L++[i])=Au L++[(i:Int)]:=by simp[Au]
def QD q i:(Au q).eraseIdx i=Au (q.eraseIdx i):=by
 simp only[Au,List.eraseIdx_eq_take_drop_succ,List.map_append,List.map_take,List.map_drop]
structure Ct (B:Nat)(W0:M)(g gm:Nat)(mv:Vl)(w:M)(D:Nat->Prop)(q:lN):Prop where
 b:vl B W0 w
 row:∃v,w.heap[g]? = A (.c #[v] 23 (0,0))/\w.ownsRow B 3 1 v q.length (É (Au q))/\v.ownBlock≠A g/\v.ownBlock≠A gm/\(∀k,D k↔k=g\/k=gm\/v.ownBlock=A k)
 e:w.heap[gm]? = A (.c #[mv] 162 (0,0))
 apart:g≠gm/\B<=g/\B<=gm
section
variable {B:Nat}{W0:World}{g gm:Nat}{mv:Value}{w w':World}{D:Nat->Prop}{q:List Nat}
def Ct.a (h:Ct B W0 g gm mv w D q):∀k,D k->B<=k/\k<w.heap.size:=by
 obtain⟨v,O,G,-,-,I⟩:=h.row;intro k E;rcases(I k).1 E with rfl|rfl|E
 . exact⟨h.apart.2.1,ī O⟩
 . exact⟨h.apart.2.2,ī h.e⟩
 exact AC G E
def Ct.r{S}(h:Ct B W0 g gm mv w D q)(G:Ç S w w')(O:∀k,D k->¬S k)(aa:∀k,S k->B<=k):Ct B W0 g gm mv w' D q:=by
 obtain⟨v,I,Y,X,Z,E⟩:=h.row;have U:=rX h.apart.2.1 (ŕ (ī I));exact⟨h.b.trans (G.d U aa),⟨v,(G.block g (ī I) (O g ((E g).2 (.inl J)))).trans I,Ai Y (λk V U=>G.block k U (O k ((E k).2 (.inr (.inr V))))),X,Z,E⟩,(G.block gm (ī h.e) (O gm ((E gm).2 (.inr (.inl J))))).trans h.e,h.apart⟩
def Ct.later (h:Ct B W0 g gm mv w D q)(E:zW w w'):=
 h.r (S:=λ_=>False) (.e E) (λ_ _ h=>h) (λ_ h=>h.elim)
def Ct.alloc (h:Ct B W0 g gm mv w D q) o:Ct B W0 g gm mv (w.alloc o) D q:=h.later ba
def Ct.d{v v':Vl}{w1 w2:M}{q'}(h:Ct B W0 g gm mv w D q)(av:w.heap[g]? = A (.c #[v] 23 (0,0)))(U:zW w w1)(V:Ç (λk=>v.ownBlock=A k) w1 w2)
  (al:w2.ownsRow B 3 1 v' q'.length (É (Au q')))(Y:∀k,v'.ownBlock=A k->v.ownBlock=A k\/w1.heap.size<=k):
  Bh (Ct B W0 g gm mv) w (w2.setCell (C g 0) v') D q':=by
 obtain⟨u,G,e,X,E,O⟩:=h.row;have e:u=v:=by
  rw[av]at G;injection G with G
  injection G with G
  simp at G
  exact G.symm
 subst e;have e:=ī G;have I:=ī h.e;have W:=rX h.apart.2.1 (ŕ e);have u:=U.size;have T:=(V.block g N X).trans ((U.block g e).trans G);have u:=(V.block gm N E).trans ((U.block gm I).trans h.e);have Z:=Ç.g (S:=λk=>k=g) (Ç.I _ w2) (p:=(C g 0)) J v';have p:v'.ownBlock≠A g:=λe=>by
  obtain I|I:=Y g e
  . exact X I
  omega
 have S:v'.ownBlock≠A gm:=λe=>by
  obtain I|I:=Y gm e
  . exact E I
  omega
 have G:=((Ç.e U).G (V.l λk E=>(O k).2 (.inr (.inr E)))).G (Z.l λk E=>(O k).2 (.inl E));refine⟨λk=>k=g\/k=gm\/v'.ownBlock=A k,⟨h.b.trans (G.d W λk E=>(h.a k E).1),⟨v',one_setCell T,Ai al (λk I E=>Z.block k E (λe=>p (by rw[<-e];exact I))),p,S,λk=>Iff.rfl⟩,(Z.block gm (ī u) (λe=>h.apart.1 e.symm)).trans u,h.apart⟩,G,λk E=>?_⟩;obtain rfl|rfl|E:=E
 . exact .inl ((O _).2 (.inl J))
 . exact .inl ((O _).2 (.inr (.inl J)))
 obtain I|I:=Y k E
 . exact .inl ((O k).2 (.inr (.inr I)))
 exact .inr N
def Ct.u (h:Ct B W0 g gm mv w D q)(E:zW w w'):Bh (Ct B W0 g gm mv) w w' D q:=⟨D,h.later E,.e E,λ_ G=>.inl G⟩
def Bh.a{G}{I:M->(Nat->Prop)->G->Prop}{w w1 w':M}{D q}(E:zW w w1)(h:Bh I w1 w' D q):Bh I w w' D q:=by
 obtain⟨Z,V,U,Y⟩:=h;refine⟨Z,V,(Ç.e E).G U,λk O=>?_⟩;obtain h|h:=Y k O
 . exact .inl h
 exact .inr (rX E.size h)
end
def vN B ac g aj ap D q(k:Nat) w(h:Ct B ac g aj ap w D q)(ao:q.length<=1000):s8 sr 142 #[.q (k:Int),.pp g 0] w λe w'=>e=.r (.t #[])/\Bh (Ct B ac g aj ap) w w' D (q++[k]):=by
 obtain⟨Z,S,R,X,Q⟩:=ó Tryz.b;have r9:=Io h;obtain⟨v,G,O,E,P,W⟩:=h.row;have U:=ī G;have j:=η G;have I:sE (w.heap[g]? = A (.c #[v] 23 (0,0))/\v.ownBlock≠A g/\B<=w.z):=⟨G,E,rX h.apart.2.1 (ŕ U)⟩
 have V:zW w (w.alloc (.c #[.q (k:Int)] 3)):=ba;have se:=Io (Ai O (λg' _ j=>V.block g' j));have T:sE (∀j u,(É [(k:Int)])[j]? = A u->(w.alloc (.c #[.q (k:Int)] 3)).cell? (Addr.add (C w.z 0) j)=A u):=by
  intro j u Y;cases j with
  |zero=>simp[É]at Y;subst Y;simp[Addr.add]
  |succ j=>simp[É]at Y
 have j:=Io (rX I.o.2.2 V.size);clear G O E P W h V;go_in
 go_wp2_with (at_builtin;go_must (refine wpList_append_lies _ J _ _ 23 J B 3 Z (.q 0) 1 8 Tryz.underlying23 S R X Q J dc v q.length (É (Au q)) J se.o (C w.z 0) 1 1 (É [(k:Int)]) J J T.o (Ff _) dc (by unfold s7;omega) N j.o _ J ?_;intro u X j G E V se;have O:Ç (λk=>v.ownBlock=A k) (w.alloc (.c #[.q (k:Int)] 3)) j:=⟨E.os,E.tape,E.output,E.size,λk Y ao=>E.block k Y (λe=>ao e.symm)⟩;have Z:=(O.block g (by simp;omega) I.o.2.1).trans ((Below.heap_alloc w _ g U).trans I.o.1);have P:=η Z;have P:=free_of_one Z;have U:sE (j.ownsRow B 3 1 (.sl u 0 (q.length+1) X) (q.length+1) (É (Au q)++É [(k:Int)])/\Ç (λk=>v.ownBlock=A k) (w.alloc (.c #[.q (k:Int)] 3)) j/\(v.ownBlock=A u\/u=(w.alloc (.c #[.q (k:Int)] 3)).z)):=⟨G,O,V⟩;clear G E V se O Z))
 go_end0;refine⟨J,r9.o.d I.o.1 ba U.o.2.1 ?_ ?_⟩
 . rw[FJ,ý];exact U.o.1
 intro j j;have e:=Ö j;obtain h|h:=U.o.2.2
 . exact .inl (by rw[<-e];exact h)
 exact .inr (by rw[<-e,h];exact lr)
def Ro{w:M}{B}{v:Vl}{E:lZ}(h:w.ownsRow B 3 1 v E.length (É E)):∃I cap,v=.s I E.length cap/\E.length<=cap/\cap<=maxLen:=by
 obtain⟨V,⟨rfl,O⟩|⟨g,cap,cur,rfl,Y,g,U,G,g,Z⟩⟩:=h
 . exact⟨none,0,by rw[O],N,by simp[s7]⟩
 exact⟨_,cap,J,U,G⟩
def Qm{w:M}{B}{v:Vl}{E:lZ}(h:w.ownsRow B 3 1 v E.length (É E))(aa:0<E.length):∃g cap,v=.sl g 0 E.length cap/\E.length<=cap/\cap<=s7/\∀(i) x,E[i]? = A x->w.cell? (C g i)=A (.q x):=by
 have U:=h;obtain⟨Y,⟨rfl,G⟩|⟨g,cap,cur,rfl,Z,G,V,O,G,G⟩⟩:=h
 . omega
 refine⟨g,cap,J,V,O,λi x I=>?_⟩;have G:i<E.length:=by
  obtain G|G:=nR i E.length
  . exact G
  simp[ą G]at I
 rw[U.cellAt i N];exact Jn I
def IV (B:Nat)(w:M)(r cap:Nat)(q:lN)(i:Nat)(e:Ending)(w':M):=
 e=.r (.t #[.q (q.getD i 0:Nat),.sl r 0 (q.length-1) cap])/\w'.ownsRow B 3 1 (.sl r 0 (q.length-1) cap) (q.length-1) (É (Au (q.eraseIdx i)))/\Ç (λj=>j=r) w w'
def oc{q:Prop}(h:q:=by
 go_wp2
 go_quiet (first
  |exact Calls.quiet_of (aI.o _)
  |exact Calls.quiet_of (aC.o _))
 go_wp2
 go_roundw
 case rel=>exact⟨k+1,N,by go_num,by rw[ak.o],m+nq,by rw[aN.o,ν]⟩
 case measure=>simp[intOf];omega):q:=h
def kN B(f:Nat)(ab aa:Vl) key n r cap q(w:M)(bb:q.length<=1000)(ai:0<q.length)(aw:∀k,k∈q->k<n)
  (ac:w.ownsRow B 3 1 (.sl r 0 q.length cap) q.length (É (Au q)))(aW:q.length<=cap)(ap:cap<=s7)
  (bh:∀args W,tj sr (vi f args) W=.ok (.enter f args) W)
  (aq:∀m k,k<n->Ë f #[.q ((k:Nat):Int),ab,aa] (w.drewN m) λe w'=>e=.r (.q (key k))/\∃m',w'=(w.drewN m).drewN m'):
  Calls sr 144 #[.sl r 0 q.length cap,.func (.func f) #[] #[ab,aa]] w λe w'=>IV B w r cap q (BN key q) e w':=by
 have S:=qX aq;have b:=(λ(i:Nat) x (hx:(Au q)[i]? = A x)=>(ac.cellAt i (by have:=Ap hx;rw[AJ]at this;omega)).trans (Jn hx):∀(i:Nat) x,(Au q)[i]? = A x->w.cell? (C r i)=A (.q x))
 have am:sE (w.ownsRow B 3 1 (.sl r 0 (Au q).length cap) (Au q).length (É (Au q))/\cap<=s7/\(Au q).length<=cap):=by rw[AJ];exact⟨ac,ap,aW⟩
 have Z:sE (∀i,i<q.length->∃k,q[i]? = A k/\q.getD i 0=k/\k<n/\w.cell? (C r i)=A (.q ((k:Nat):Int))):=λi a9=>by
  obtain⟨k,U,bc⟩:=Ao q i a9;exact⟨k,U,by simp[List.getD,U],aw k bc,b i _ (M4 U)⟩
 unfold s7 at ap;clear ac aw aq b;obtain⟨l,al⟩:=ex q.length;have G:=qX al;rw[al]at bb ai aW Z⊢;clear al;go_in
 go_wp2_with fail;go_loopw[6,11] (λbf i wr=>∃k:Nat,k<=l/\i=.q k/\bf=.q (Bi key q k)/\∃m,wr=w.drewN m)(λ_ i _=>l-(intOf i).toNat)
 case atStart=>exact⟨0,uD _,J,J,0,J⟩
 case round=>
  obtain⟨k,U,rfl,rfl,m,E⟩:=hrel;have aN:=qX E;by_cases a5:k<l
  .
   have O:Bi key q k<l:=by rw[<-G.o];exact Gr key (by rw[G.o];exact ai) (by rw[G.o];exact U)
   obtain⟨fl,I⟩:=ex (Bi key q k);obtain⟨a,be,R,a6,aE⟩:=Z.o k a5;rw[I]at O⊢;obtain⟨b,aj,Y,a0,V⟩:=Z.o fl O;have O:sE (Bi key q (k+1)=if key a<key b then k else fl):=by
    show Bi key q (k+1)=_
    simp only[Bi,R,I,Y]
   have bg:wr.cell? (C r k)=A (.q (a:Int)):=by rw[E];exact aE
   have bd:wr.cell? (C r fl)=A (.q (b:Int)):=by rw[E];exact V
   have aI:sE (∀j,Ë f #[.q ((a:Nat):Int),ab,aa] (wr.drewN j) λe w'=>e=.r (.q (key a))/\∃m',w'=(wr.drewN j).drewN m'):=λj=>by
    have:=S.o (m+j) a a6;rw[E,ν];exact this
   have aC:sE (∀j,Ë f #[.q ((b:Nat):Int),ab,aa] (wr.drewN j) λe w'=>e=.r (.q (key b))/\∃m',w'=(wr.drewN j).drewN m'):=λj=>by
    have:=S.o (m+j) b a0;rw[E,ν];exact this
   clear I be R aj Y aE V E;by_cases ao:key a<key b
   . have ak:=qX (O.o.trans (Æ ao));exact oc
   have ak:=qX (O.o.trans (Ä ao));exact oc
  obtain rfl:k=l:=N;have O:Bi key q k<k:=by rw[<-G.o];exact Gr key (by rw[G.o];exact ai) lr
  obtain⟨fl,I⟩:=ex (Bi key q k);rw[I]at O⊢;obtain⟨b,aj,Y,a0,V⟩:=Z.o fl O;have bd:wr.cell? (C r fl)=A (.q (b:Int)):=by rw[E];exact V
  have ax:sE (BN key q=fl/\q.getD fl 0=b):=⟨by unfold BN;rw[G.o];exact I,Y⟩
  have a7:sE (Ç (λj=>j=r) w wr):=by
   show Ç _ _ _
   rw[E];exact .e (ì br _)
  have a8:sE (Ë 158 #[.sl r 0 k cap,.q (fl:Int),.q ((fl:Int)+1)] wr λe w'=>e=.r (.sl r 0 (k-1) cap)/\w'.ownsRow B 3 1 (.sl r 0 (k-1) cap) (k-1) (É (Au (q.eraseIdx fl)))/\Ç (λj=>j=r) wr w'):=by
   have a4:wr.ownsRow B 3 1 (.sl r 0 (Au q).length cap) (Au q).length (É (Au q)):=by rw[E];exact am.o.1
   have b:=P8 B r cap fl (Au q) wr a4 (by rw[AJ,G.o];exact O) am.o.2.2 am.o.2.1;rw[AJ,G.o,QD]at b;exact b
  clear I aj Y V E;go_wp2_with fail;refine a8.o.mono ?_
  rintro e w2⟨rfl,i,j⟩;have b:=qY i j;clear i j;go_wp2
  go_ret2;rw[ax.o.1];unfold IV;rw[G.o,ax.o.2];exact⟨J,b.o.1,a7.o.G b.o.2⟩
def oX{q:Prop}(h:q:=by
 go_wp2
 go_quiet (first
  |exact Calls.quiet_of (aG.o _)
  |exact Calls.quiet_of (aB.o _))
 go_wp2
 go_roundw
 case rel=>exact⟨k+1,N,by go_num,by rw[aj.o],m+nq,by rw[aL.o,ν]⟩
 case measure=>simp[intOf];omega):q:=h
def iq B(f:Nat)(aa:Vl) key n r cap q(w:M)(a9:q.length<=1000)(ac:0<q.length)(av:∀k,k∈q->k<n)
  (ab:w.ownsRow B 3 1 (.sl r 0 q.length cap) q.length (É (Au q)))(aN:q.length<=cap)(ao:cap<=s7)
  (bg:∀args W,tj sr (vi f args) W=.ok (.enter f args) W)
  (ap:∀m k,k<n->Ë f #[aa,.q ((k:Nat):Int)] (w.drewN m) λe w'=>e=.r (.q (key k))/\∃m',w'=(w.drewN m).drewN m'):
  Calls sr 144 #[.sl r 0 q.length cap,.func (.func f) #[aa] #[]] w λe w'=>IV B w r cap q (BN key q) e w':=by
 have R:=qX ap;have a:=(λ(i:Nat) x (b:(Au q)[i]? = A x)=>(ab.cellAt i (by have:=Ap b;rw[AJ]at this;omega)).trans (Jn b):∀(i:Nat) x,(Au q)[i]? = A x->w.cell? (C r i)=A (.q x))
 have al:sE (w.ownsRow B 3 1 (.sl r 0 (Au q).length cap) (Au q).length (É (Au q))/\cap<=s7/\(Au q).length<=cap):=by rw[AJ];exact⟨ab,ao,aN⟩
 have Z:sE (∀i,i<q.length->∃k,q[i]? = A k/\q.getD i 0=k/\k<n/\w.cell? (C r i)=A (.q ((k:Nat):Int))):=λi a8=>by
  obtain⟨k,U,bb⟩:=Ao q i a8;exact⟨k,U,by simp[List.getD,U],av k bb,a i _ (M4 U)⟩
 unfold s7 at ao;clear ab av ap a;obtain⟨l,ak⟩:=ex q.length;have G:=qX ak;rw[ak]at a9 ac aN Z⊢;clear ak;go_in
 go_wp2_with fail;go_loopw[6,11] (λbe i wr=>∃k:Nat,k<=l/\i=.q k/\be=.q (Bi key q k)/\∃m,wr=w.drewN m)(λ_ i _=>l-(intOf i).toNat)
 case atStart=>exact⟨0,uD _,J,J,0,J⟩
 case round=>
  obtain⟨k,U,rfl,rfl,m,E⟩:=hrel;have aL:=qX E;by_cases a4:k<l
  .
   have O:Bi key q k<l:=by rw[<-G.o];exact Gr key (by rw[G.o];exact ac) (by rw[G.o];exact U)
   obtain⟨fl,I⟩:=ex (Bi key q k);obtain⟨a,bd,Q,a5,aC⟩:=Z.o k a4;rw[I]at O⊢;obtain⟨b,ai,Y,S,V⟩:=Z.o fl O;have a1:sE (Bi key q (k+1)=if key a<key b then k else fl):=by
    show Bi key q (k+1)=_
    simp only[Bi,Q,I,Y]
   have bf:wr.cell? (C r k)=A (.q (a:Int)):=by rw[E];exact aC
   have bc:wr.cell? (C r fl)=A (.q (b:Int)):=by rw[E];exact V
   have aG:sE (∀j,Ë f #[aa,.q ((a:Nat):Int)] (wr.drewN j) λe w'=>e=.r (.q (key a))/\∃m',w'=(wr.drewN j).drewN m'):=λj=>by
    have:=R.o (m+j) a a5;rw[E,ν];exact this
   have aB:sE (∀j,Ë f #[aa,.q ((b:Nat):Int)] (wr.drewN j) λe w'=>e=.r (.q (key b))/\∃m',w'=(wr.drewN j).drewN m'):=λj=>by
    have:=R.o (m+j) b S;rw[E,ν];exact this
   clear I bd Q ai Y aC V E;by_cases i:key a<key b
   . have aj:=qX (a1.o.trans (Æ i));exact oX
   have aj:=qX (a1.o.trans (Ä i));exact oX
  obtain rfl:k=l:=N;have O:Bi key q k<k:=by rw[<-G.o];exact Gr key (by rw[G.o];exact ac) lr
  obtain⟨fl,I⟩:=ex (Bi key q k);rw[I]at O⊢;obtain⟨b,ai,Y,S,V⟩:=Z.o fl O;have bc:wr.cell? (C r fl)=A (.q (b:Int)):=by rw[E];exact V
  have aw:sE (BN key q=fl/\q.getD fl 0=b):=⟨by unfold BN;rw[G.o];exact I,Y⟩
  have a6:sE (Ç (λj=>j=r) w wr):=by
   show Ç _ _ _
   rw[E];exact .e (ì br _)
  have a7:sE (Ë 158 #[.sl r 0 k cap,.q (fl:Int),.q ((fl:Int)+1)] wr λe w'=>e=.r (.sl r 0 (k-1) cap)/\w'.ownsRow B 3 1 (.sl r 0 (k-1) cap) (k-1) (É (Au (q.eraseIdx fl)))/\Ç (λj=>j=r) wr w'):=by
   have a3:wr.ownsRow B 3 1 (.sl r 0 (Au q).length cap) (Au q).length (É (Au q)):=by rw[E];exact al.o.1
   have a:=P8 B r cap fl (Au q) wr a3 (by rw[AJ,G.o];exact O) al.o.2.2 al.o.2.1;rw[AJ,G.o,QD]at a;exact a
  clear I ai Y V E;go_wp2_with fail;refine a7.o.mono ?_
  rintro e w2⟨rfl,ax,a0⟩;have i:=qY ax a0;clear ax a0;go_wp2
  go_ret2;rw[aw.o.1];unfold IV;rw[G.o,aw.o.2];exact⟨J,i.o.1,a6.o.G i.o.2⟩
def vO B I g ab U D q w(h:Ct B I g ab U w D q):s8 sr 145 #[.pp g 0] w λe w'=>e=.r (.q (q.length:Int))/\w'=w:=by
 obtain⟨v,G,E,v,Y,Z⟩:=h.row;rw[<-AJ]at E;obtain⟨O,cap,rfl,O,V⟩:=Ro E;rw[AJ]at G O;have O:=η G;unfold s7 at V;clear G E v Y Z h;go_in
 go_wp2
 go_ret;exact⟨J,J⟩
def uf B ac(g ai f:Nat)(ab Z:Vl) key n D q w(h:Ct B ac g ai (.func (.func f) #[] #[ab,Z]) w D q)(aL:q.length<=1000)(O:0<q.length)(aj:∀k,k∈q->k<n)
  (a0:∀args W,tj sr (vi f args) W=.ok (.enter f args) W)
  (aq:∀W k,vl B ac W->k<n->Ë f #[.q ((k:Nat):Int),ab,Z] W λe w'=>e=.r (.q (key k))/\∃m,w'=W.drewN m):
  Calls sr 143 #[.pp g 0,.pp ai 0] w λe w'=>e=.r (.q (q.getD (BN key q) 0:Nat))/\Bh (Ct B ac g ai (.func (.func f) #[] #[ab,Z])) w w' D (q.eraseIdx (BN key q)):=by
 have K:=Io h;obtain⟨v,U,E,S,r9,se⟩:=h.row;rw[<-AJ]at E;obtain⟨r,cap,rfl,j,l,T⟩:=Qm E (by rw[AJ];exact O);have i:=qZ E l j;rw[AJ]at U j;have L:=η U;have i:=η h.e;have X:sE (w.heap[g]? = A (.c #[.sl r 0 q.length cap] 23 (0,0))/\r≠g):=⟨U,λe=>S (by rw[e];rfl)⟩
 have i:sE (∀i,i<q.length->∃k,q[i]? = A k/\q.getD i 0=k/\k<n/\w.cell? (C r i)=A (.q ((k:Nat):Int))):=λi I=>by
  obtain⟨k,G,x⟩:=Ao q i I;exact⟨k,G,by simp[List.getD,G],aj k x,T i _ (M4 G)⟩
 have Q:w.ownsRow B 3 1 (.sl r 0 q.length cap) q.length (É (Au q)):=by rw[AJ]at E;exact E
 have I:=kN B f ab Z key n r cap q w aL O aj Q j l a0 (λm' k G=>aq _ k (ì h.b _) G);unfold IV at I;have R:=J8 key O;have G:sE ((q.eraseIdx (BN key q)).length=q.length-1):=by
  show _=_
  rw[l6,Æ R]
 obtain⟨x,i⟩:=ex (q.getD (BN key q) 0);obtain⟨l,V⟩:=ex q.length;obtain⟨x,Y⟩:=ex (BN key q);rw[i];rw[i,V,Y]at I;rw[Y];rw[Y]at G;have P:=Io I;have x:=Io V;rw[V]at L aL O j;clear U E S r9 se h aj aq T Q I R i V Y;go_in
 go_wp2_with fail;refine P.o.mono ?_
 rintro e I⟨rfl,E,j⟩;have i:I.heap[g]? = A (.c #[.sl r 0 l cap] 23 (0,0)):=by
  have:=X.o.1;rw[x.o]at this;exact(j.block g (ī this) (λe=>X.o.2 e.symm)).trans this
 have l:=η i;have l:=free_of_one i;have l:=qY E j;clear E j i;go_wp2
 go_ret;refine⟨rfl,K.o.d (v:=.sl r 0 q.length cap) X.o.1 br (l.o.2.l λj i=>by rw[i];rfl) ?_ (λj i=>.inl i)⟩;rw[G.o,x.o];exact l.o.1
def Ir (g E:Nat):Vl:=.agg #[.func (.func 142) #[] #[.pp g 0],.func (.func 143) #[] #[.pp g 0,.pp E 0],.func (.func 145) #[] #[.pp g 0]]
def Zt B G g E I D q w(h:Ct B G g E I w D q):s8 sr 209 #[Ir g E] w λe w'=>e=.r (.q (q.length:Int))/\Bh (Ct B G g E I) w w' D q:=by
 have O:=Io h;clear h;unfold Ir;go_in
 go_wp2_with fail;refine(vO B G g E I D q _ (O.o.alloc _)).mono ?_
 rintro e Z⟨rfl,rfl⟩;go_wp2
 go_ret;exact⟨J,O.o.u ba⟩
def YY B E(g I f:Nat)(G O:Vl) key n D q w(h:Ct B E g I (.func (.func f) #[] #[G,O]) w D q)(ak:q.length<=1000)(ai:0<q.length)(Y:∀k,k∈q->k<n)
  (U:∀args W,tj sr (vi f args) W=.ok (.enter f args) W)
  (Z:∀W k,vl B E W->k<n->Ë f #[.q ((k:Nat):Int),G,O] W λe w'=>e=.r (.q (key k))/\∃m,w'=W.drewN m):
  Calls sr 208 #[Ir g I] w λe w'=>e=.r (.q (q.getD (BN key q) 0:Nat))/\Bh (Ct B E g I (.func (.func f) #[] #[G,O])) w w' D (q.eraseIdx (BN key q)):=by
 have X:=Io (λw' V=>uf B E g I f G O key n D q w' V ak ai Y U Z);have V:=Io h;clear h Y U Z;unfold Ir;go_in
 go_wp2_with fail;refine(X.o _ (V.o.alloc _)).mono ?_
 rintro e V⟨rfl,V⟩;have X:=Io (V.a ba);clear V;go_wp2
 go_ret;exact⟨J,X.o⟩
def Yz B G g E I D q(k:Nat) w(h:Ct B G g E I w D q)(Y:q.length<=1000):s8 sr 207 #[Ir g E,.q (k:Int)] w λe w'=>e=.r (.t #[])/\Bh (Ct B G g E I) w w' D (q++[k]):=by
 have V:=Io h;clear h;unfold Ir;go_in
 go_wp2_with fail;refine(vN B G g E I D q k _ (V.o.alloc _) Y).mono ?_
 rintro e O⟨rfl,O⟩;have U:=Io (O.a ba);clear O;go_wp2
 go_end0;exact⟨J,U.o⟩
def Ol (I:Vl)(f:Nat)(G E:Vl)(Y:I=.func (.func f) #[] #[G,E])(w:M):s8 sr 114 #[I] w λe w'=>e=.r (.f 225 (Ir (w.heap.size+1) w.heap.size))/\Ct w.heap.size w (w.heap.size+1) w.heap.size I w' (λk=>k=w.heap.size+1\/k=w.heap.size) []/\zW w w':=by
 subst Y;unfold Ir;go_in
 go_wp2
 go_ret;have O:zW w (w.alloc (.c #[.func (.func f) #[] #[G,E]] 162)):=ba;have U:zW w ((w.alloc (.c #[.func (.func f) #[] #[G,E]] 162)).alloc (.c #[.sn] 23)):=O.alloc O.size _;have V:(w.alloc (.c #[.func (.func f) #[] #[G,E]] 162)).heap.size=w.heap.size+1:=sm;refine⟨sm,⟨U,⟨.s none 0 0,?_,Ĉ _ _ _ _,(λe=>by cases e),(λe=>by cases e),λk=>by simp[Value.ownBlock]⟩,?_,N,N,lr⟩,U⟩
 . have:=ř (w.alloc (.c #[.func (.func f) #[] #[G,E]] 162)) (.c #[.sn] 23);rwa[V]at this
 rw[Below.heap_alloc _ _ _ (by rw[V];omega)];exact ř w _
variable {w:M}{R:tI ->Vl ->M ->Prop}
def Gj (per:Int)(ps:List Pk)(E:lZ)(B:Nat)(w:M)(v:Vl)(w':M):=∃l,Dz w' w.heap.size v l/\FD per ps E l/\l.length=ps.length/\vl B w w'
def SG (a:oA) cap ps per G B I(g O f:Nat)(Z Y:Vl) al(w:M)(aC:AL w a ps)(U:Ar ps)(av:1<=per)(ao:per<=1000)(aI:∀ad,a=A ad->0<ps.length->ad.block<B)(aa:Ct B I g O (.func (.func f) #[] #[Z,Y]) w al [])
  (ax:∀args W,tj sr (vi f args) W=.ok (.enter f args) W)
  (ap:∀W k,vl B I W->k<ps.length->Ë f #[.q ((k:Nat):Int),Z,Y] W λe w'=>e=.r (.q (G.getD k 0))/\∃m,w'=W.drewN m):
  Ë 110 #[.s a ps.length cap,.q per,.f 225 (Ir g O)] w λe w'=>∃v,e=.r v/\Gj per ps G B w v w':=by
 have T:=ol G;have p:=Wj (per:=per) (ps:=ps) T N U;have D:B<=w.z:=by
  obtain⟨v,h,-⟩:=aa.row;exact rX aa.apart.2.1 (ŕ (ī h))
 have S:∀s,Â (ņ λi=>G.getD i 0) per ps [] s->s.q.length<=1000:=λs E=>by
  have h:=E.b p;have R:=E.a;have:=U.j;have:(ņ λi=>G.getD i 0).rest s.q=s.q.length:=rfl;omega
 refine(VE (ņ λi=>G.getD i 0) (Ct B I g O (.func (.func f) #[] #[Z,Y])) per ps [] B _ _ _ (⟨λ_ _ _ h=>h.a,λ_ _ _ _ _ h X s i=>h.r X s i⟩) p U av ao ?_ ?_ ?_ a cap w aC D aI al aa).mono ?_
 . intro w D s p E h V;exact Yz B I g O _ D s.q s.e w V (S s E)
 . intro w D s E p V;have h:=Si T N U E;exact YY B I g O f Z Y (λi=>G.getD i 0) ps.length D s.q w V (S s E) p (λk i=>by have:=((h.m k).1 i).1;have:=h.t;omega) ax ap
 . intro w D s E V;rw[Px _ (λ_=>J)];exact Zt B I g O _ D _ w V
 rintro e w'⟨s,v,rfl,E,R,i,p,X⟩;obtain⟨h,s⟩:=ky T N U E R i;exact⟨v,J,_,p,h,s,X⟩
structure ê (w W:M)(p q:Vl):Prop where
 d:zW w W
 a:W.cell? (C w.heap.size 0)=A p
 k:W.cell? (C (w.heap.size+1) 0)=A q
 G:w.heap.size+2<=W.heap.size
def Ke w(p q:Vl)(t u:tI):ê w ((w.alloc (.c #[p] t)).alloc (.c #[q] u)) p q:=by
 have E:(w.alloc (.c #[p] t)).heap.size=w.heap.size+1:=sm;refine⟨ba.alloc N _,jf ba sm,?_,sm⟩;simp_all
def ê.later{W I:M}{p q}(h:ê w W p q)(E:zW W I):ê w I p q:=
 ⟨h.d.tr E,jf E h.a,jf E h.k,rX h.G E.size⟩
def Gj.a{per ps E B w1 w' v}(h:Gj per ps E B w1 v w')(G:zW w w1)(V:w.heap.size<=B):Gj per ps E w.heap.size w v w':=by
 obtain⟨l,U,I,Y,O⟩:=h;exact⟨l,BA U G.size,I,Y,G.trans (O.mono V)⟩
def vB (args:Array Vl)(W:M):tj sr (vi 113 args) W=.ok (.enter 113 args) W:=kr
def Vm (args:Array Vl)(W:M):tj sr (vi 115 args) W=.ok (.enter 115 args) W:=kr
def YV (a:oA) cap ps per(U:oA) ac(E:lZ)(w W I:M) ab(aj:AL w a ps)(ao:Bc w U E)(Z:Ar ps)(al:1<=per)(ak:per<=1000)(ai:E.length=8)(G:ê w W (.s a ps.length cap) (.s U E.length ac))
  (am:Ct W.heap.size W (W.heap.size+1) W.heap.size (.func (.func 113) #[] #[.pp (w.heap.size+1) 0,.pp w.heap.size 0]) I ab [])(aa:zW W I):
  Ë 110 #[.s a ps.length cap,.q per,.f 225 (Ir (W.heap.size+1) W.heap.size)] I λe w'=>∃v,e=.r v/\Gj per ps (BM ps E) w.heap.size w v w':=by
 have V:=aj.d G.d;refine(SG a _ ps _ (BM ps E) _ W _ _ _ _ _ ab I (V.d aa) Z al ak V.i am vB (λh k O Y=>?_)).mono ?_
 . rw[Qz Y];exact yZ ps E _ _ a _ U _ h k ((G.later O).a) ((G.later O).k) (V.d O) ((ao.d G.d).d O) Z ai Y
 rintro e w'⟨v,rfl,h⟩;exact⟨v,J,h.a (G.d.tr aa) G.d.size⟩
def YG (a:oA) cap ps per(U:oA) ac(E:lZ)(w W I:M) ab(aj:AL w a ps)(ao:Bc w U E)(Z:Ar ps)(al:1<=per)(ak:per<=1000)(ai:Ef 0 1099511627776 E)(G:ê w W (.s a ps.length cap) (.s U E.length ac))
  (am:Ct W.heap.size W (W.heap.size+1) W.heap.size (.func (.func 115) #[] #[.pp w.heap.size 0,.pp (w.heap.size+1) 0]) I ab [])(aa:zW W I):
  Ë 110 #[.s a ps.length cap,.q per,.f 225 (Ir (W.heap.size+1) W.heap.size)] I λe w'=>∃v,e=.r v/\Gj per ps (Cm ps E) w.heap.size w v w':=by
 have V:=aj.d G.d;refine(SG a _ ps _ (Cm ps E) _ W _ _ _ _ _ ab I (V.d aa) Z al ak V.i am Vm (λh k O Y=>?_)).mono ?_
 . rw[SH Y];exact qo ps E _ _ a _ U _ h k ((G.later O).a) ((G.later O).k) (V.d O) ((ao.d G.d).d O) Z ai Y
 rintro e w'⟨v,rfl,h⟩;exact⟨v,J,h.a (G.d.tr aa) G.d.size⟩
def jK (a:oA) cap ps per(O:oA) U(E:lZ)(w:M)(ai:AL w a ps)(aj:Bc w O E)(ac:Ar ps)(an:1<=per)(al:per<=1000)(aa:Ef 0 100 E):s8 sr 65 #[.s a ps.length cap,.q per,.s O E.length U] w λe w'=>∃v,e=.r (.t #[v,.n])/\Gj per ps (BM ps E) w.heap.size w v w':=by
 have k:=Ke w (.s a ps.length cap) (.s O E.length U) 29 23;have T:=qX k;obtain⟨-,aw,aW,-⟩:=k;have a3:sE (∀W,zW w W->qW 109 #[.s a ps.length cap,.q per] W .n):=λW G=>DW a cap ps per W (ai.d G) ac an al
 have S:sE (∀W,zW w W->qW 112 #[.s O E.length U,.q 100] W .n):=λW G=>Qt O U E 100 W (aj.d G) aa
 have a0:sE (∀W I V,ê w W (.s a ps.length cap) (.s O E.length U) ->Ct W.z W (W.z+1) W.z (.func (.func 113) #[] #[.pp (w.z+1) 0,.pp w.z 0]) I V [] ->zW W I ->
   Ë 110 #[.s a ps.length cap,.q per,.f 225 (Ir (W.z+1) W.z)] I λe w'=>∃v,e=.r v/\Gj per ps (BM ps E) w.z w v w'):=λW I V a1 Z X=>YV a cap ps per O U E w W I V ai aj ac an al aa.len a1 Z X
 clear ai aj ac aa;generalize aB:ps.length=n at*;generalize k:E.length=m at*;clear aB k;go_in
 go_wp2_with fail;refine(a3.o _ T.o.d).mono ?_
 rintro e w1⟨rfl,G⟩;have Y:=qX (T.o.later G);have aG:=Y.o.a;have k:=Y.o.k;clear G aw aW;go_wp2_with fail;refine(S.o _ Y.o.d).mono ?_
 rintro e W⟨rfl,G⟩;have I:=qX (Y.o.later G);have a5:=I.o.a;have a6:=I.o.k;clear G aG k;have G:sE (Ë 114 #[.func (.func 113) #[] #[.pp (w.z+1) 0,.pp w.z 0]] W.drew λe w'=>e=.r (.f 225 (Ir (W.z+1) W.z))/\Ct W.z W.drew (W.z+1) W.z (.func (.func 113) #[] #[.pp (w.z+1) 0,.pp w.z 0]) w' (λk=>k=W.z+1\/k=W.z) []/\vl W.z W.drew w'):=Ol _ 113 _ _ J W.drew;have T:sE (ê w W.drew (.s a n cap) (.s O m U)):=I.o.later (ì br 1);have S:sE (∀I V,Ct W.z W.drew (W.z+1) W.z (.func (.func 113) #[] #[.pp (w.z+1) 0,.pp w.z 0]) I V [] ->vl W.z W.drew I ->
   Ë 110 #[.s a n cap,.q per,.f 225 (Ir (W.z+1) W.z)] I λe w'=>∃v,e=.r v/\Gj per ps (BM ps E) w.z w v w'):=λI V Z X=>a0.o W.drew I V T.o Z X
 go_wp2_with fail;go_region_with (first
  |(go_simp;go_at_call 114;go_must (refine G.o.mono ?_;rintro e k⟨rfl,m,G⟩;have a4:k.cell? (C w.z 0)=A (.slice a n cap):=(T.o.later G).a;have aL:sE (Ë 110 #[.slice a n cap,.q per,.iface 225 (Ir (W.z+1) W.z)] k λe w'=>∃v,e=.returned v/\Gj per ps (BM ps E) w.z w v w'):=S.o k _ m G;clear m G))
  |(go_simp;go_at_call 110;go_must (refine aL.o.mono ?_;rintro e w4⟨v,rfl,k⟩;have a2:sE (Gj per ps (BM ps E) w.z w v w4):=k;clear k))
  |fail)
 all_goals (go_wp2_with fail)
 all_goals (go_ret2;exact⟨v,J,a2.o⟩)
def mf (a:oA) cap ps per(O:oA) U(E:lZ)(w:M)(ai:AL w a ps)(aj:Bc w O E)(ac:Ar ps)(an:1<=per)(al:per<=1000)(aa:Ef 0 1099511627776 E):s8 sr 66 #[.s a ps.length cap,.q per,.s O E.length U] w λe w'=>∃v,e=.r (.t #[v,.n])/\Gj per ps (Cm ps E) w.heap.size w v w':=by
 have k:=Ke w (.s a ps.length cap) (.s O E.length U) 29 23;have T:=qX k;obtain⟨-,aw,aW,-⟩:=k;have a3:sE (∀W,zW w W->qW 109 #[.s a ps.length cap,.q per] W .n):=λW G=>DW a cap ps per W (ai.d G) ac an al
 have S:sE (∀W,zW w W->qW 112 #[.s O E.length U,.q 1099511627776] W .n):=λW G=>Qt O U E 1099511627776 W (aj.d G) aa
 have a0:sE (∀W I V,ê w W (.s a ps.length cap) (.s O E.length U) ->Ct W.z W (W.z+1) W.z (.func (.func 115) #[] #[.pp w.z 0,.pp (w.z+1) 0]) I V [] ->zW W I ->
   Ë 110 #[.s a ps.length cap,.q per,.f 225 (Ir (W.z+1) W.z)] I λe w'=>∃v,e=.r v/\Gj per ps (Cm ps E) w.z w v w'):=λW I V a1 Z X=>YG a cap ps per O U E w W I V ai aj ac an al aa a1 Z X
 clear ai aj ac aa;generalize aB:ps.length=n at*;generalize k:E.length=m at*;clear aB k;go_in
 go_wp2_with fail;refine(a3.o _ T.o.d).mono ?_
 rintro e w1⟨rfl,G⟩;have Y:=qX (T.o.later G);have aG:=Y.o.a;have k:=Y.o.k;clear G aw aW;go_wp2_with fail;refine(S.o _ Y.o.d).mono ?_
 rintro e W⟨rfl,G⟩;have I:=qX (Y.o.later G);have a5:=I.o.a;have a6:=I.o.k;clear G aG k;have G:sE (Ë 114 #[.func (.func 115) #[] #[.pp w.z 0,.pp (w.z+1) 0]] W.drew λe w'=>e=.r (.f 225 (Ir (W.z+1) W.z))/\Ct W.z W.drew (W.z+1) W.z (.func (.func 115) #[] #[.pp w.z 0,.pp (w.z+1) 0]) w' (λk=>k=W.z+1\/k=W.z) []/\vl W.z W.drew w'):=Ol _ 115 _ _ J W.drew;have T:sE (ê w W.drew (.s a n cap) (.s O m U)):=I.o.later (ì br 1);have S:sE (∀I V,Ct W.z W.drew (W.z+1) W.z (.func (.func 115) #[] #[.pp w.z 0,.pp (w.z+1) 0]) I V [] ->vl W.z W.drew I ->
   Ë 110 #[.s a n cap,.q per,.f 225 (Ir (W.z+1) W.z)] I λe w'=>∃v,e=.r v/\Gj per ps (Cm ps E) w.z w v w'):=λI V Z X=>a0.o W.drew I V T.o Z X
 go_wp2_with fail;go_region_with (first
  |(go_simp;go_at_call 114;go_must (refine G.o.mono ?_;rintro e k⟨rfl,m,G⟩;have a4:k.cell? (C w.z 0)=A (.slice a n cap):=(T.o.later G).a;have aL:sE (Ë 110 #[.slice a n cap,.q per,.iface 225 (Ir (W.z+1) W.z)] k λe w'=>∃v,e=.returned v/\Gj per ps (Cm ps E) w.z w v w'):=S.o k _ m G;clear m G))
  |(go_simp;go_at_call 110;go_must (refine aL.o.mono ?_;rintro e w4⟨v,rfl,k⟩;have a2:sE (Gj per ps (Cm ps E) w.z w v w4):=k;clear k))
  |fail)
 all_goals (go_wp2_with fail)
 all_goals (go_ret2;exact⟨v,J,a2.o⟩)
def Zc (a:oA) n cap per(E:oA) m G w(h:∀W,ê w W (.s a n cap) (.s E m G)->Ë 109 #[.s a n cap,.q per] W λe w'=>∃ty v,e=.r (.f ty v)/\R ty v w'):s8 sr 65 #[.s a n cap,.q per,.s E m G] w λe w'=>∃ty v,e=.r (.t #[.sn,.f ty v])/\R ty v w':=by
 have I:=Ke w (.s a n cap) (.s E m G) 29 23;have Y:=qX I;obtain⟨-,Z,O,-⟩:=I;have V:=qX h;clear h;go_in
 go_wp2_with fail;refine(V.o _ Y.o).mono ?_
 rintro e I⟨ty,v,rfl,O⟩;have U:=qX O;clear O;go_wp2
 go_ret2;exact⟨ty,v,J,U.o⟩
def Zd (a:oA) n cap per(E:oA) m G w(h:∀W,ê w W (.s a n cap) (.s E m G)->Ë 109 #[.s a n cap,.q per] W λe w'=>e=.returned .n/\zW W w')
  (O:∀W,ê w W (.s a n cap) (.s E m G)->Ë 112 #[.s E m G,.q 100] W λe w'=>∃ty v,e=.r (.f ty v)/\R ty v w'):
  Calls sr 65 #[.s a n cap,.q per,.s E m G] w λe w'=>∃ty v,e=.r (.t #[.sn,.f ty v])/\R ty v w':=by
 have I:=Ke w (.s a n cap) (.s E m G) 29 23;have Z:=qX I;obtain⟨-,U,X,-⟩:=I;have I:=qX h;have T:=qX O;clear h O;go_in
 go_wp2_with fail;refine(I.o _ Z.o).mono ?_
 rintro e I⟨rfl,V⟩;have Y:=qX (Z.o.later V);have I:=Y.o.k;clear V U X;go_wp2_with fail;refine(T.o _ Y.o).mono ?_
 rintro e I⟨ty,v,rfl,U⟩;have I:=qX U;clear U;go_wp2
 go_ret2;exact⟨ty,v,J,I.o⟩
def ZK (a:oA) n cap per(E:oA) m G w(h:∀W,ê w W (.s a n cap) (.s E m G)->Ë 109 #[.s a n cap,.q per] W λe w'=>∃ty v,e=.r (.f ty v)/\R ty v w'):s8 sr 66 #[.s a n cap,.q per,.s E m G] w λe w'=>∃ty v,e=.r (.t #[.sn,.f ty v])/\R ty v w':=by
 have I:=Ke w (.s a n cap) (.s E m G) 29 23;have Y:=qX I;obtain⟨-,Z,O,-⟩:=I;have V:=qX h;clear h;go_in
 go_wp2_with fail;refine(V.o _ Y.o).mono ?_
 rintro e I⟨ty,v,rfl,O⟩;have U:=qX O;clear O;go_wp2
 go_ret2;exact⟨ty,v,J,U.o⟩
def ZV (a:oA) n cap per(E:oA) m G w(h:∀W,ê w W (.s a n cap) (.s E m G)->Ë 109 #[.s a n cap,.q per] W λe w'=>e=.returned .n/\zW W w')
  (O:∀W,ê w W (.s a n cap) (.s E m G)->Ë 112 #[.s E m G,.q 1099511627776] W λe w'=>∃ty v,e=.r (.f ty v)/\R ty v w'):
  Calls sr 66 #[.s a n cap,.q per,.s E m G] w λe w'=>∃ty v,e=.r (.t #[.sn,.f ty v])/\R ty v w':=by
 have I:=Ke w (.s a n cap) (.s E m G) 29 23;have Z:=qX I;obtain⟨-,U,X,-⟩:=I;have I:=qX h;have T:=qX O;clear h O;go_in
 go_wp2_with fail;refine(I.o _ Z.o).mono ?_
 rintro e I⟨rfl,V⟩;have Y:=qX (Z.o.later V);have I:=Y.o.k;clear V U X;go_wp2_with fail;refine(T.o _ Y.o).mono ?_
 rintro e I⟨ty,v,rfl,U⟩;have I:=qX U;clear U;go_wp2
 go_ret2;exact⟨ty,v,J,I.o⟩
end Go.Proofs.YtaoikkhlnhfkfaaGreatDoor
