import Derived.Test.YtaoikkhlnhfkfaaGreatDoorU00
import Derived.Test.YtaoikkhlnhfkfaaGreatDoorU08
import Derived.Maps.OwnSet
import Derived.Deep.RegionHeldLaw
import Derived.Deep.DeepCutAuto
import Derived.Deep.RegionLaw
set_option maxHeartbeats 2000000
set_option maxRecDepth 100000
set_option linter.defProp false
set_option linter.unusedSimpArgs false
set_option linter.unusedVariables false
namespace Go.Proofs.YtaoikkhlnhfkfaaGreatDoor
open Option renaming some->A
open Go renaming Calls->s8,maxLen->s7
open Proofs.Tryz renaming prog->sr
open Bool renaming true->sy,false->ss
open List renaming any_eq_false->B'
open ChangeMaps renaming setBlock->wV
open Ending renaming returned->xt
open Go.RowKit
variable {B g:Nat}{w w' w1:M}{D:Nat ->Prop}{q:lN}
def FT (B g:Nat)(w:M)(D:Nat->Prop)(q:lN):=
 ∃v F,w.heap[g]? = A (.c #[v] 23 (0,0))/\BG w B v F q/\¬F g/\B<=g/\(∀k,D k↔k=g\/F k)
def FT.a (h:FT B g w D q):∀k,D k->B<=k/\k<w.heap.size:=by
 have⟨v,F,O,G,V,I,U⟩:=h;intro k E;rcases(U k).1 E with rfl|E
 exact⟨I,ī O⟩
 exact G.a k E
def FT.r{S}(h:FT B g w D q)(I:Ç S w w')(O:∀k,D k->¬S k):FT B g w' D q:=by
 have⟨v,F,G,V,Z,Y,E⟩:=h;exact⟨v,F,(I.block g (ī G) (O g ((E g).2 (.inl J)))).trans G,V.r I (λk U=>O k ((E k).2 (.inr U))),Z,Y,E⟩
def NM (B g:Nat)(w w':M)(D:Nat->Prop)(q:lN):=∃E,FT B g w' E q/\Ç D w w'/\∀k,E k->D k\/w.heap.size<=k
def NQ{F G}{w2:M}{v v':Vl}(ac:¬F g)(T:B<=g)(I:∀k,D k↔k=g\/F k)(h:g<w.heap.size)(ai:zW w w1)(h:w.heap.size<=w1.heap.size)(W:Ç F w1 w2)
  (Z:w2.heap[g]? = A (.c #[v] 23 (0,0)))(Y:BG w2 B v' G q)(V:∀k,G k->F k\/w1.heap.size<=k):NM B g w (w2.setCell (C g 0) v') D q:=by
 let U:¬G g:=λh=>by
  obtain h|h:=V g h
  exact ac h
  omega
 let O:=Ç.g (S:=λk=>k=g) (Ç.I _ w2) (p:=(C g 0)) J v';refine⟨λk=>k=g\/G k,⟨v',G,one_setCell Z,Y.r O (λk E e=>U (e▸E)),U,T,λk=>Iff.rfl⟩,?_,λk E=>?_⟩
 refine((Ç.e ai).G (W.l λk E=>(I k).2 (.inr E))).G (O.l λk E=>(I k).2 (.inl E))
 obtain rfl|E:=E
 exact .inl ((I _).2 (.inl J))
 obtain h|h:=V k E
 exact .inl ((I k).2 (.inr h))
 exact .inr N
def tq B g D(q:List Nat)(k:Nat)(w:World)(h:FT B g w D q)(e:q.length<=1000):s8 sr 138 #[.int .i64 k,.pointer (A ⟨g,0,none⟩)] w λe w'=>e=.returned (.tuple #[])/\NM B g w w' D (q++[k]):=by
 have⟨T,W,X,U,Y⟩:=ó Tryz.b;have⟨v,F,E,V,e,Z,O⟩:=h;obtain⟨I,cap,rfl,h,h⟩:=V.h;have h:=η E;have v:=ī E;have h:=Io E;have Q:Hid (BG (w.alloc (.cells #[.int .i64 k] 3)) B (.slice I q.length cap) F q):=V.r (S:=λ_=>False) (.e ba) (λ_ _ h=>h);have G:Hid (¬F g/\B<=g/\(∀k,D k↔k=g\/F k)):=⟨e,Z,O⟩
 have R:Hid ((w.alloc (.cells #[.int .i64 k] 3)).heap[g]? = A (.cells #[.slice I q.length cap] 23 (0,0))):=(Below.heap_alloc w _ g v).trans E;clear E V e O;go_in
 go_wp2_with (at_builtin;go_must (refine JM _ J _ _ 23 J 3 T (.int .i64 0) 8 Tryz.underlying23 W X U Y J B (.slice I q.length cap) F k q J Q.o so ⟨w.heap.size,0,none⟩ 1 J sm ud N λS E e O=>?_;have⟨D,h,Z,Y⟩:=O;let U:=(Y.block g so G.o.1).trans R.o;have O:=η U;have O:=free_of_one U;have O:Hid (BG e B (.slice S (q.length+1) E) D (q++[k])/\(∀k,D k->F k\/w.heap.size+1<=k)/\Ç F (w.alloc (.cells #[.int .i64 k] 3)) e/\e.heap[g]? = A (.cells #[.slice I q.length cap] 23 (0,0))):=⟨h,sx Z,Y,U⟩;clear h Z Y U))
 go_end0;exact⟨J,NQ G.o.1 G.o.2.1 G.o.2.2 v ba sm O.o.2.2.1 O.o.2.2.2 O.o.1 (sx O.o.2.1)⟩
def uo B g D(q:lN) k w(h:FT B g w D (k::q))(b:q.length<=1000):s8 sr 139 #[.pp g 0] w λe w'=>e=.r (.q (k:Int))/\NM B g w w' D q:=by
 have⟨v,F,G,U,O,k,I⟩:=h;obtain⟨b,off,cap,rfl,b,b,e,e,Z,V⟩:=U.first;have q:=η G;have e:=free_of_one G;have g:=ī G;unfold s7 at b;by_cases e:1<cap
 .
  have b:=Io (Z e);have Y:=Io G;have E:=qZ O k I;clear G U O I Z V;go_in
  go_wp2
  go_ret;exact⟨J,NQ E.o.1 E.o.2.1 E.o.2.2 g br lr (Ç.I ..) Y.o b.o (λ_ h=>.inl h)⟩
 obtain rfl:cap=1:=N;obtain⟨rfl,e⟩:=V J;have b:=Io e;have Y:=Io G;have E:=qZ O k I;clear G U O I Z V e;simp[Ġ,Ă]at q;go_in
 go_wp2
 go_ret;exact⟨J,NQ E.o.1 E.o.2.1 E.o.2.2 g br lr (Ç.I ..) Y.o b.o (λ_ h=>.inl h)⟩
def xk B g D q w(h:FT B g w D q):s8 sr 140 #[.pp g 0] w λe w'=>e=.r (.q (q.length:Int))/\w'=w:=by
 have⟨v,F,G,E,U,Z,O⟩:=h;obtain⟨Y,cap,rfl,V,I⟩:=E.h;have e:=η G;unfold s7 at I;clear G E U O;go_in
 go_wp2
 go_ret;exact⟨J,J⟩
def Qn (g:Nat):Vl:=.agg #[.func (.func 138) #[] #[.pp g 0],.func (.func 139) #[] #[.pp g 0],.func (.func 140) #[] #[.pp g 0]]
def NM.a (E:zW w w1)(h:NM B g w1 w' D q):NM B g w w' D q:=by
 have⟨V,O,I,U⟩:=h;refine⟨V,O,(Ç.e E).G I,λk G=>?_⟩;obtain h|h:=U k G
 exact .inl h
 exact .inr (rX E.size h)
def FT.alloc (h:FT B g w D q) o:FT B g (w.alloc o) D q:=
 h.r (S:=λ_=>False) (.e ba) (λ_ _ h=>h)
def Z5 B g D q w(h:FT B g w D q):s8 sr 209 #[Qn g] w λe w'=>e=.r (.q (q.length:Int))/\NM B g w w' D q:=by
 have E:=Io h;clear h;unfold Qn;go_in
 go_wp21;apply(xk B g D q _ (E.o.alloc _)).mono
 rintro e e⟨rfl,rfl⟩;go_wp2
 go_ret;exact⟨J,D,E.o.alloc _,.e ba,λk G=>.inl G⟩
def ag B g D(q:lN) k w(h:FT B g w D (k::q))(O:q.length<=1000):s8 sr 208 #[Qn g] w λe w'=>e=.r (.q (k:Int))/\NM B g w w' D q:=by
 have I:=Io h;clear h;unfold Qn;go_in
 go_wp21;apply(uo B g D q k _ (I.o.alloc _) O).mono
 rintro e e⟨rfl,E⟩;have G:=Io (E.a ba);clear E;go_wp2
 go_ret;exact⟨J,G.o⟩
def ZE B g D q(k:Nat) w(h:FT B g w D q)(O:q.length<=1000):s8 sr 207 #[Qn g,.q (k:Int)] w λe w'=>e=.r (.t #[])/\NM B g w w' D (q++[k]):=by
 have I:=Io h;clear h;unfold Qn;go_in
 go_wp21;apply(tq B g D q k _ (I.o.alloc _) O).mono
 rintro e e⟨rfl,E⟩;have G:=Io (E.a ba);clear E;go_wp2
 go_end0;exact⟨J,G.o⟩
def eG (w:M):s8 sr 111 #[] w λe w'=>e=.r (.f 225 (Qn w.heap.size))/\FT w.heap.size w.heap.size w' (λk=>k=w.heap.size) []/\zW w w':=by
 unfold Qn;go_in
 go_wp2
 go_ret;refine⟨J,⟨.s none 0 0,λ_=>False,?_,BG.nil ..,id,lr,λk=>sm⟩,ba⟩;exact ř w _
def AL.i{w:M}{a:oA}{ps}(h:AL w a ps):∀ad,a=A ad->0<ps.length->ad.block<w.heap.size:=by
 intro ad e E;obtain⟨b,off,rfl,G,-⟩:=h.h E;cases e
 exact G
def bz (a:oA) cap ps per g(w:M)(q:AL w a ps)(I:Ar ps)(ak:1<=per)(p:per<=1000)(an:∀ad,a=A ad->0<ps.length->ad.block<g)(O:FT g g w (λk=>k=g) []):Ë 110 #[.s a ps.length cap,.q per,.f 225 (Qn g)] w λe w'=>∃v,e=.r v/\Dz w' w.heap.size v (Cs per ps ps.length)/\Below g w w':=by
 let U:=xJ (per:=per) N I;let e:=ŕ (O.a g J).2;refine(VE LJ (FT g g) per ps [] g _ _ _ (⟨λ_ _ _ h=>h.a,λ_ _ _ _ _ h V am _=>h.r V am⟩) U I ak p ?_ ?_ ?_ a cap w q e an _ O).mono ?_
 intro w D s p E aq G;let ap:=E.b U;let Y:=E.a;have:=I.j;exact ZE g g D s.q s.e w G (by have:LJ.rest s.q=s.q.length:=rfl;omega)
 .
  intro w D s E O G;let ap:=E.b U;let Y:=E.a;have:=I.j;let Z:s.q.length<=1000:=by have:LJ.rest s.q=s.q.length:=rfl;omega
  let a:0<s.q.length:=O;obtain⟨k,q,e⟩:∃k q,s.q=k::q:=by
   cases h:s.q with
   |nil=>rw[h]at a;simp at a
   |cons k q=>exact⟨k,q,J⟩
  rw[e]at G Z⊢;exact ag g g D q k w G (by simp at Z;omega)
 intro w D s E G;rw[Px _ (λ_=>J)];exact Z5 g g D s.q w G
 rintro e w'⟨s,v,rfl,E,Y,a,ab,V⟩;exact⟨v,J,uQ N I E Y a▸ab,V⟩
def eH{R:tI->Vl->M->Prop}(a:oA) n cap per(w:M)(h:Ë 109 #[.s a n cap,.q per] w λe w'=>∃ty v,e=.r (.f ty v)/\R ty v w'):s8 sr 64 #[.s a n cap,.q per] w λe w'=>∃ty v,e=.r (.t #[.sn,.f ty v])/\R ty v w':=by
 have G:=Io h;clear h;go_in
 go_wp21;apply G.o.mono
 rintro e a⟨ty,v,rfl,E⟩;have I:=Io E;clear E;go_wp2
 go_ret2;exact⟨ty,v,J,I.o⟩
open Go.Maps (Keyed)
open Go.WideElems (Fit)
def Qd:Lit->Bool
 |.int .i64 x=>!(decide (0<=x)&&decide (x<8))
 |_=>sy
def kD:Lit->Nat
 |.int _ x=>x.toNat
 |_=>0
def og{y}(h:Qd y=ss):∃x:Nat,x<8/\y=.int .i64 x:=by
 cases y with
 |int q x=>
  cases q<;>simp only[Qd]at h<;>try cases h
  have E  := sx h
  exact⟨x.toNat,N,Int.toNat_of_nonneg E.1▸rfl⟩
 |_=>cases h
def iW{x:Nat}(h:x<8):Qd (.int .i64 x)=false:=by simp[Qd];omega
def RQ:∀(n)(l:lN),l.Nodup->(∀x,x∈l->x<n)->l.length<=n
 |0,[],_,_=>lr
 |0,a::l,_,h=>absurd (h a (ï ..)) (İ _)
 |n+1,l,G,h=>by
  by_cases O:n∈l
  .
   have:=RQ n (l.erase n) (G.erase n) (λx E=>by
    let I:=G.mem_erase_iff.1 E;have:=h x I.2;omega)
   simp_all
  have:=RQ n l G (λx E=>by
   let I:=h x E;have:x≠n:=λe=>O (e▸E)
   omega)
  omega
def wJ{H}{es:List (Lit×DataW H)}(x:es.Pairwise λp q=>p.1≠q.1)(Y:es.any (λp=>Qd p.1)=ss):es.length<=8:=by
 let G:=λp E=>og (sx (B'.1 Y p E))
 let a:(es.map λp=>kD p.1).Nodup:=by
  refine List.pairwise_map.2 (ŷ.2 λi j U O p e=>ŷ.1 x i j U O p ?_);obtain⟨x,-,I⟩:=G _ (Ζ U);obtain⟨y,-,Z⟩:=G _ (Ζ O);rw[I,Z]at e⊢;have  := by simpa[kD]using e
  rw[this]
 have:=RQ 8 _ a (λa V=>by
  obtain⟨p,E,rfl⟩:=Ő.1 V;have⟨x,I,e⟩:=G p E;rw[e];simpa[kD] using I)
 simpa using this
def Jk (P:pG)(k e:tI)(w:M)(b:Nat)(f:Nat->Int):=
 ∃es:List (Lit×DataW Unit),w.ownsMap P k (plainElem P e) b 8 (.map es)/\es.any (λp=>Qd p.1)=ss/\∀x:Nat,(DataW.map es).atKey (.int .i64 x) (.lit (.int .i64 0))=.lit (.int .i64 (f x))
section
variable {P:Program}{k e t:TypeId}{w w':World}{b:Nat}{f:Nat->Int}
def iA (w:World)(P:Program)(k e:TypeId):Jk P k e (w.alloc (.map #[] 0)) w.heap.size λ_=>0:=
 ⟨[],(World.ownsMap_made w P k _).mono (uD _),J,λ_=>J⟩
def Jk.G (h:Jk P k e w b f):b<w.heap.size:=by
 obtain⟨D,E,-,-⟩:=h;exact E.lt
def Jk.r{S}(h:Jk P k e w b f)(Y:Ç S w w')(Z:¬S b):Jk P k e w' b f:=by
 let I:=h.G;obtain⟨D,⟨e,f,O,G,f,E⟩,U,V⟩:=h;exact⟨D,⟨e,_,(Y.block b I Z).trans O,G,f,E⟩,U,V⟩
def Jk.d (h:Jk P k e w b f)(K:Keyed P k)(O:P.underlying t=A (.map k e))(E:P.underlying e=A (.int .i64))(U:(zeroValue e).run P w=.ok (.int .i64 0) w){x:Nat}(G:keyOf P k (.int .i64 x)=A (.int .i64 x)):(Instr.lookup t (.map (A b)) (.int .i64 x) ss).run P w=.ok (.int .i64 (f x)) w:=by
 have⟨b,I,V,Y⟩:=h;obtain⟨c,hrun,Z,-⟩:=I.lookup_int K O E U G;simp_all
def Jk.store (h:Jk P k e w b f)(K:Keyed P k)(y:P.underlying t=A (.map k e))(aq:P.underlying e=A (.int .i64)){x:Nat}(aw:x<8)(E:keyOf P k (.int .i64 x)=A (.int .i64 x)){v}(p:(Lit.int .i64 v).wf=sy):∃w',(Instr.mapUpdate t (.map (A b)) (.int .i64 x) (.int .i64 v)).run P w=.ok () w'/\Jk P k e w' b (A8 f x v)/\w.grownBy w' (A b):=by
 have⟨b,am,f,an⟩:=h;have⟨w',hrun,O,ak⟩:=am.update K y dc E (plainElem_int aq p);let e:(DataW.map b).put (.int .i64 x) (.lit (.int .i64 v))=.map (DataW.insert (.int .i64 x,.lit (.int .i64 v)) (b.filter λp=>!p.1.sameKey (.int .i64 x))):=rfl;let V:(DataW.insert (.int .i64 x,.lit (.int .i64 v)) (b.filter λp=>!p.1.sameKey (.int .i64 x))).any (λp=>Qd p.1)=false:=by
  rw[Maps.any_insert,iW aw,mu];exact B'.2 λp E=>B'.1 f p (Ρ.1 E).1
 let Z:=O.tidy K;rw[e]at O Z;refine⟨w',hrun,⟨_,?_,V,λy=>?_⟩,ak⟩
 .
  have⟨aB,I,E⟩:=Z;injection I with I
  rw[<-I]at E;let Y:=wJ E V;have⟨p,f,h,ap,ax,G⟩:=O;refine⟨p,f,h,ap,?_,G⟩;injection G with G
  rw[G,length_sorted]at Y;simpa using Y
 rw[<-e];by_cases U:y=x
 subst U;rw[AX];exact Maps.atKey_put_same (k:=.int .i64 y) ⟨b,J⟩ sk ..
 rw[Az _ _ U,Maps.atKey_put_other (λe=>U (by injection e with _ e;omega))];exact an y
def Jk.a (h:Jk P k e w b f)(I:P.underlying t=A (.map k e)) ty:∃w',(Builtin.clear_ #[t] ty #[.map (A b)]).run P w=.ok (.t #[]) w'/\Jk P k e w' b (λ_=>0)/\w.grownBy w' (A b):=by
 obtain⟨D,⟨e,G,E,V,e,U⟩,Y,Z⟩:=h;refine⟨wV w b (.map #[] G),?_,⟨[],⟨#[],G,ChangeMaps.heap_setBlock_same E _,⟨sm,MapKept.stamped_empty _,sm⟩,uD _,J⟩,J,λ_=>J⟩,⟨J,J,J,by simp[wV],λi _ O=>ChangeMaps.heap_setBlock_other E _ (λe=>O (e▸rfl))⟩⟩;simp[Builtin.clear_,ź I,MapKept.run_getObj_map E,MapKept.run_setObj_map _ E,wV]
end
def iF x(w:M)(h:NZ x):s8 sr 149 #[.q x] w λe w'=>e=.r (.bool sy)/\w'=w:=by
 have⟨G,E⟩:=h;have I:(12%x==0)=true:=sx E
 clear E;go_in
 go_wp2
 go_ret;exact⟨J,J⟩
def oQ x(w:M)(h:¬NZ x):s8 sr 149 #[.q x] w λe w'=>e=.r (.bool ss)/\w'=w:=by
 by_cases E:1<=x
 .
  have I:(12%x==0)=false:=sx (λG=>h ⟨E,G⟩)
  clear h;go_in
  go_wp2
  go_ret;exact⟨J,J⟩
 clear h;go_in
 go_wp2
 go_ret;exact⟨J,J⟩
def Na (a:oA) cap(G:lZ)(w:M)(ad:Nat->Addr)(k:Bc w a G)(Z:G.length=8) j(ap:j<=8)(O:∀(i) y,i<j->G[i]? = A y->NZ y)(R:Vl)
  (h:(j=8/\R=.n)\/(R=.f 255 (.p (A (ad 1)))/\w.cell? (C 1 0)=A (.f 255 (.p (A (ad 1))))/\∃x,G[j]? = A x/\¬NZ x)):
  Calls sr 116 #[.s a 8 cap,.func (.func 149) #[] #[]] w λe w'=>e=.r R/\w'=w:=by
 have I:=Io O;have y:=Io h;obtain⟨b,off,rfl,-,V⟩:=k.h N;have Y:=Io V;have U:=Io Z;clear O h k V Z;go_in
 go_wp21;go_loopw[13] (λi wr=>∃k:Nat,k<=j/\i=.q k/\wr=w)(λi _=>8-(intOf i).toNat)
 case atStart=>exact⟨0,uD _,J,J⟩
 case round=>
  obtain⟨k,am,rfl,rfl⟩:=hrel;by_cases a:k<j
  .
   obtain⟨x,E,-⟩:=Ao G k (oe U.o);have e:=I.o k x a E;have b:=Y.o k x E;clear E;go_wp21;apply(iF x _ e).mono
   rintro e a⟨rfl,rfl⟩;go_wp2
   go_roundw
   case rel=>exact⟨k+1,N,nd,sk⟩
   case measure=>simp[intOf];omega
  obtain rfl:k=j:=N;obtain⟨rfl,rfl⟩|⟨rfl,ao,x,E,ak⟩:=y.o
  .
   go_wp2
   go_ret;exact⟨J,J⟩
  have b:=Y.o k x E;have an:k<8:=by
   rw[<-U.o];obtain I|I:=nR k G.length
   exact I
   simp[ą I]at E
  clear E;go_wp21;apply(oQ x _ ak).mono
  rintro e a⟨rfl,rfl⟩;go_wp2
  go_ret;exact⟨J,J⟩
def Tx (a:oA) cap(E:lZ)(w:M)(I:Bc w a E)(G:Ip E):Ë 116 #[.s a E.length cap,.func (.func 149) #[] #[]] w λe w'=>e=.returned .n/\w'=w:=by
 rw[G.len];exact Na a cap E w (λ_=>(C 0 0)) I G.len 8 lr (λi y _ O=>G.d i y O) _ (.inl ⟨J,J⟩)
def RA (a:oA) cap(E:lZ)(w:M) ad(I:MR w ad)(U:Bc w a E) c(h:EN E c)(Z:0<c):Ë 116 #[.s a E.length cap,.func (.func 149) #[] #[]] w λe w'=>e=.r (Ha ad c)/\w'=w:=by
 obtain⟨rfl,G⟩|⟨rfl,j,G,⟨x,O,Y⟩,V⟩|⟨rfl,-⟩:=h
 exact GR a E.length cap _ w ad G I.2
 rw[G];exact Na a cap E w ad U G j (oe (Ap O)) V _ (.inr ⟨J,I.1,x,O,Y⟩)
 omega
def FO (ps:List Pk)(per c p:Int):=
 (Ky ps c p/\0<c)\/(Ar ps/\(per<1\/1000<per)/\c=2/\p= -1)\/(Ar ps/\1<=per/\per<=1000/\c=0/\p= -1)
def IC (a:oA) cap ps per c p(w:M) ad(G:Errs9 w ad)(U:AL w a ps)(Z:ps.length<=cap)(Y:cap<=s7)(h:FO ps per c p)(e:0<c):Ë 109 #[.s a ps.length cap,.q per] w λe w'=>∃ty v,e=.r (.f ty v)/\(Bo w' (.f ty v) c p/\zW w w'):=by
 obtain⟨h,e⟩|⟨O,V,rfl,rfl⟩|⟨O,e,e,rfl,rfl⟩:=h
 refine WG (R:=λty v w'=>Bo w' _ c p/\Below _ w w') a _ _ _ w ((Yh a _ ps w ad G U Z Y c p h).mono ?_);rintro e w'⟨c,rfl,I,E⟩;obtain⟨ty,v,rfl⟩:=I.b N;exact⟨ty,v,J,I,E⟩
 apply(Xh a _ ps _ w ad G.x U O V).mono;rintro e w'⟨rfl,E⟩;exact⟨_,_,J,CJ (G.d E) 1 dc,E⟩
 omega
variable {w:M}{ad:Nat ->Addr}{I:lZ}{c:Nat}
def U7 (E:Errs9 w ad){G}(h:BK 0 G I c)(O:0<c):∃ty v,Ha ad c=.f ty v/\Bo w (.f ty v) c (-1):=by
 obtain⟨rfl,-⟩|⟨rfl,-⟩|⟨rfl,-⟩:=h
 exact⟨_,_,J,CJ E 2 dc⟩
 exact⟨_,_,J,CJ E 1 dc⟩
 omega
def Errs9.j (E:Errs9 w ad):MR w ad:=⟨E.a,E.k⟩
def aH (E:Errs9 w ad){G O}(h:BK G O I c)(U:0<c):∃ty v,Ha ad c=.f ty v/\Bo w (.f ty v) c (-1):=by
 obtain⟨rfl,-⟩|⟨rfl,-⟩|⟨rfl,-⟩:=h
 exact⟨_,_,J,CJ E 2 dc⟩
 exact⟨_,_,J,CJ E 1 dc⟩
 omega
structure IJ (w:M)(g:Nat)(b:Bk):Prop where
 e:w.cell? (C g 0)=A (.q b.h)
 a:w.cell? (C g 1)=A (.q b.d)
 k:w.cell? (C g 2)=A (.q b.j)
 l:w.cell? (C g 3)=A (.q b.last)
 f2:w.frozen? (C g 2)=ss
 f3:w.frozen? (C g 3)=ss
def IJ.G{w g b}(h:IJ w g b):g<w.heap.size:=BZ h.e
def IJ.r{S}{w w':M}{g b}(h:IJ w g b)(G:Ç S w w')(E:¬S g):IJ w' g b:=
 let l:=h.G
 ⟨G.E (p:=⟨g,0,_⟩) l E▸h.e,G.E (p:=⟨g,1,_⟩) l E▸h.a,G.E (p:=⟨g,2,_⟩) l E▸h.k,G.E (p:=⟨g,3,_⟩) l E▸h.l,
  G.s (p:=⟨g,2,_⟩) l E▸h.f2,G.s (p:=⟨g,3,_⟩) l E▸h.f3⟩
def IJ.d{w w':M}{g b}(h:IJ w g b)(E:zW w w'):=h.r (S:=λ_=>False) (.e E) id
def xy m r h d(w:M)(G:0<=h)(E:h<=20000000)(O:0<=r*d)(I:r*d<=109951162777600000):s8 sr 172 #[.agg #[.q m,.q r],.q h,.q d] w λe w'=>e=.r (.q (min m (h+r*d)))/\w'=w.alloc (.c #[.q m,.q r] 249):=by
 go_in
 go_wp2
 all_goals
  go_ret;exact⟨ť (λz=>xt (.q z)) N,J⟩
def il g m r h l t v(w:M)(Z:w.cell? (C g 0)=A (.q m))(e:w.cell? (C g 1)=A (.q r))(G:w.cell? (C g 2)=A (.q h))(V:w.cell? (C g 3)=A (.q l))(O:0<=l)(Y:l<=t)(U:t<=1099511627776)
  (H:Hid (∀w':M,Ë 172 #[.agg #[.q m,.q r],.q h,.q (t-l)] w' λe E=>e=.r (.q v)/\E=w'.alloc (.c #[.q m,.q r] 249))):
  Calls sr 169 #[.pp g 0,.q t] w λe w'=>e=.r (.q v)/\zW w w':=by
 have I:IntKind.i64.wrap (t-l)=t-l:=Ĵ _ N;go_in
 go_wp2_with fail;go_region_with (first
  |(go_simp;go_at_call 172;go_must (refine(H.o _).mono ?_;rintro e e⟨rfl,rfl⟩))
  |fail)
 all_goals
  go_wp2
  go_ret;exact⟨J,br.drew.alloc lr _⟩
def fC g b t w(G:IJ w g b)(E:b.r)(O:b.last<=t)(I:t<=1099511627776):qW 169 #[.pp g 0,.q t] w (.q (b.e t)):=by
 have⟨V,U⟩:=E.grow O I;exact il g _ _ _ _ t _ w G.e G.a G.k G.l E.l0 O I (λw'=>xy _ _ _ _ w' E.h0 (oi E.h1 E.m1) V U)
structure K7 (w:M)(ad:Nat->Addr):Prop where
 a:w.cell? (C 1 0)=A (.f 255 (.p (A (ad 1))))
 k:w.cell? (C 0 0)=A (.f 255 (.p (A (ad 2))))
 l:w.cell? (C 4 0)=A (.f 255 (.p (A (ad 3))))
 b:w.cell? (C 5 0)=A (.f 255 (.p (A (ad 4))))
def K7.d{w w':M}{ad}(h:K7 w ad)(E:zW w w'):K7 w' ad:=
 ⟨jf E h.a,jf E h.k,jf E h.l,jf E h.b⟩
def mT{q:Prop}(h:q:=by
 go_in
 go_wp2_with (go_at_call 128;refine O.o.mono ?_;rintro e w1⟨rfl,rfl⟩)
 go_ret;exact⟨rfl,rfl⟩):q:=h
def Je g l t n w ad(U:K7 w ad)(aa:w.cell? (C g 3)=A (.q l)):s8 sr 167 #[.pp g 0,.q t,.q n] w λe w'=>e=.r (Ha ad (EC l t n))/\w'=w:=by
 have Z:=U.a;have Y:Hid (Ë 171 #[.pp g 0,.q t] w λe w'=>e=.r (Ha ad (F6 l t))/\w'=w):=by
   have Z:=U.a;have ac:=U.b;clear U;by_cases E:0<=t/\t<=1099511627776
   .
    let I:decide (0<=t/\t<=1099511627776)=true:=sx E
    have O:Hid (Ë 128 #[.q t] w λe w'=>e=.r (.bool sy)/\w'=w):=by
     have:=Pz t w;rw[I]at this;exact this
    clear I;by_cases V:t<l
    .
     let G:F6 l t=5:=by unfold F6;rw[Æ E,Æ V]
     rw[G];show s8 _ _ _ _ λe w'=>e=.r (.f 255 (.p (A (ad 4))))/\w'=w
     clear E G;exact mT
    let G:F6 l t=0:=by unfold F6;rw[Æ E,Ä V]
    rw[G];show s8 _ _ _ _ λe w'=>e=.returned .n/\w'=w
    clear E G;exact mT
   let I:decide (0<=t/\t<=1099511627776)=false:=sx E
   have O:Hid (Ë 128 #[.q t] w λe w'=>e=.r (.bool ss)/\w'=w):=by
    have:=Pz t w;rw[I]at this;exact this
   let G:F6 l t=2:=by unfold F6;rw[Ä E]
   rw[G];show s8 _ _ _ _ λe w'=>e=.r (.f 255 (.p (A (ad 1))))/\w'=w
   clear E G I;exact mT
 clear U aa;by_cases E:1<=n/\n<=1500
 .
  let I:decide (1<=n/\n<=1500)=true:=sx E
  have O:Hid (Ë 127 #[.q n] w λe w'=>e=.r (.bool sy)/\w'=w):=by
   have:=PU n w;rw[I]at this;exact this
  let G:EC l t n=F6 l t:=by unfold EC;rw[Æ E]
  rw[G];clear I G E;generalize Ha ad (F6 l t)=ab at*;go_in
  go_wp2_with (first
   |(go_at_call 127;apply O.o.mono;rintro e g⟨rfl,rfl⟩)
   |(go_at_call 171;apply Y.o.mono;rintro e g⟨rfl,rfl⟩))
  go_ret;exact⟨J,J⟩
 let I:decide (1<=n/\n<=1500)=false:=sx E
 have O:Hid (Ë 127 #[.q n] w λe w'=>e=.r (.bool ss)/\w'=w):=by
  have:=PU n w;rw[I]at this;exact this
 let G:EC l t n=2:=by unfold EC;rw[Ä E]
 rw[G];show s8 _ _ _ _ λe w'=>e=.r (.f 255 (.p (A (ad 1))))/\w'=w
 clear I G E Y;go_in
 go_wp2_with (go_at_call 127;apply O.o.mono;rintro e g⟨rfl,rfl⟩)
 go_ret;exact⟨J,J⟩
def lw m r h n(w:M)(O:h<n)(E:m<n\/r=0):s8 sr 168 #[.agg #[.q m,.q r],.q h,.q n] w λe w'=>e=.r (.t #[.q 0,.bool ss])/\w'=w.alloc (.c #[.q m,.q r] 249):=by
 let I:¬n<=h:=N;by_cases G:m<n
 .
  clear E;go_in
  go_wp2
  go_ret2;exact⟨J,J⟩
 obtain rfl:r=0:=N;clear E;go_in
 go_wp2
 go_ret2;exact⟨J,J⟩
def Vn m r h n(w:M)(e:h<n)(G:n<=m)(Y:0<r)(U:r<=100000)(Z:0<=h)(e:m<=20000000):s8 sr 168 #[.agg #[.q m,.q r],.q h,.q n] w λe w'=>e=.r (.t #[.q ((n-h+r-1)/r),.bool sy])/\w'=w.alloc (.c #[.q m,.q r] 249):=by
 let I:¬n<=h:=N;let O:¬m<n:=N;let E:¬r=0:=N;let V:(r==0)=false:=sx E
 go_in
 go_wp2
 go_ret2;exact⟨J,J⟩
def IJ.h{w g b}(h:IJ w g b) x:IJ (w.setCell (C g 2) (.q x)) g ⟨b.h,b.d,x,b.last⟩:=
 ⟨by rw[sF _ _ _ _ sm];exact h.e,by rw[sF _ _ _ _ sm];exact h.a,ŏ _ _ _ h.k,by rw[sF _ _ _ _ sm];exact h.l,
  rj ñ h.f2,rj ñ h.f3⟩
def IJ.s{w g b}(h:IJ w g b) x:IJ (w.setCell (C g 3) (.q x)) g ⟨b.h,b.d,b.j,x⟩:=
 ⟨by rw[sF _ _ _ _ sm];exact h.e,by rw[sF _ _ _ _ sm];exact h.a,by rw[sF _ _ _ _ sm];exact h.k,ŏ _ _ _ h.l,
  rj ñ h.f2,rj ñ h.f3⟩
def zl g b t n w ad(X:K7 w ad)(O:IJ w g b)(U:b.r)(Y:EC b.last t n=0):s8 sr 165 #[.pp g 0,.q t,.q n] w λe w'=>e=.r (.t #[.bool (decide (n*1000<=b.e t)),.n])/\IJ w' g (b.g t n)/\Ç (λk=>k=g) w w':=by
 obtain⟨e,e,e,k,V⟩:=Hu.1 Y;have P:Hid (Ë 167 #[.pp g 0,.q t,.q n] w λe w'=>e=.returned .n/\w'=w):=by
  have:=Je g b.last t n w ad X O.l;rw[Y]at this;exact this
 have Q:=Io (fC g b t w O U V k);have e:=U.lev_bd V;have e:=U.m1;have R:=Io O;by_cases G:n*1000<=b.e t
 .
  have w:Hid (b.g t n=⟨b.h,b.d,b.e t-n*1000,t⟩):=by show _=_;unfold Bk.g;rw[Æ G]
  rw[show decide (n*1000<=b.e t)=sy by simpa using G];generalize W:b.e t=v at*;have D:¬v<n*1000:=N;clear O U Y X W V G;go_in
  go_wp21;apply P.o.mono
  rintro e r9⟨rfl,rfl⟩;go_wp21;apply Q.o.mono
  rintro e H⟨rfl,E⟩;have T:=Io E;let I:=R.o.d E;let Z:=Io I;obtain⟨sd,K,se,F,L,r7⟩:=I;clear E;go_wp2
  go_ret2;refine⟨J,?_,?_⟩
  rw[w.o];exact((Z.o.h v).s t).h _
  exact Ç.g (S:=λk=>k=g) (Ç.g (S:=λk=>k=g) (Ç.g (S:=λk=>k=g) (.e T.o) J _) J _) J _
 have w:Hid (b.g t n=⟨b.h,b.d,b.e t,t⟩):=by show _=_;unfold Bk.g;rw[Ä G]
 rw[show decide (n*1000<=b.e t)=ss by simpa using G];generalize W:b.e t=v at*;have D:v<n*1000:=N;clear O U Y X W V G;go_in
 go_wp21;apply P.o.mono
 rintro e r9⟨rfl,rfl⟩;go_wp21;apply Q.o.mono
 rintro e H⟨rfl,E⟩;have T:=Io E;let I:=R.o.d E;let Z:=Io I;obtain⟨sd,K,se,F,L,r7⟩:=I;clear E;go_wp2
 go_ret2;refine⟨J,?_,?_⟩
 rw[w.o];exact(Z.o.h v).s t
 exact Ç.g (S:=λk=>k=g) (Ç.g (S:=λk=>k=g) (.e T.o) J _) J _
def Mo{B}{w w':M}(h:Below B w.drew w'):Below B w w':=⟨h.os,h.tape,h.output,h.size,h.block⟩
def OG g m r v t n k o(R:Vl)(w:M) aa(ac:w.cell? (C 4 0)=A (.f 255 (.p (A aa))))(ai:w.cell? (C g 0)=A (.q m))(V:w.cell? (C g 1)=A (.q r))(aC:0<=t)(aG:t<=1099511627776)(aB:1<=n)(aL:n<=1500)(aw:0<=k)(av:k<=30000000)
  (E:Hid (Ë 167 #[.pp g 0,.q t,.q n] w λe w'=>e=.returned .n/\w'=w))
  (G:Hid (∀w',zW w w'->Ë 169 #[.pp g 0,.q t] w' λe O=>e=.r (.q v)/\zW w' O))
  (ap:Hid (∀w':M,Ë 168 #[.agg #[.q m,.q r],.q v,.q (n*1000)] w' λe O=>e=.r (.t #[.q k,.bool o])/\O=w'.alloc (.c #[.q m,.q r] 249)))
  (Y:Hid (o=ss\/1099511627776-t<k->R=.t #[.q 0,.f 255 (.p (A aa))]))(r:Hid (o=sy->¬1099511627776-t<k->R=.t #[.q (t+k),.n])):
  Calls sr 164 #[.pp g 0,.q t,.q n] w λe w'=>e=.r R/\zW w w':=by
 have aE:IntKind.i64.wrap (n*1000)=n*1000:=Ĵ _ N;have aj:=qY ai V;go_in
 go_wp2_with fail;refine E.o.mono ?_
 rintro e w1⟨rfl,rfl⟩;go_wp2_with fail;go_cut[9,10] (λn m v=>n=.q k/\m=.bool o/\zW w1 v)
 case first=>
  go_region_with (first
   |(go_simp;go_at_call 169;go_must (refine(G.o _ ?_).mono ?_;exact br.drew;rintro e w2⟨rfl,ab⟩;have E:=Io (Mo ab);have d0:=jf E.o aj.o.1;have ax:=jf E.o aj.o.2;clear ab))
   |(go_simp;go_at_call 168;go_must (refine(ap.o _).mono ?_;rintro e w3⟨rfl,rfl⟩))
   |fail)
  all_goals (go_wp2_with fail;go_meet;exact⟨J,J,E.o.alloc E.o.size _⟩)
 case rest=>
 obtain⟨rfl,rfl,G⟩:=hcut;have U:=Io G;have aI:=jf G ac;clear G ai V ac;cases o with
 |false=>
  go_wp2
  go_quiet (fail);go_wp2
  go_ret2;exact⟨ť xt (Y.o (.inl sm)).symm,ì U.o _⟩
 |true=>
  by_cases Z:1099511627776-t<k
  .
   have I:=Io Z;go_wp2
   go_quiet (fail);go_wp2
   go_ret2;exact⟨ť xt (Y.o (.inr I.o)).symm,ì U.o _⟩
  have I:=Io Z;go_wp2
  go_ret2;exact⟨ť xt (r.o sm I.o).symm,U.o⟩
def OH (ad:Nat->Addr):Option Int->Vl
 |some T=>.tuple #[.q T,.nilIface]
 |none=>.tuple #[.q 0,.iface 255 (.pointer (A (ad 3)))]
def y8 g b t n w ad(U:K7 w ad)(E:IJ w g b)(G:b.r)(h:EC b.last t n=0):s8 sr 164 #[.pp g 0,.q t,.q n] w λe w'=>e=.r (OH ad (b.i t n))/\zW w w':=by
 have⟨Z,W,T,O,e⟩:=Hu.1 h;let I:=Je g b.last t n w ad U E.l;rw[h]at I;let X:=     λw' h=>fC g b t w' (E.d h) G e O
 let R:=G.lev_bd e;let P:=G.m1;let Q:=G.r1;by_cases Y:n*1000<=b.e t
 .
  let e:b.i t n=A t:=by unfold Bk.i;rw[Æ Y]
  rw[e];exact OG g b.h b.d (b.e t) t n 0 sy _ w (ad 3) U.l E.e E.a T O Z W N N I X (λw'=>(by
    show s8 ..;go_in
    go_wp2
    go_ret2;exact⟨J,J⟩)) (λh=>by obtain h|h:=h;cases h;omega) (λ_ _=>oB Int.add_zero)
 by_cases V:b.h<n*1000\/b.d=0
 .
  let e:b.i t n=none:=by unfold Bk.i;rw[Ä Y,Æ V]
  rw[e];exact OG g b.h b.d (b.e t) t n 0 ss _ w (ad 3) U.l E.e E.a T O Z W N N I X (λw'=>lw b.h b.d _ _ w' N V) (λ_=>J) (λh=>nf h)
 let S:0<b.d:=oe G.r0
 let e:=Zu (r:=b.d) (x:=n*1000-b.e t) S;let x:0<=(n*1000-b.e t+b.d-1)/b.d:=Int.ediv_nonneg N N;let G:(n*1000-b.e t+b.d-1)/b.d<=30000000:=by
  have:=Int.ediv_le_self b.d (show 0<=n*1000-b.e t+b.d-1 by omega);omega
 by_cases r:1099511627776-t<(n*1000-b.e t+b.d-1)/b.d
 .
  let e:b.i t n=none:=by unfold Bk.i;rw[Ä Y,Ä V,Æ r]
  rw[e];exact OG g b.h b.d (b.e t) t n _ sy _ w (ad 3) U.l E.e E.a T O Z W x G I X (λw'=>Vn b.h b.d _ _ w' N N S Q R.1 P) (λ_=>J) (λ_ h=>absurd r h)
 let e:b.i t n=A (t+(n*1000-b.e t+b.d-1)/b.d):=by unfold Bk.i;rw[Ä Y,Ä V,Ä r]
 rw[e];exact OG g b.h b.d (b.e t) t n _ sy _ w (ad 3) U.l E.e E.a T O Z W x G I X (λw'=>Vn b.h b.d _ _ w' N N S Q R.1 P) (λh=>by obtain h|h:=h;cases h;cases r h) (λ_ _=>J)
def xQ x y(w:M)(G:1<=x)(E:x<=20000):s8 sr 163 #[.agg #[.q x,.q y]] w λe w'=>e=.r (.pp (w.heap.size+1) 0)/\IJ w' (w.heap.size+1) (Js (x,y))/\zW w w':=by
 go_in
 go_wp2
 go_ret;refine⟨sm,?_,ba.alloc sm _⟩;constructor<;>simp[Js]
end Go.Proofs.YtaoikkhlnhfkfaaGreatDoor
