import Derived.Test.YtaoikkhlnhfkfaaGreatDoorU00
import Derived.Calls
import Derived.Conc.Events
set_option linter.defProp false
set_option linter.unusedSimpArgs false
set_option linter.unusedVariables false
namespace Go.Proofs.YtaoikkhlnhfkfaaGreatDoor
open Option renaming none->sA,some->A
open Bool renaming true->sy,false->ss
open Go renaming Sem->xZ,Program->tP,store->FF,shape->yO,getObj->A4,setObj->y6,choose->wP,underlying->wv,runtimePanic->ym,boundsPanic->z6,unsupported->wz,sizeOf->Gx,storeCells->Gy
open World renaming cell?->sY,noCell->z',frozen?->yj
open Mode renaming plain->It,atomic->Hh
open Sem renaming events->ux,runT->wi,run->tj
open Instr renaming sureAddr->wj,indexAt->BR,extract->E7,sliceBound->zw,sliceBounds->Cd,slice->GO,sliceAt->E'
open BoundsCode renaming index->yU
variable {X:Vl ->Vl ->Prop}{a b:Array Vl}{u v:Vl}{w w':M}
structure Ô where
 rel:Nat->Nat->Prop
 fn:∀a b c,rel a b->rel a c->b=c
 e:∀a b c,rel a c->rel b c->a=b
def Ô.d (r s:Ô):=∀a b,r.rel a b->s.rel a b
def Ô.d.refl (r:Ô):r.d r:=λ_ _ h=>h
def Ô.d.trans{r s t:Ô}(h:r.d s)(E:s.d t):r.d t:=λa b x=>E a b (h a b x)
def AR (r:Ô)(a a':Addr):=r.rel a.block a'.block/\a'.off=a.off/\a'.spot=a.spot
def Û{α:Type}(X:α->α->Prop):Option α->Option α->Prop
 |none,sA=>True
 |some a,A b=>X a b
 |_,_=>False
def Ó (X:Vl->Vl->Prop)(a b:Array Vl):=b.size=a.size/\∀(i:Nat) x y,a[i]? = A x->b[i]? = A y->X x y
def Û.l{α}{X E:α->α->Prop}(h:∀a b,X a b->E a b){a b}(x:Û X a b):Û E a b:=by
 cases a<;>cases b<;>simp_all[Û]
def Ó.l{E}(h:∀a b,X a b->E a b)(x:Ó X a b):Ó E a b:=⟨x.1,λi u v G I=>h _ _ (x.2 i u v G I)⟩
def AR.l{r s}(h:r.d s){a b}(x:AR r a b):AR s a b:=⟨h _ _ x.1,x.2⟩
def Br (F:Nat->Prop)(r:Ô)(X:Vl->Vl->Prop):Vl->Vl->Prop
 |.pointer a,v=>∃a',v=.pointer a'/\Û (AR r) a a'
 |.slice a n c,v=>∃a',v=.slice a' n c/\Û (AR r) a a'
 |.map m,v=>∃m',v=.map m'/\Û r.rel m m'
 |.chan _,_=>False
 |.float _ _,_=>False
 |.complex _ _ _,_=>False
 |.func fn I cs,v=>∃G cs',v=.func fn G cs'/\(∃f,fn=.func f/\F f)/\Ó X I G/\Ó X cs cs'
 |.iface t u,v=>∃E,v=.iface t E/\X u E
 |.agg a,v=>∃b,v=.agg b/\Ó X a b
 |.tuple a,v=>∃b,v=.tuple b/\Ó X a b
 |u,v=>v=u
def Br.l{F r s G}(h:r.d s)(E:∀u v,X u v->G u v)(x:Br F r X u v):Br F s G u v:=by
 cases u<;>simp[Br]at x⊢
 case pointer a=>obtain⟨a',rfl,y⟩:=x;exact⟨_,J,y.l λ_ _=>AR.l h⟩
 case slice a n c=>obtain⟨a',rfl,y⟩:=x;exact⟨_,J,y.l λ_ _=>AR.l h⟩
 case map m=>obtain⟨a',rfl,y⟩:=x;exact⟨_,J,y.l h⟩
 case func a a a=>obtain⟨a,b,rfl,y,z,t⟩:=x;exact⟨_,_,J,y,z.l E,t.l E⟩
 case iface t u=>obtain⟨a,rfl,y⟩:=x;exact⟨_,J,E _ _ y⟩
 case agg a=>obtain⟨b,rfl,y⟩:=x;exact⟨_,J,y.l E⟩
 case tuple a=>obtain⟨b,rfl,y⟩:=x;exact⟨_,J,y.l E⟩
 all_goals exact x
def VR (F:Nat->Prop)(r:Ô)(u v:Vl):=∃X:Vl->Vl->Prop,(∀a b,X a b->Br F r X a b)/\X u v
def VR.p{F r}(h:VR F r u v):Br F r (VR F r) u v:=let⟨X,E,G⟩:=h;(E _ _ G).l (Ô.d.refl _) λa b y=>⟨X,E,y⟩
def VR.e{F r}(h:Br F r (VR F r) u v):VR F r u v:=by
 refine⟨λa b=>VR F r a b\/(a=u/\b=v),λa b E=>?_,.inr ⟨J,J⟩⟩;obtain E|⟨rfl,rfl⟩:=E
 exact E.p.l (Ô.d.refl _) λ_ _=>.inl
 exact h.l (Ô.d.refl _) λ_ _=>.inl
def VR.l{F r s}(h:r.d s)(x:VR F r u v):VR F s u v:=let⟨X,E,G⟩:=x;⟨X,λa b y=>(E a b y).l h λ_ _=>id,G⟩
def BV:Nat->Vl->Bool
 |_,.bool _=>sy
 |_,.int _ _=>sy
 |_,.string _=>sy
 |_,.nilFunc=>sy
 |_,.nilIface=>sy
 |_,.pointer sA=>sy
 |_,.slice sA _ _=>sy
 |_,.map sA=>sy
 |n+1,.iface _ v=>BV n v
 |n+1,.agg a=>a.all (BV n)
 |n+1,.tuple a=>a.all (BV n)
 |_,_=>ss
def VR.plain{F r n}(h:BV n v=sy):VR F r v v:=by
 refine⟨λa b=>a=b/\∃n,BV n a=sy,?_,J,n,h⟩;rintro a _⟨rfl,n,E⟩;let G:∀(n:Nat)(c:Array Vl),c.all (BV n)=sy->Ó (λa b=>a=b/\∃n,BV n a=sy) c c:=λn c U=>
  ⟨J,λi x y O I=>by
   rw[O]at I;exact⟨Ö I,n,jo.1 U x (ŵ O)⟩⟩
 cases a with
 |pointer a=>cases a<;>cases n<;>simp_all[BV,Br,Û]
 |slice a _ _=>cases a<;>cases n<;>simp_all[BV,Br,Û]
 |map a=>cases a<;>cases n<;>simp_all[BV,Br,Û]
 |iface t v=>
  cases n with
  |zero=>simp[BV]at E
  |succ n=>exact⟨v,J,J,n,by simpa only[BV]using E⟩
 |agg c=>
  cases n with
  |zero=>simp[BV]at E
  |succ n=>exact⟨c,J,G n c (by simpa only[BV]using E)⟩
 |tuple c=>
  cases n with
  |zero=>simp[BV]at E
  |succ n=>exact⟨c,J,G n c (by simpa only[BV]using E)⟩
 |_=>cases n<;>simp_all[BV,Br]
def Tv (F:Nat->Prop)(r:Ô)(e e':MapEntry):=VR F r e.key e'.key/\VR F r e.val e'.val/\e'.born=e.born
def j' (X:Vl->Vl->Prop)(a b:Array Vl):=a.size<=b.size/\∀(i:Nat) x y,a[i]? = A x->b[i]? = A y->X x y
def j'.l{E}(h:∀a b,X a b->E a b)(x:j' X a b):j' E a b:=⟨x.1,λi u v G I=>h _ _ (x.2 i u v G I)⟩
def Ĺ (F:Nat->Prop)(r:Ô):Obj->Obj->Prop
 |.cells c t I,o=>∃O E,o=.cells O t E/\j' (VR F r) c O/\∀k,E.1<=k->k<E.2->I.1<=k/\k<I.2
 |.map es k,o=>∃G,o=.map G k/\G.size=es.size/\∀(i:Nat) e e',es[i]? = A e->G[i]? = A e'->Tv F r e e'
 |.number a l,o=>∃a',o=.number a' l/\AR r a a'
 |_,_=>False
def Ĺ.l{F r s}(h:r.d s){o o'}(x:Ĺ F r o o'):Ĺ F s o o':=by
 cases o<;>simp only[Ĺ]at x⊢
 case cells c t e=>obtain⟨I,O,rfl,y,z⟩:=x;exact⟨_,_,J,y.l λ_ _=>VR.l h,z⟩
 case map e k=>obtain⟨U,rfl,y,z⟩:=x;exact⟨_,J,y,λi e e' G E=>let⟨a,b,c⟩:=z i e e' G E;⟨a.l h,b.l h,c⟩⟩
 case number a l=>obtain⟨a',rfl,y⟩:=x;exact⟨_,J,y.l h⟩
structure WR (F:Nat->Prop)(L:Nat)(r:Ô)(w w':M):Prop where
 e:∀a b,r.rel a b->∃o o',w.heap[a]? = A o/\w'.heap[b]? = A o'/\Ĺ F r o o'
 u:∀a b,r.rel a b->a<L->∃c t hi,w.heap[a]? = A (.c c t (0,hi))/\c.size<=hi
 d:∀a b,r.rel a b->a<L->b=a
 g:∀a b,r.rel a b->L<=a->L<=b
 h:L<=w.heap.size
 i:L<=w'.heap.size
 p:∀j q,w.tape (w.drawn+j) q=w'.tape (w'.drawn+j) q
structure ĩ (L:Nat)(r s:Ô)(w w':M):Prop where
 x:w'.os=w.os
 i:w'.output=w.output
 p:w'.tape=w.tape
 h:w.heap.size<=w'.heap.size
 e:w.drawn<=w'.drawn
 d:∀b,b<w.heap.size->(∀a,L<=a->¬r.rel a b)->w'.heap[b]? = w.heap[b]?
 l:∀a b,s.rel a b->r.rel a b\/(L<=a/\w.heap.size<=b/\b<w'.heap.size)
 t:r.d s
def ĩ.I L r w:ĩ L r r w w:=⟨J,J,J,lr,lr,λ_ _ _=>J,λ_ _ h=>.inl h,Ô.d.refl _⟩
def ĩ.G{L r s t Y}(h:ĩ L r s w w')(E:ĩ L s t w' Y):ĩ L r t w Y:=
 ⟨E.x.trans h.x,E.i.trans h.i,E.p.trans h.p,rX h.h E.h,rX h.e E.e,λb V Z=>by
  rw[E.d b (rZ V h.h) λa I O=>?_,h.d b V Z];obtain G|⟨-,U,-⟩:=h.l a b O
  exact Z a I G
  omega,λa b O=>by
  obtain G|⟨G,U,Z⟩:=E.l a b O
  .
   obtain I|⟨I,O,V⟩:=h.l a b G
   exact .inl I
   exact .inr ⟨I,O,rZ V E.h⟩
  exact .inr ⟨G,rX h.h U,Z⟩,h.t.trans E.t⟩
def jU (L:Nat)(r:Ô)(e:Event):=
 (∃a b off E,r.rel a b/\e=⟨.cell ⟨b,off,E⟩,ss,ss⟩)\/(∃a b off E,L<=a/\r.rel a b/\e=⟨.cell ⟨b,off,E⟩,sy,ss⟩)\/
 (∃a b wr,L<=a/\r.rel a b/\e=⟨.obj b,wr,ss⟩)\/e=⟨.mark .noRoom,ss,sy⟩\/∃f,e=⟨.mark (.extern f),ss,sy⟩
def jU.l{L r s}(h:r.d s){e}(x:jU L r e):jU L s e:=by
 obtain⟨a,b,o,p,E,G⟩|⟨a,b,o,p,I,E,G⟩|⟨a,b,o,I,E,G⟩|E:=x
 exact .inl ⟨a,b,o,p,h _ _ E,G⟩
 exact .inr (.inl ⟨a,b,o,p,I,h _ _ E,G⟩)
 exact .inr (.inr (.inl ⟨a,b,o,I,h _ _ E,G⟩))
 exact .inr (.inr (.inr E))
def JQ:Halt->Prop
 |.panic _=>True
 |.stuck _=>True
 |.unsupported (.initOrder _)=>False
 |.unsupported _=>True
 |_=>False
def À (w:M)(t:Nat->Question->Nat):M:={w with tape:=t}
def OV{α}(P:pG)(s:xZ α)(w:M)(a:α)(w1:M):=w1.tape=w.tape/\w.drawn<=w1.drawn/\
 ∀t,(∀j q,w.drawn<=j->j<w1.drawn->t j q=w.tape j q)->s.run P (À w t)=.ok a (À w1 t)
def OV.d{α I P s}{f:α->xZ I}{w1 w2 a b}(h:OV P s w a w1)(aa:OV P (f a) w1 b w2):OV P (s >>= f) w b w2:=by
 let⟨U,Y,j⟩:=h;let⟨Z,O,X⟩:=aa;refine⟨Z.trans U,rX Y O,λt V=>?_⟩;rw[ő,j t λj q G E=>V j q G (rZ E O)];simp[Λ];exact X t λj q G E=>(V j q (rX Y G) E).trans (U▸rfl)
def n6{α I}(P:pG)(F:Nat->Prop)(L:Nat)(Q:Ô->α->I->Prop)(s:xZ α)(s':xZ I)(r:Ô)(w w':M):=(∃h w1,s.run P w=.halt h w1/\JQ h)\/
  ∃a w1 E b G evs,s.run P w=.ok a w1/\s'.run P w'=.ok b G/\(∀es,s'.events P w' es=es++evs)/\Q E a b/\WR F L E w1 G/\ĩ L r E w' G/\(∀e∈evs,jU L E e)/\OV P s w a w1
def Ì{α E}(P:pG)(F:Nat->Prop)(L:Nat)(Q:Ô->α->E->Prop)(s:xZ α)(s':xZ E)(r:Ô):=∀w w',WR F L r w w'->n6 P F L Q s s' r w w'
section
variable {α β γ δ:Type}{P:tP}{F:Nat->Prop}{L:Nat}{r:Ô}
def Ad{Q:Ô->α->β->Prop}{a b}(h:Q r a b):Ì P F L Q (pure a) (pure b) r:=λw w' E=>
 .inr ⟨a,w,r,b,w',#[],J,J,λw=>sm,h,E,ĩ.I ..,sm,J,lr,λ_ _=>J⟩
def fB{Q:Ô->α->β->Prop}{h}(E:JQ h){s'}:Ì P F L Q (Sem.halt h:xZ α) s' r:=λw _ _=>.inl ⟨h,w,J,E⟩
def Ah{Q:Ô->α->β->Prop}{m s'}:Ì P F L Q (stuck m:xZ α) s' r:=fB (h:=.stuck m) sk
def Ac{Q:Ô->α->β->Prop}{Y:Ô->γ->δ->Prop}{s s' f f'}(h:Ì P F L Q s s' r)
  (ap:∀t a b,r.d t->Q t a b->Ì P F L Y (f a) (f' b) t):Ì P F L Y (s >>= f) (s' >>= f') r:=λw w' c=>by
 obtain⟨x,e,G,O⟩|⟨a,e,K,b,S,evs,G,U,r8,H,E,Z,T,r7⟩:=h w w' c
 exact .inl ⟨x,e,oy G,O⟩
 obtain⟨x,w,I,O⟩|⟨c,w,X,d,se,z,I,sd,D,R,r9,V,B,W⟩:=ap K a b Z.t H e S E
 exact .inl ⟨x,w,by simp[G,I],O⟩
 refine .inr ⟨c,w,X,d,se,evs++z,by simp[G,I],by simp[U,sd],λc=>by simp[U,r8,D,Array.append_assoc],R,r9,Z.G V,λe E=>?_,r7.d W⟩;obtain E|E:=ο.1 E
 exact(T e E).l V.t
 exact B e E
def CZ{Q}{f:pG->xZ α}{f':pG->xZ β}(h:Ì P F L Q (f P) (f' P) r):Ì P F L Q (program >>= f) (program >>= f') r:=λw w' E=>h w w' E
def BI{α:Type}{a:Array α}{i x}(h:a[i]? = A x):i<a.size:=by
 obtain⟨E,-⟩:=ω.1 h;exact E
def WR.G (h:WR F L r w w'){a b}(I:r.rel a b):a<w.heap.size/\b<w'.heap.size:=by
 obtain⟨o,o',E,G,-⟩:=h.e a b I;exact⟨BI E,BI G⟩
end
variable {a a':Addr}{v u:Vl}{b x y:Nat}{o o':Obj}{X:Vl ->Vl ->Prop}{c:Array Vl}
section
variable {P:tP}{F:Nat->Prop}{L:Nat}{r:Ô}{w w':World}
def WR.E (h:WR F L r w w')(G:AR r a a')(E:w.cell? a=A v):∃v',w'.cell? a'=A v'/\VR F r v v':=by
 let⟨o,o',V,Y,O⟩:=h.e _ _ G.1;unfold sY at E⊢;rw[V]at E;cases o<;>simp only[Ĺ]at O E
 case cells c t c=>
  obtain⟨Z,c,rfl,I,-⟩:=O;split at E
  cases E
  simp[G.2.2,G.2.1];have U  := rZ (BI E) I.1;exact⟨_,sL,I.2 _ _ _ E (ÿ U)⟩
 all_goals cases E
def WR.D (h:WR F L r w w')(G:r.rel a.block b) O:∃m,w.farLoad P a O=.error (.stuck m):=by
 obtain⟨o,o',E,-,I⟩:=h.e _ _ G;cases o<;>simp[Ĺ]at I
 all_goals exact⟨_,by simp[World.farLoad,z',E];rfl⟩
def WR.f (h:WR F L r w w')(G:r.rel a.block b)(v:Vl) O:∃m,w.farStore P a v O=.error (.stuck m):=by
 obtain⟨o,o',E,-,I⟩:=h.e _ _ G;cases o<;>simp[Ĺ]at I
 all_goals exact⟨_,by simp[World.farStore,z',E];rfl⟩
def dE (I:AR r a a'):Ì P F L (VR F) (load a) (load a') r:=λw w' G=>by
 cases E:w.cell? a with
 |none=>
  let⟨m,V⟩:=G.D (P:=P) I.1 (It==Hh);exact .inl ⟨.stuck m,w,by simp[E,V],sk⟩
 |some v=>
  let⟨v',U,Y⟩:=G.E I E;refine .inr ⟨v,w,r,v',w',#[⟨.cell a',ss,ss⟩],oy E,oy U,λe=>?_,Y,G,ĩ.I ..,λe O=>?_,J,lr,λt _=>oy (show(À w t).cell? a=A v from E)⟩
  simp only[load,ux,wi,U];rfl
  simp at O
  subst O;exact .inl ⟨_,_,_,_,I.1,J⟩
def WR.K (h:WR F L r w w')(V:r.rel x y)(ap:L<=x)(ac:Ĺ F r o o') w1 I(G:w1.heap=w.heap.setIfInBounds x o)(U:I.heap=w'.heap.setIfInBounds y o')
  (t:w1.tape=w.tape)(aa:I.tape=w'.tape)(d:w1.drawn=w.drawn)(d':I.drawn=w'.drawn):WR F L r w1 I:=by
 let⟨c,e⟩:=h.G V;refine⟨λa b E=>?_,λa b E X=>?_,h.d,h.g,by rw[G,kU];exact h.h,by rw[U,kU];exact h.i,λj q=>t▸aa▸d▸d'▸h.p j q⟩
 .
  by_cases Y:a=x
  subst Y;obtain rfl:=r.fn _ _ _ E V;exact⟨o,o',by rw[G,ş c],by rw[U,ş e],ac⟩
  let j:b≠y:=λe=>Y (r.e _ _ _ (e▸E) V)
  let⟨p,e,O,Z,c⟩:=h.e a b E;exact⟨p,e,by rw[G,û (ħ Y)];exact O,by rw[U,û (ħ j)];exact Z,c⟩
 let⟨c,p,j,O,e⟩:=h.u a b E X;exact⟨c,p,j,by rw[G,û N];exact O,e⟩
def ĩ.K (V:r.rel x y)(O:L<=x) E(U:E.heap=w'.heap.setIfInBounds y o')(I:E.tape=w'.tape)(d':E.drawn=w'.drawn)(os:E.os=w'.os)(out:E.output=w'.output):ĩ L r r w' E:=by
 refine⟨os,out,I,sL,N,λb _ Y=>?_,λ_ _ h=>.inl h,Ô.d.refl _⟩;let G:b≠y:=λe=>Y x O (e▸V)
 rw[U,û (ħ G)]
def Ó.Q{E}(h:Ó X c E) i(V:X u v):Ó X (c.setIfInBounds i u) (E.setIfInBounds i v):=by
 refine⟨oy h.1,λj x y G I=>?_⟩;have O  := sx (BI G)
 let U:j<E.size:=h.1▸O
 by_cases e:i=j
 simp_all
 rw[û e]at G I;exact h.2 j x y G I
def j'.Q{I}(h:j' X c I) i(V:X u v):j' X (c.setIfInBounds i u) (I.setIfInBounds i v):=by
 refine⟨oy h.1,λj x y E G=>?_⟩;have O  := sx (BI E)
 have U  := rZ O h.1;by_cases e:i=j
 simp_all
 rw[û e]at E G;exact h.2 j x y E G
def Q0{w:M}{t:tI}{E}(h:w.heap[a.block]? = A (.c c t E))(I:a.spot=sA)(v:Vl):(w.setCell a v).heap=w.heap.setIfInBounds a.block (.c (c.setIfInBounds a.off v) t E):=by
 have G:=BI h;apply Array.ext_getElem?;intro i;show(w.heap.modify ..)[i]? = _
 rw[π];by_cases e:a.block=i
 simp_all
 simp_all
def bF (v:Vl):=(∀c,v≠.agg c)/\∀c,v≠.t c
def oG{h}(w:M)(E:bF v)(G:w.cell? a=sA)(I:w.farStore P a v (It==Hh)=.error h):(FF a v).run P w=.halt h w:=by cases v<;>first|exact absurd J (E.1 _)|exact absurd J (E.2 _)|simp[FF,tj,G,I]
def ZG (w:M)(E:bF v)(G:w.cell? a=A u)(I:w.frozen? a=sy):(FF a v).run P w=.halt (.unsupported (.unsafePointer "a write to bytes that a string shares")) w:=by cases v<;>first|exact absurd J (E.1 _)|exact absurd J (E.2 _)|simp[FF,tj,G,I]
def Pt (w:M)(E:bF v)(G:w.cell? a=A u)(I:w.frozen? a=ss):(FF a v).run P w=.ok () (w.setCell a v):=by cases v<;>first|exact absurd J (E.1 _)|exact absurd J (E.2 _)|(simp only[FF,tj,G,I];rfl)
def bF.l (h:VR F r u v)(E:bF u):bF v:=by
 have:=h.p;cases u<;>simp[Br]at this
 case agg c=>cases E.1 c rfl
 case tuple c=>cases E.2 c rfl
 case pointer=>obtain⟨_,rfl,-⟩:=this;exact⟨λ_ h=>(nf h),λ_ h=>(nf h)⟩
 case slice=>obtain⟨_,rfl,-⟩:=this;exact⟨λ_ h=>(nf h),λ_ h=>(nf h)⟩
 case map=>obtain⟨_,rfl,-⟩:=this;exact⟨λ_ h=>(nf h),λ_ h=>(nf h)⟩
 case func=>obtain⟨_,_,rfl,-⟩:=this;exact⟨λ_ h=>(nf h),λ_ h=>(nf h)⟩
 case iface=>obtain⟨_,rfl,-⟩:=this;exact⟨λ_ h=>(nf h),λ_ h=>(nf h)⟩
 all_goals (subst this;exact E)
def zg v:bF v\/∃m,∀(a)(w:M),(FF a v).run P w=.halt (.stuck m) w:=by
 cases v
 case agg c=>exact .inr ⟨_,λa w=>J⟩
 case tuple c=>exact .inr ⟨_,λa w=>J⟩
 all_goals exact .inl ⟨λ_ h=>(nf h),λ_ h=>(nf h)⟩
def rD (I:AR r a a')(aq:VR F r u v):Ì P F L (λ_ _ _=>True) (FF a u) (FF a' v) r:=λw w' U=>by
 obtain V|⟨m,X⟩:=zg (P:=P) u
 .
  let Z:=V.l aq;cases E:w.cell? a with
  |none=>
   let⟨m,X⟩:=U.f (P:=P) I.1 u (It==Hh);exact .inl ⟨_,w,oG w V E X,sk⟩
  |some x=>
   cases G:w.frozen? a with
   |true=>exact .inl ⟨_,w,ZG w V E G,sk⟩
   |false=>
    obtain⟨x',W,-⟩:=U.E I E;let⟨o,o',O,R,Y⟩:=U.e _ _ I.1;let k:a.spot=none:=by
     unfold sY at E;rw[O]at E;cases o<;>simp only[Ĺ]at Y E
     case cells c t T=>
      cases aC:a.spot with
      |none=>rfl
      |some _=>rw[aC]at E;cases E
     all_goals cases E
    let m:L<=a.block:=by
     obtain e|e:=nR a.block L
     obtain⟨c,t,c,p,q⟩:=U.u _ _ I.1 e;unfold yj at G;unfold sY at E;rw[p]at G E;simp[k,Option.isSome_none,Ĭ,ę]at E;have:=BI E;have:a.off<c:=N;simp[this]at G
     exact e
    cases o<;>simp only[Ĺ]at Y
    case cells c t T=>
     obtain⟨se,x,rfl,Q,S⟩:=Y;let Y:w'.frozen? a'=false:=by
      unfold yj at G⊢;rw[O]at G;rw[R];simp only[Bool.and_eq_false_iff,decide_eq_false_iff_not]at G⊢;rw[I.2.1];by_cases p:x.1<=a.off
      .
       by_cases q:a.off<x.2
       .
        let⟨r9,e⟩:=S _ p q;obtain G|G:=G
        cases G r9
        cases G e
       exact .inr q
      exact .inl p
     let q:=Q0 O k u;let e:=Q0 R (I.2.2.trans k) v;rw[I.2.1]at e;refine .inr ⟨(),w.setCell a u,r,(),w'.setCell a' v,#[⟨.cell a',sy,ss⟩],Pt w V E G,Pt w' Z W Y,(λp=>by cases v<;>first|exact absurd J (Z.1 _)|exact absurd J (Z.2 _)|(simp[FF,ux,wi,W,Y];rfl)),sk,
      U.K I.1 m (o:=.c (c.setIfInBounds a.off u) t T) (o':=.c (se.setIfInBounds a.off v) t x) ⟨_,_,J,Q.Q _ aq,S⟩ _ _ q e J J J J,ĩ.K I.1 m _ e J J J J,λe c=>?_,J,lr,λt _=>Pt (À w t) V E G⟩
     simp[ĺ,sV,ġ,ĝ]at c;subst c;exact .inr (.inl ⟨a.block,a'.block,a'.off,a'.spot,m,I.1,J⟩)
    case map p k=>unfold sY at E;rw[O]at E;cases E
    case number p k=>unfold sY at E;rw[O]at E;cases E
 exact .inl ⟨_,w,X a w,sk⟩
def Ô.add (r:Ô) x y(U:∀b,¬r.rel x b)(O:∀a,¬r.rel a y):Ô where
 rel a b:=r.rel a b\/(a=x/\b=y)
 fn a b c G E:=by
  obtain G|⟨rfl,rfl⟩:=G<;>obtain E|⟨E,I⟩:=E
  . exact r.fn _ _ _ G E
  . exact absurd (E▸G) (U _)
  . exact absurd E (U _)
  exact I.symm
 e a b c G E:=by
  obtain G|⟨rfl,rfl⟩:=G<;>obtain E|⟨E,I⟩:=E
  . exact r.e _ _ _ G E
  . exact absurd (I▸G) (O _)
  . exact absurd E (O _)
  exact E.symm
def PD (ab:Ĺ F r o o'):Ì P F L (λt a b=>t.rel a b/\L<=a) (newObj o) (newObj o') r:=λw w' G=>by
 let c:∀b,¬r.rel w.heap.size b:=λb h=>absurd (G.G h).1 (ų _)
 let Y:∀a,¬r.rel a w'.heap.size:=λa h=>absurd (G.G h).2 (ų _)
 let V:r.d (r.add w.heap.size w'.heap.size c Y):=λ_ _=>.inl
 refine .inr ⟨w.heap.size,{w with heap:=w.heap.push o},r.add w.heap.size w'.heap.size c Y,w'.heap.size,{w' with heap:=w'.heap.push o'},#[],J,J,λc=>?_,⟨.inr ⟨J,J⟩,G.h⟩,⟨λa b E=>?_,λa b E O=>?_,λa b E O=>?_,λa b E O=>?_,?_,?_,G.p⟩,
  ⟨J,J,J,?_,lr,λb Z _=>?_,λa b E=>?_,V⟩,sm,J,lr,λ_ _=>J⟩
 simp[newObj,ux,wi,kO]
 .
  obtain E|⟨rfl,rfl⟩:=E
  let⟨p,h,I,U,c⟩:=G.e a b E;exact⟨p,h,by show(w.heap.push o)[a]? = _;rw[mw (BI I),<-I,ÿ (BI I)],by show(w'.heap.push o')[b]? = _;rw[mw (BI U),<-U,ÿ (BI U)],c.l V⟩
  exact⟨o,o',sm,sm,ab.l V⟩
 .
  obtain E|⟨rfl,rfl⟩:=E
  let⟨c,t,h,I,p⟩:=G.u a b E O;exact⟨c,t,h,by show(w.heap.push o)[a]? = _;rw[mw (BI I),<-I,ÿ (BI I)],p⟩
  exact absurd G.h N
 .
  obtain E|⟨rfl,rfl⟩:=E
  exact G.d a b E O
  exact absurd G.h N
 .
  obtain E|⟨rfl,rfl⟩:=E
  exact G.g a b E O
  exact G.i
 .
  show L<=(w.heap.push o).size
  rw[lR];exact Nat.le_succ_of_le G.h
 .
  show L<=(w'.heap.push o').size
  rw[lR];exact Nat.le_succ_of_le G.i
 .
  show _<=(w'.heap.push o').size
  rw[lR];exact œ _
 .
  show(w'.heap.push o')[b]? = _
  rw[mw Z,ÿ Z]
 obtain E|⟨rfl,rfl⟩:=E
 exact .inl E
 refine .inr ⟨G.h,lr,?_⟩;simp_all
def mE (a b:Option (tI×Nat)):=(a=sA/\b=sA)\/∃e n m,a=A (e,n)/\b=A (e,m)/\n<=m
def Mg (V:r.rel x y):Ì P F L (λ_ a b=>mE a b) (yO x) (yO y) r:=λw w' G=>by
 refine .inr ⟨w.shape? x,w,r,w'.shape? y,w',#[],J,J,λk=>by simp[yO,ux,wi,kO],?_,G,ĩ.I ..,sm,J,lr,λ_ _=>J⟩;let⟨o,o',U,I,E⟩:=G.e _ _ V;unfold World.shape?;rw[U,I];cases o<;>simp only[Ĺ]at E
 case cells c t c=>obtain⟨Y,Z,rfl,O,-⟩:=E;exact .inr ⟨_,_,_,J,J,O.1⟩
 case map k k=>obtain⟨c,rfl,-⟩:=E;exact .inl ⟨J,J⟩
 case number a l=>obtain⟨a',rfl,-⟩:=E;exact .inl ⟨J,J⟩
def WR.k (O:WR F L r w w')(Y:r.rel x y)(V:w.heap[x]? = A o)(U:∀c t I,o≠.c c t I):L<=x:=by
 obtain E|E:=nR x L
 obtain⟨c,t,Z,G,-⟩:=O.u _ _ Y E;rw[V]at G;cases U _ _ _ (Ö G)
 exact E
def IZ (U:r.rel x y):Ì P F L (λt a b=>Ĺ F t a b/\L<=x) (A4 x) (A4 y) r:=λw w' G=>by
 let⟨o,o',E,V,Y⟩:=G.e _ _ U;let Z:=Y;cases o<;>simp[Ĺ]at Y
 case cells c t c=>exact .inl ⟨.stuck _,w,by simp[A4,tj,E];rfl,sk⟩
 case map c k=>
  obtain⟨c,rfl,k⟩:=Y;let O:=G.k U E nofun
  refine .inr ⟨_,w,r,_,w',#[⟨.obj y,ss,ss⟩],by simp[A4,tj,E],by simp[A4,tj,V],λc=>?_,⟨Z,O⟩,G,ĩ.I ..,λe I=>?_,J,lr,λt _=>by simp[A4,tj,show(À w t).heap=w.heap from J,E]⟩
  simp only[A4,ux,wi,V];rfl
  simp[ĺ,sV,ġ,ĝ]at I;subst I;exact .inr (.inr (.inl ⟨x,y,ss,O,U,J⟩))
 case number a l=>
  obtain⟨a',rfl,k⟩:=Y;let O:=G.k U E nofun
  refine .inr ⟨_,w,r,_,w',#[⟨.obj y,ss,ss⟩],by simp[A4,tj,E],by simp[A4,tj,V],λc=>?_,⟨Z,O⟩,G,ĩ.I ..,λe I=>?_,J,lr,λt _=>by simp[A4,tj,show(À w t).heap=w.heap from J,E]⟩
  simp only[A4,ux,wi,V];rfl
  simp at I
  subst I;exact .inr (.inr (.inl ⟨x,y,_,O,U,J⟩))
def Pq (G:r.rel x y){es E k}(ac:Ĺ F r (.map es k) (.map E k)):Ì P F L (λ_ _ _=>True) (y6 x (.map es k)) (y6 y (.map E k)) r:=λw w' V=>by
 let⟨o,o',U,O,Y⟩:=V.e _ _ G;let main:(∀c t I,o≠.c c t I) ->(∀c t I,o'≠.c c t I) ->(∀t,(y6 x (.map es k)).run P (À w t)=.ok () (À {w with heap:=w.heap.setIfInBounds x (.map es k)} t)) ->(y6 y (.map E k)).run P w'=.ok () {w' with heap:=w'.heap.setIfInBounds y (.map E k)} ->
   (∀evs,(y6 y (.map E k)).events P w' evs=evs++#[⟨.obj y,sy,ss⟩])->n6 P F L (λ_ _ _=>True) (y6 x (.map es k)) (y6 y (.map E k)) r w w':=λh _ c a e=>by
  let Z:=V.k G U h;refine .inr ⟨(),{w with heap:=w.heap.setIfInBounds x (.map es k)},r,(),{w' with heap:=w'.heap.setIfInBounds y (.map E k)},#[⟨.obj y,sy,ss⟩],c w.tape,a,e,sk,
   V.K G Z ac _ _ J J J J J J,ĩ.K G Z _ J J J J J,λe a=>?_,J,lr,λt _=>c t⟩
  simp[ĺ,sV,ġ,ĝ]at a;subst a;exact .inr (.inr (.inl ⟨x,y,sy,Z,G,J⟩))
 cases o<;>simp[Ĺ]at Y
 case cells c t I=>exact .inl ⟨.stuck _,w,by simp[y6,tj,U];rfl,sk⟩
 case map a j=>
  obtain⟨a,rfl,c⟩:=Y;exact main (nofun) (nofun) (λt=>by simp[y6,tj,show(À w t).heap=w.heap from J,U];rfl) (by simp[y6,tj,O]) λevs=>(by simp[y6,ux,wi,O];rfl)
 case number a l=>
  obtain⟨a',rfl,c⟩:=Y;exact main (nofun) (nofun) (λt=>by simp[y6,tj,show(À w t).heap=w.heap from J,U];rfl) (by simp[y6,tj,O]) λevs=>(by simp[y6,ux,wi,O];rfl)
def PI q:Ì P F L (λ_ a b=>b=a) (wP q) (wP q) r:=λw w' E=>by
 cases G:q.forced with
 |true=>exact .inr ⟨0,w,r,0,w',#[],by simp[wP,tj,G],by simp[wP,tj,G],λh=>by simp[wP,ux,wi,G],J,E,ĩ.I ..,sm,J,lr,λt _=>by simp[wP,tj,G]⟩
 |false=>
  refine .inr ⟨q.cut (w.tape w.drawn q),{w with drawn:=w.drawn+1},r,q.cut (w'.tape w'.drawn q),{w' with drawn:=w'.drawn+1},#[],by simp[wP,tj,G],by simp[wP,tj,G],λh=>by simp[wP,ux,wi,G],?_,
   ⟨E.e,E.u,E.d,E.g,E.h,E.i,λj q=>?_⟩,⟨J,J,J,lr,œ _,λ_ _ _=>J,λ_ _ h=>.inl h,Ô.d.refl _⟩,sm,J,œ _,λt I=>?_⟩
  have:=E.p 0 q;simp_all
  have:=E.p (1+j) q;simpa[lq]using this
  have:=I w.drawn q lr (ō _);simp only[wP,tj,G];show Result.ok (q.cut (t w.drawn q)) _=_
  rw[this];rfl
def bL (f:fI):Ì P F L (λ_ _ _=>True) (mark (.extern f)) (mark (.extern f)) r:=λw w' G=>
 .inr ⟨(),w,r,(),w',#[⟨_,_,_⟩],J,J,λe=>J,sk,G,ĩ.I ..,λe E=>(by
  simp at E
  subst E;exact .inr (.inr (.inr (.inr ⟨f,J⟩)))),J,lr,λ_ _=>J⟩
end
variable {c:Array Vl}{a a':Addr}{X:Vl ->Vl ->Prop}{u v:Vl}
def Gm{α}(P:pG)(s:xZ α):=∀w,∃h w1,s.run P w=.halt h w1/\JQ h
section
variable {α β γ δ:Type}{P:tP}{F:Nat->Prop}{L:Nat}{r:Ô}
def Al{Q:Ô->α->β->Prop}{s s'}(h:Gm P s):Ì P F L Q s s' r:=λw _ _=>.inl (h w)
def AV{h}(E:JQ h):Gm P (Sem.halt h:xZ α):=λw=>⟨h,w,J,E⟩
def BU{s}{f:α->xZ β}(U:∀w,(∃a w1,s.run P w=.ok a w1)\/∃h w1,s.run P w=.halt h w1/\JQ h)(I:∀a,Gm P (f a)):Gm P (s >>= f):=λw=>by
 obtain⟨a,w1,G⟩|⟨h,w1,G,E⟩:=U w
 let⟨h,Z,O,E⟩:=I a w1;exact⟨h,Z,by simp[G,O],E⟩
 exact⟨h,w1,oy G,E⟩
def Bn{s}{f:α->xZ β}(h:Gm P s):Gm P (s >>= f):=λw=>let⟨h,Z,E,G⟩:=h w;⟨h,Z,oy E,G⟩
def Od (t:tI)(w:M):(∃a w1,(elemOf t).run P w=.ok a w1)\/∃h w1,(elemOf t).run P w=.halt h w1/\JQ h:=by
 unfold elemOf wv;cases E:P.underlying t with
 |none=>exact .inr ⟨.stuck "no such type",w,by simp[tj,E],sk⟩
 |some d=>cases d<;>first|exact .inl ⟨_,w,by simp[tj,E];rfl⟩|exact .inr ⟨.stuck "pointer type expected",w,by simp[tj,E],sk⟩
def Bu e:Gm P (ym e:xZ α):=by
 refine BU (λw=>.inl ⟨P,w,J⟩) λp=>?_
 cases e
 case typeAssertion i c a m=>
  refine BU (λw=>Od _ w) λt=>BU (λw=>.inl ⟨_,_,J⟩) λx=>AV sk
 case panicNil=>
  refine BU (λw=>Od _ w) λt=>BU (λw=>.inl ⟨_,_,J⟩) λx=>AV sk
 all_goals exact AV sk
def Hw k x y c:Gm P (z6 k x y c:xZ α):=by
 unfold z6;split
 exact BU (λw=>.inl ⟨_,_,J⟩) λb=>Bu _
 exact BU (λw=>.inl ⟨_,_,J⟩) λb=>Bu _
def Iq{c} [Decidable c] {s t:xZ α}(h:Gm P s)(E:Gm P t):Gm P (if c then s else t):=by
 split
 exact h
 exact E
def Ae{u}(h:JQ (.unsupported u)):Gm P (wz u:xZ α):=AV h
def Du (t:tI):Ì P F L (λ_ a b=>b=a/\P.info? t=A a) (typeInfo t) (typeInfo t) r:=by
 apply CZ;cases h:P.info? t with
 |none=>exact Ah
 |some i=>exact Ad ⟨J,J⟩
def Be (t:tI):Ì P F L (λ_ a b=>b=a/\P.underlying t=A a) (wv t) (wv t) r:=by
 apply CZ;cases h:P.underlying t with
 |none=>exact Ah
 |some i=>exact Ad ⟨J,J⟩
def Fe (P:pG)(t:tI):Bool:=match P.info? t with
 |some i=>(match i.zero with|some z=>BV 8 z|none=>sy)
 |none=>sy
def D5{t}(E:Fe P t=sy):Ì P F L (λ_ a b=>b=a/\BV 8 a=sy) (zeroValue t) (zeroValue t) r:=by
 refine Ac (Du t) λs _ i _⟨rfl,G⟩=>?_
 unfold Fe at E;rw[G]at E;cases h:i.zero with
 |none=>exact fB (h:=.unsupported (.resourceLimit _)) sk
 |some z=>
  simp[h]at E
  exact Ad ⟨J,E⟩
def C9 (t:tI):Ì P F L (λ_ a b=>b=a/\∃i,P.info? t=A i/\a=i.size) (Gx t) (Gx t) r:=by
 refine Ac (Du t) λs _ i _⟨rfl,E⟩=>?_
 exact Ad ⟨J,i,E,J⟩
def Yd (t:tI):Ì P F L (λ_ a b=>b=a) (isAgg t) (isAgg t) r:=by
 refine Ac (Be t) λs _ d _⟨rfl,E⟩=>?_
 cases d<;>exact Ad J
def AR.add (h:AR r a a') n:AR r (a.add n) (a'.add n):=by
 unfold Addr.add;split
 exact h
 exact⟨h.1,oy h.2.1,J⟩
def Ó.m{I}(h:Ó X c I)(O:X u v):Ó X (c.push u) (I.push v):=by
 refine⟨oy h.1,λj x y G E=>?_⟩;rw[Β]at G E;rw[h.1]at E;split at G
 simp_all
 rename_i e
 rw[Ä e]at E;exact h.2 j x y G E
def Ó.nil:Ó X #[] #[]:=⟨J,λi x y E=>oF E⟩
def Ó.D (h:X u v):Ó X #[u] #[v]:=by
 have:=Ó.m (Ó.nil (X:=X)) h;exact this
def Ó.plain{n}  (h:∀x∈c,BV n x=sy):Ó (VR F r) c c:=⟨J,λi x y G E=>by
 rw[G]at E;cases E
 exact VR.plain (h x (ŵ G))⟩
def VR.cells (h:VR F r u v):Ó (VR F r) u.cells v.cells:=by
 have:=h.p;cases u<;>simp[Br]at this
 case agg c=>obtain⟨b,rfl,E⟩:=this;exact E
 case pointer=>obtain⟨_,rfl,-⟩:=this;exact Ó.D h
 case slice=>obtain⟨_,rfl,-⟩:=this;exact Ó.D h
 case map=>obtain⟨_,rfl,-⟩:=this;exact Ó.D h
 case func=>obtain⟨_,_,rfl,-⟩:=this;exact Ó.D h
 case iface=>obtain⟨_,rfl,-⟩:=this;exact Ó.D h
 case tuple=>obtain⟨_,rfl,-⟩:=this;exact Ó.D h
 all_goals (subst this;exact Ó.D h)
def QR n:∀{r}(_:AR r a a')(i)(c E),Ó (VR F r) c E->Ì P F L (λt x y=>Ó (VR F t) x y) (loadCellsFrom a i n c) (loadCellsFrom a' i n E) r:=by
 induction n with
 |zero=>exact λ_ i c E h=>Ad h
 |succ n O=>
  intro r G i c E h;refine Ac (dE (G.add i)) λt u v I U=>?_
  exact O (G.l I) _ _ _ ((h.l λ_ _=>VR.l I).m U)
def Pn (E:AR r a a') n:Ì P F L (λt x y=>Ó (VR F t) x y) (loadCells a n) (loadCells a' n) r:=QR n E 0 _ _ Ó.nil
def VR.agg{E}(h:Ó (VR F r) c E):VR F r (.agg c) (.agg E):=VR.e ⟨_,J,h⟩
def VR.tuple{E}(h:Ó (VR F r) c E):VR F r (.t c) (.t E):=VR.e ⟨_,J,h⟩
def VR.ptr (h:AR r a a'):VR F r (.p (A a)) (.p (A a')):=VR.e ⟨_,J,h⟩
def VR.g (h:AR r a a') n k:VR F r (.s (A a) n k) (.s (A a') n k):=VR.e ⟨_,J,h⟩
def VR.int k n:VR F r (.int k n) (.int k n):=VR.plain (n:=0) J
def VR.bool b:VR F r (.bool b) (.bool b):=VR.plain (n:=0) J
def FU (E:AR r a a')(t:tI):Ì P F L (VR F) (loadVar t a) (loadVar t a') r:=by
 apply Ac (Yd t);rintro s _ b G rfl;cases b with
 |false=>exact dE (E.l G)
 |true=>
  refine Ac (C9 t) λU _ n I⟨rfl,_⟩=>?_
  apply Ac (Pn ((E.l G).l I) n);exact λO c V _ h=>Ad (VR.agg h)
def Og{a a'}:∀(l G:List Vl){r}(_:AR r a a')(i),G.length=l.length->(∀(j:Nat) x y,l[j]? = A x->G[j]? = A y->VR F r x y)->Ì P F L (λ_ _ _=>True) (Gy a l i) (Gy a' G i) r
 |[],[],_,_,_,_,_=>Ad sk
 |u::l,v::G,r,I,i,E,h=>by
  refine Ac (rD (I.add i) (h 0 u v J J)) λt _ _ O _=>?_
  exact Og l G (I.l O) _ (sx E) λj x y V U=>(h (j+1) x y V U).l O
 |[],_::_,_,_,_,E,_=>nf E
 |_::_,[],_,_,_,E,_=>nf E
def MV{E}(I:AR r a a')(h:Ó (VR F r) c E):Ì P F L (λ_ _ _=>True) (Gy a c.toList) (Gy a' E.toList) r:=
 Og _ _ I 0 (oy h.1) λj x y G O=>h.2 j x y (sx G) (sx O)
def JW (G:AR r a a')(t:tI)(h:VR F r u v):Ì P F L (λ_ _ _=>True) (storeVar t a u) (storeVar t a' v) r:=by
 refine Ac (C9 t) λs _ n E⟨rfl,_⟩=>?_
 rw[h.cells.1];by_cases e:u.cells.size≠n
 rw[Æ e];exact Al (Bn (AV sk))
 rw[Ä e,Ä e];exact MV (G.l E) (h.cells.l λ_ _=>VR.l E)
def KP (t:tI){E}(h:Ó (VR F r) c E):Ì P F L (λs a a'=>AR s a a'/\L<=a.block) (newRow t c) (newRow t E) r:=by
 refine Ac (PD (o:=.c c t) (o':=.c E t) ⟨E,_,J,⟨js h.1.symm,h.2⟩,λk _ h=>absurd h (İ _)⟩) λs a b _⟨G,I⟩=>?_
 exact Ad ⟨⟨G,J,J⟩,I⟩
def Qf (t:tI)(h:VR F r u v):Ì P F L (λs a a'=>AR s a a'/\L<=a.block) (newVar t u) (newVar t v) r:=KP t h.cells
end
variable {u v:Vl}{mx O mx':Option Vl}
section
variable {α β γ δ:Type}{P:tP}{F:Nat->Prop}{L:Nat}{r:Ô}
def Lh (h:VR F r u v):Ì P F L (λ_ a b=>b=a) (asIntOf u) (asIntOf v) r:=by
 have:=h.p;cases u<;>simp[Br]at this
 case int k n=>subst this;exact Ad J
 case pointer a=>
  cases a with
  |none=>exact Ah
  |some a=>exact Al (Ae sk)
 all_goals exact Ah
def R6 (h:VR F r u v):Ì P F L (λ_ a b=>b=a) (asInt u) (asInt v) r:=by
 apply Ac (Lh h);rintro s _ x-rfl;exact Ad J
def iD (h:VR F r u v):Ì P F L (λ_ a b=>b=a) (asBool u) (asBool v) r:=by
 have:=h.p;cases u<;>simp[Br]at this
 case bool b=>subst this;exact Ad J
 all_goals exact Ah
def Mq (h:VR F r u v):Ì P F L (λt a b=>AR t a b) (asAddr u) (asAddr v) r:=by
 have:=h.p;cases u<;>simp[Br]at this
 case pointer a=>
  obtain⟨b,rfl,E⟩:=this;cases a<;>cases b<;>simp[Û]at E
  exact Al (show Gm P (ym .nilDeref)from Bu _)
  exact Ad E
 all_goals exact Ah
def Iw (h:VR F r u v):Ì P F L (λt a b=>AR t a b) (wj u) (wj v) r:=by
 have:=h.p;cases u<;>simp[Br]at this
 case pointer a=>
  obtain⟨b,rfl,E⟩:=this;cases a<;>cases b<;>simp[Û]at E
  exact Ah
  exact Ad E
 all_goals exact Ah
def RO (P:pG)(s:tI)(k:Nat):Bool:=match P.underlying s with
 |some (.struct E)=>(match E[k]? with
  |some f=>(match P.info? f.type with|some i=>i.size !=0|none=>sy)
  |none=>sy)
 |_=>sy
def dG{u v x y:Value}(h:VR F r u v)(hx:VR F r x y) t:Ì P F L (VR F) (BR t u x) (BR t v y) r:=by
 unfold BR;dsimp only
 apply Ac (Lh hx)
 rintro s _⟨k,i⟩hle rfl;apply Ac (Be t)
 rintro Z _ d hle2⟨rfl,a⟩;let s:=(h.l hle).l hle2;let fin:∀(m:String)(c:Ô)(a a':oA)(len:Nat)(elem:TypeId),Û (AR c) a a' ->Ì P F L (VR F)
   (wv t >>= λd=>match a with
    |some a=>if 0<=i/\i<(len:Int)then(Gx elem >>= λn=>pure (Value.pointer (A (a.add (i.toNat*n)))))else if (decide (len<=1)&&match d with|TypeDesc.array len elem=>sy|x=>ss)=sy then wz (Unsupported.noEntry m)else z6 k i (len:Int) yU
    |none=>z6 k i 0 yU)
   (wv t >>= λd=>match a' with
    |some a=>if 0<=i/\i<(len:Int)then(Gx elem >>= λn=>pure (Value.pointer (A (a.add (i.toNat*n)))))else if (decide (len<=1)&&match d with|TypeDesc.array len elem=>sy|x=>ss)=sy then wz (Unsupported.noEntry m)else z6 k i (len:Int) yU
    |none=>z6 k i 0 yU) c:=by
  intro m c a a' len elem k;apply Ac (Be t)
  rintro c _ c hle4⟨rfl,-⟩;cases a<;>cases a'<;>simp[Û]at k
  exact Al (Hw _ _ _ _)
  dsimp only
  by_cases a:0<=i/\i<(len:Int)
  .
   rw[Æ a,Æ a];apply Ac (C9 elem)
   rintro c _ n hle5⟨rfl,-⟩;exact Ad (VR.ptr (((k.l hle4).l hle5).add _))
  rw[Ä a,Ä a];exact Al (Iq (Ae sk) (Hw _ _ _ _))
 cases d<;>first|exact Al (Bn (AV sk))|skip
 case array len elem=>
  dsimp only
  apply Ac (Iw s)
  intro c a a' hle3 k;exact fin _ c (A a) (A a') len elem k
 case slice elem=>
  let hu':=s.p;cases u<;>simp[Br]at hu'
  case slice a n c=>
   obtain⟨a',rfl,k⟩:=hu';exact fin _ Z a a' n _ k
  all_goals exact Al (Bn (AV sk))
def VF{c I}(h:Ó (VR F r) c I)(t:tI) off:Ì P F L (VR F) (part t c off) (part t I off) r:=by
 apply Ac (Yd t)
 rintro s _ b U rfl;cases b with
 |true=>
  apply Ac (C9 t)
  rintro Y _ n V⟨rfl,-⟩;refine Ad (VR.agg ⟨oy h.1,λi x y E G=>?_⟩);rw[mH]at E G;split at E
  .
   rename_i e
   rw[h.1,Æ e]at G;exact((h.2 _ _ _ E G).l U).l V
  cases E
 |false=>
  rw[Ä sm];cases E:c[off]? with
  |none=>exact Ah
  |some x=>
   let O:off<I.size:=h.1▸BI E
   rw[ÿ O];exact Ad ((h.2 _ _ _ E (ÿ O)).l U)
def qL (h:VR F r u v)(s:tI) k:Ì P F L (VR F) (Instr.field s u k) (Instr.field s v k) r:=by
 apply Ac (Be s);rintro t _ d G⟨rfl,I⟩;cases d<;>first|exact Ah|skip
 rename_i fields
 dsimp only
 cases O:fields[k]? with
 |none=>exact Ah
 |some f=>exact Ac ((by
   let h:=(h.l G)
   have:=h.p;cases u<;>simp[Br]at this
   case agg c=>obtain⟨U,rfl,E⟩:=this;exact Ad E
   all_goals exact Ah)) λ_ _ _ _ E=>VF E _ _
def eY (h:VR F r u v) k:Ì P F L (VR F) (E7 u k) (E7 v k) r:=by
 have:=h.p;cases u<;>simp[Br]at this
 case tuple c=>
  obtain⟨O,rfl,I⟩:=this;unfold E7;dsimp only
  cases G:c[k]? with
  |none=>exact Ah
  |some x=>
   let E:k<O.size:=I.1▸BI G
   rw[ÿ E];exact Ad (I.2 _ _ _ G (ÿ E))
 all_goals exact Ah
def FK (h:VR F r u v) n c:Ì P F L (λ_ a b=>b=a) (zw u n c) (zw v n c) r:=by
 apply Ac (Lh h);rintro s _⟨k,i⟩E rfl;dsimp only
 split
 exact Ad J
 exact Al (Hw _ _ _ _)
def Sl (E:Option Vl)(m h:Nat)(c:BoundsCode):=match E with
 |some v=>zw v h c >>= λl=>pure (l,h,m)
 |none=>pure 0 >>= λl=>pure (l,h,m)
def RV{E G}(I:Û (VR F r) E G) m h c:Ì P F L (λ_ a b=>b=a) (Sl E m h c) (Sl G m h c) r:=by
 cases E<;>cases G<;>simp[Û]at I
 exact Ad J
 apply Ac (FK I h c);rintro O _ l-rfl;exact Ad J
def GL{G V I}(ab:Û (VR F r) G I)(U:Û (VR F r) V O)(aa:Û (VR F r) mx mx') b n k:Ì P F L (λ_ a b=>b=a) (Cd b n k G V mx) (Cd b n k I O mx') r:=by
 let low:∀s,r.d s->Û (VR F s) G I:=λs E=>ab.l λ_ _=>VR.l E
 cases mx<;>cases mx'<;>simp[Û]at aa
 .
  cases V<;>cases O<;>simp[Û]at U
  exact RV ab k n _
  apply Ac (f:=λh=>Sl G k h _) (f':=λh=>Sl I k h _) (FK U k _)
  rintro Z _ h Y rfl;exact RV (low Z Y) k h _
 cases V<;>cases O<;>simp[Û]at U
 .
  apply Ac (FK aa k _)
  rintro s _ m E rfl;exact Al (Bn (AV sk))
 apply Ac (FK aa k _)
 rintro s _ m E rfl;apply Ac (f:=λh=>Sl G m h _) (f':=λh=>Sl _ m h _) (FK (U.l E) m _)
 rintro Z _ h Y rfl;exact RV (low Z (E.trans Y)) m h _
def Û.add{a a':oA}(h:Û (AR r) a a') n:Û (AR r) (a.map (·.add n)) (a'.map (·.add n)):=by
 cases a<;>cases a'<;>simp only[Û]at h⊢
 exact sk
 exact AR.add h n
def qM (h:VR F r u v){ak ai aj ab}(ao:Û (VR F r) ak aj)(am:Û (VR F r) ai ab)(ap:Û (VR F r) mx mx')(t:tI):Ì P F L (VR F) (GO t u ak ai mx) (GO t v aj ab mx') r:=by
 unfold GO;dsimp only
 apply Ac (Be t)
 rintro s _ d U⟨rfl,a⟩;let Y:=ao.l λ_ _=>VR.l U
 let V:=am.l λ_ _=>VR.l U
 have s:=ap.l λ_ _=>VR.l U
 let X:=h.l U;have O:=X.p;cases d<;>first|exact Ah|skip
 case string=>
  cases u<;>simp[Br]at O<;>first|exact Ah|skip
  case string b=>
   subst O;dsimp only
   let a:mx'.isSome=mx.isSome:=by cases mx<;>cases mx'<;>simp_all[Û]
   rw[a];split
   exact Al (Bn (AV sk))
   apply Ac (GL Y V (mx:=sA) (mx':=sA) sk ss b.size b.size)
   rintro b _ x-rfl;exact Ad (VR.plain (n:=0) J)
 case slice elem=>
  cases u<;>simp[Br]at O<;>first|exact Ah|skip
  case slice a n c=>
   obtain⟨a',rfl,Z⟩:=O;dsimp only
   apply Ac (GL Y V s sy n c)
   rintro b _⟨l,h,m⟩G rfl;apply Ac (C9 elem)
   rintro c _ z E⟨rfl,-⟩;dsimp only
   refine Ad (VR.e ?_);let I:=(Z.l λ_ _=>AR.l G).l λ_ _=>AR.l E
   split
   exact⟨_,J,I⟩
   exact⟨_,J,I.add _⟩
 case pointer arr=>
  dsimp only
  apply Ac (Mq X)
  intro b a a' G Z;apply Ac (Be arr)
  rintro c _ d E⟨rfl,-⟩;cases d<;>first|exact Ah|skip
  case array n elem=>
   dsimp only
   apply Ac (GL (Y.l λ_ _=>VR.l (G.trans E)) (V.l λ_ _=>VR.l (G.trans E)) (s.l λ_ _=>VR.l (G.trans E)) ss n n)
   rintro a _⟨l,h,m⟩a rfl;apply Ac (C9 elem)
   rintro b _ z b⟨rfl,-⟩;dsimp only
   let I:=Z.l (E.trans (a.trans b));refine Ad (VR.e ⟨_,J,?_⟩);split
   exact I
   exact I.add _
def dP (h:VR F r u v){aa Y Z}(aj:Û (VR F r) aa Z)(ac:Û (VR F r) Y O)(ak:Û (VR F r) mx mx')(t:tI):Ì P F L (VR F) (E' t u aa Y mx) (E' t v Z O mx') r:=by
 unfold E';dsimp only
 apply Ac (Be t)
 rintro s _ d E⟨rfl,a⟩;let U:=aj.l λ_ _=>VR.l E
 let I:=ac.l λ_ _=>VR.l E
 let l:=ak.l λ_ _=>VR.l E
 cases d<;>first|exact qM (h.l E) U I l t|skip
 case array n elem=>
  dsimp only
  apply Ac (Iw (h.l E))
  intro a a a' G d;apply Ac (GL (U.l λ_ _=>VR.l G) (I.l λ_ _=>VR.l G) (l.l λ_ _=>VR.l G) ss n n)
  rintro a _⟨l,h,m⟩l rfl;apply Ac (C9 elem)
  rintro a _ z a⟨rfl,-⟩;dsimp only
  let V:=d.l (l.trans a);refine Ad (VR.e ⟨_,J,?_⟩);split
  exact V
  exact V.add _
end
end Go.Proofs.YtaoikkhlnhfkfaaGreatDoor
