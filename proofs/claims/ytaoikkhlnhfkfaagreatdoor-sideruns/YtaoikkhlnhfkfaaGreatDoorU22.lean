import Derived.Test.YtaoikkhlnhfkfaaGreatDoorU00
import Derived.Test.YtaoikkhlnhfkfaaGreatDoorU21
set_option linter.defProp false
set_option linter.unusedSimpArgs false
set_option linter.unusedVariables false
namespace Go.Proofs.YtaoikkhlnhfkfaaGreatDoor
open Go renaming Program->tP,World->tz,Addr->xr,Sem->xZ,shape->yO,behindNumber->yb,cellAtBytes->zz,unsupported->wz
open Option renaming some->A
open World renaming noCell->z',shape?->vd,frozen?->yj
open Sem renaming run->tj,events->ux,runT->wi,getObj->IH
open Bool renaming false->ss,true->sy
open Instr renaming sureAddr->wj,indexAt->BR,sliceBound->zw,sliceBounds->Cd
open Builtin renaming unsafeAdd_->vo
open Unsupported renaming unsafePointer->yk
section
variable {α β:Type}{P:tP}{H:Nat->Prop}{v w:tz}
def DY.l (G:DY H v w)(b:Nat):∀c e,v.heap[b]?≠A (.pending c e):=λc e h=>by
 by_cases I:H b
 obtain⟨U,e',-,E⟩:=G.d _ I;rw[h]at E;cases E
 obtain⟨-,E,-⟩|⟨o,o',-,E,O⟩:=G.m _ I
 exact E c e h
 rw[h]at E;obtain⟨_,_,-,rfl⟩|⟨_,_,-,rfl⟩:=O<;>cases E
def DY.z (G:DY H v w){b:Nat}{a}{u:tI}(h:v.heap[b]? = A (.view a u)):a.spot=A 0:=by
 by_cases I:H b
 obtain⟨U,e',-,E⟩:=G.d _ I;rw[h]at E;cases E
 obtain⟨-,-,E⟩|⟨o,o',-,E,O⟩:=G.m _ I
 cases E a u h
 rw[h]at E;obtain⟨_,_,-,rfl⟩|⟨_,_,-,rfl⟩:=O<;>cases E
 rfl
def nE (p:pG)(w:M){a}(u:tI) k b(h:a.spot=A 0):∃m,w.seen p a u k b=.error m:=by
 unfold World.seen;simp[h,Option.isSome_some,Bool.or_true,ô];exact⟨_,J⟩
def DY.D (G:DY H v w)(p:pG) a b:∃x,v.farLoad p a b=.error x/\JQ x:=by
 unfold World.farLoad;cases E:v.heap[a.block]? with
 |none=>exact⟨_,J,by simp[z',E];trivial⟩
 |some o=>
  cases o<;>first|exact⟨_,J,by simp[z',E];trivial⟩|exact absurd E (G.l _ _ _)|skip
  obtain⟨m,e⟩:=nE p v _ a b (G.z E);dsimp only
  unfold World.viewLoad;rw[e];exact⟨_,J,sk⟩
def DY.f (I:DY H v w)(p:pG) a(y:Vl) b:∃x,v.farStore p a y b=.error x/\JQ x:=by
 unfold World.farStore;cases E:v.heap[a.block]? with
 |none=>exact⟨_,J,by simp[z',E];trivial⟩
 |some o=>
  cases o<;>first|exact⟨_,J,by simp[z',E];trivial⟩|exact absurd E (I.l _ _ _)|skip
  rename_i k u
  let⟨m,e⟩:=nE p v u a b (I.z E);let G:∃m,v.viewStore p k u a y b=.error m:=by
   unfold World.viewStore;simp[e,bind,Except.bind];split<;>exact⟨_,J⟩
  let⟨O,G⟩:=G;dsimp only
  rw[G];exact⟨_,J,sk⟩
end
variable {a:xr}{b c:Bool}{n r:Nat}{x:Vl}{o:Obj}
section
variable {α β:Type}{P:tP}{H:Nat->Prop}{v w:tz}
def Vo (h:¬H a.block)(I:a.block<n):Qx H n ⟨.cell a,b,c⟩:=⟨λy O=>sL,λr G=>(nf G),sm,λk E=>(nf E)⟩
def zC (h:¬H r)(I:r<n):Qx H n ⟨.obj r,b,c⟩:=⟨λy G=>(nf G),λr O=>sL,sm,λk E=>(nf E)⟩
def Vj{e u}(I:Qx H n e)(G:∀x∈u,Qx H n x):∀x∈#[e]++u,Qx H n x:=λx E=>by
 obtain E|E:=ο.1 E
 simp_all
 exact G x E
def kM{m}{k:Vl->xZ α}(h:∀x,AB P H (k x)):AB P H (.load m a k):=λv w I=>by
 cases E:v.cell? a with
 |some x=>
  obtain⟨O,Z,-⟩:=I.E E;obtain⟨z,T,G,t⟩|⟨b,v',w',u,X,G,Y,V,e,W,U⟩:=h x v w I
  exact .inl ⟨z,T,by simp[tj,E];exact G,t⟩
  refine .inr ⟨b,v',w',#[⟨.cell a,ss,m==.atomic⟩]++u,by simp[tj,E];exact X,by simp[tj,O];exact G,Y,V,λb=>?_,Vj (Vo Z (rZ (BZ O) V.h)) W,U.1,U.2.1,λt u=>?_⟩
  have:=e (b.push ⟨.cell a,ss,m==.atomic⟩);simp only[ux,wi,O]at this⊢;rw[this];simp
  let b:(À v t).cell? a=A x:=E;simp[tj,b]
  exact U.2.2 t u
 |none=>
  let⟨x,e,b⟩:=I.D P a (m==.atomic);exact .inl ⟨x,v,by simp[tj,E,e],b⟩
def DY.g (E:DY H v w)(h:v.cell? a=A x)(y:Vl):DY H (v.setCell a y) (w.setCell a y)/\ć H w (w.setCell a y):=by
 let⟨Z,I,U⟩:=E.E h;let⟨o,Y,G⟩:=eF h y;let V:=G w U;exact⟨E.K I o Y _ _ (G v J) V E.p E.x E.i,Yg I o (by rw[U];unfold World.cell? at h;cases O:v.heap[a.block]? with|none=>rw[O]at h;cases h|some o=>(cases o<;>rw[O]at h<;>first|exact⟨_,_,_,J⟩|cases h)) _ V J J J J⟩
def Fp{m}{k:xZ α}(E:∀c,x≠.agg c)(G:∀c,x≠.t c)(w:M):(Sem.store m a x k).run P w=match w.cell? a with
  |some _=>if w.frozen? a then .halt (.unsupported (.unsafePointer "a write to bytes that a string shares")) w else k.run P (w.setCell a x)
  |none=>match w.farStore P a x (m==.atomic)with
   |.ok (w,_)=>k.run P w
   |.error h=>.halt h w:=by cases x<;>first|rfl|exact absurd J (E _)|cases G _ rfl
def VT{m}{k:xZ α}(E:∀c,x≠.agg c)(I:∀c,x≠.t c)(w:M) es:(Sem.store m a x k).runT P w es=match w.cell? a with
  |some _=>
   if w.frozen? a then (.halt (.unsupported (.unsafePointer "a write to bytes that a string shares")) w,es)
   else k.runT P (w.setCell a x) (es.push ⟨.cell a,sy,m==.atomic⟩)
  |none=>match w.farStore P a x (m==.atomic)with
   |.ok (w,G)=>k.runT P w (es++G.toArray.map (⟨.cell ·,sy,m==.atomic⟩))
   |.error h=>(.halt h w,es):=by cases x<;>first|rfl|exact absurd J (E _)|cases I _ rfl
def fU{m}{k:xZ α}(h:AB P H k):AB P H (.store m a x k):=λv w U=>by
 by_cases e:∃c,x=.agg c
 obtain⟨c,rfl⟩:=e;exact .inl ⟨_,v,J,sk⟩
 by_cases b:∃c,x=.t c
 obtain⟨c,rfl⟩:=b;exact .inl ⟨_,v,J,sk⟩
 let I:=λc E=>e ⟨c,E⟩
 let G:=λc E=>b ⟨c,E⟩
 cases E:v.cell? a with
 |some y=>
  by_cases O:v.frozen? a=sy
  exact .inl ⟨.unsupported (.unsafePointer "a write to bytes that a string shares"),v,by rw[Fp I G,E];dsimp only;rw[Æ O],sk⟩
  obtain⟨Y,S,-⟩:=U.E E;let⟨Q,t⟩:=U.g E x;let e:¬w.frozen? a=true:=rj U.s O
  obtain⟨z,R,V,X⟩|⟨b,v',w',u,w,V,W,c,T,r9,Z⟩:=h _ _ Q
  exact .inl ⟨z,R,by rw[Fp I G,E];dsimp only;rw[Ä O];exact V,X⟩
  refine .inr ⟨b,v',w',#[⟨.cell a,sy,m==.atomic⟩]++u,by rw[Fp I G,E];dsimp only;rw[Ä O];exact w,by rw[Fp I G,Y];dsimp only;rw[Ä e];exact V,W,t.G c,λu=>?_,Vj (Vo S (rZ (BZ Y) (t.G c).h)) r9,Z.1,Z.2.1,λt b=>?_⟩
  .
   have:=T (u.push ⟨.cell a,sy,m==.atomic⟩);simp only[ux]at this⊢;rw[VT I G,Y];dsimp only
   rw[Ä e,this];simp
  let c:(À v t).cell? a=A y:=E;let e:¬(À v t).frozen? a=true:=O;rw[Fp I G,c];rw[Ä e];exact Z.2.2 t b
 |none=>
  obtain⟨y,e,b⟩:=U.f P a x _;exact .inl ⟨y,v,by rw[Fp I G,E];rw[e],b⟩
def oN{k:Nat->xZ α}(h:∀n,AB P H (k n))(ac:(∀c e,o≠.pending c e)/\∀a u,o≠.view a u):AB P H (.new o k):=λv w E=>by
 let X:DY H {v with heap:=v.heap.push o} {w with heap:=w.heap.push o}:=by
  refine⟨oy E.h,λc I=>?_,λc I=>?_,E.p,E.x,E.i⟩
  .
   simp only[Β,E.h];split
   exact .inl ⟨J,λc e Z=>ac.1 c e (Ö Z),λc e Z=>ac.2 c e (Ö Z)⟩
   exact E.m c I
  let⟨t,e',V,U⟩:=E.d c I;let G:=(ω.1 U).1;refine⟨t,e',?_,?_⟩
  simp[Β,E.h,Ä (kp G)];exact V
  simp[Β,Ä (kp G)];exact U
 let Z:ć H w {w with heap:=w.heap.push o}:=by
  refine⟨sm,λc I=>?_,J,lr,J,J,λb o b _=>by
   let G:=(ω.1 b).1;simp[Β,Ä (kp G)];exact b⟩
  let⟨t,e',V,U⟩:=E.d c I;let G:=(ω.1 V).1;simp[Β,Ä (kp G)]
 obtain⟨z,V,O,w⟩|⟨b,v',w',u,t,O,U,G,I,W,Y⟩:=h v.z _ _ X
 exact .inl ⟨z,V,by simp[tj];exact O,w⟩
 refine .inr ⟨b,v',w',u,by simp[tj];exact t,by simp[tj,E.h];exact O,U,Z.G G,λb=>?_,W,Y.1,Y.2.1,λt v=>Y.2.2 t v⟩;have:=I b;simp only[ux,wi,E.h]at this⊢;exact this
def DY.B (I:DY H v w) r:(w.shape? r=v.shape? r)\/(∃e n m,w.shape? r=A (e,n)/\v.shape? r=A (e,m)):=by
 by_cases O:H r
 let⟨c,e,G,E⟩:=I.d _ O;exact .inr ⟨e,c.size,0,by simp[vd,G],by simp only[vd,E];rfl⟩
 obtain⟨V,-⟩|⟨o,o',G,E,U⟩:=I.m _ O
 exact .inl (by simp[vd,V])
 exact .inl (by obtain⟨c,e,rfl,rfl⟩|⟨b,u,rfl,rfl⟩:=U<;>simp[vd,G,E])
def dC{k:Option (tI×Nat)->xZ α}(h:∀x,AB P H (k x))(U:∀e n m,k (A (e,n))=k (A (e,m))):AB P H (.shape r k):=λv w I=>by
 let O:k (w.shape? r)=k (v.shape? r):=by
  obtain b|⟨x,y,z,t,Z⟩:=I.B r
  rw[b]
  rw[t,Z];exact U ..
 obtain⟨z,Z,E,y⟩|⟨b,v',w',u,t,E,V,Y,v,w,G⟩:=h _ _ _ I
 exact .inl ⟨z,Z,E,y⟩
 refine .inr ⟨b,v',w',u,t,by simp[tj,O];exact E,V,Y,λb=>?_,w,G.1,G.2.1,λt u=>G.2.2 t u⟩;have:=v b;simp only[ux,wi,O]at this⊢;exact this
def MZ{k:Option (tI×Nat)->xZ α}(h:∀x,AB P H (k x))(E:∀e n m,k (A (e,n))=k (A (e,m))):AB P H (yO r >>= k):=dC h E
def Xw a m:AB P H (load a m):=kM λx=>Ab x
def iQ a(x:Vl) m:AB P H (store a x m):=fU (Ab ())
def Ou (E:(∀c e,o≠.pending c e)/\∀a u,o≠.view a u:=by constructor<;>(intro _ _ h;cases h)):AB P H (newObj o):=oN (λx=>Ab x) E
def YB{k:Bool->xZ α}(h:∀x,AB P H (k x)):AB P H (.frozen a k):=λv w G=>by
 obtain⟨z,Y,E,Z⟩|⟨b,v',w',u,V,E,O,U,w,t,I⟩:=h (v.frozen? a) _ _ G
 exact .inl ⟨z,Y,by simp[tj];exact E,Z⟩
 refine .inr ⟨b,v',w',u,V,by simp[tj,G.s];exact E,O,U,λb=>?_,t,I.1,I.2.1,λt Z=>I.2.2 t Z⟩;have:=w b;simp only[ux,wi,G.s]at this⊢;exact this
def KI{k:Obj->xZ α}(I:∀c t E,o≠.c c t E){w:M}(G:w.heap[r]? = A o):(IH r k).run P w=(k o).run P w/\∀es,(IH r k).runT P w es=(k o).runT P w (es.push ⟨.obj r,ss,o.isChan⟩):=by
 simp only[tj,wi,G];cases o<;>first|exact mz|simp
def rU{k:Obj->xZ α}{w:M}(G:∀o,w.heap[r]? = A o->∃c t E,o=.c c t E):∃h,(IH r k).run P w=.halt h w/\JQ h:=by
 simp[tj]
 cases I:w.heap[r]? with
 |none=>exact⟨_,J,sk⟩
 |some o=>
  obtain⟨c,t,E,rfl⟩:=G o I;exact⟨_,J,sk⟩
def Ym{k:Obj->xZ α}(h:∀x,AB P H (k x))(ao:∀c e,k (.pending c e)=k (.coro none))(aI:∀a b u,k (.view a u)=k (.view b u)):AB P H (.getObj r k):=λv w W=>by
 by_cases z:∀o,v.heap[r]? = A o->∃c t I,o=.c c t I
 let⟨x,V,G⟩:=rU (P:=P) (k:=k) z;exact .inl ⟨x,v,V,G⟩
 obtain⟨o,E,U⟩:∃o,v.heap[r]? = A o/\∀c t I,o≠.c c t I:=by
  refine ż λY=>z λo E=>ż λz=>Y ⟨o,E,λc t I O=>z ⟨c,t,I,O⟩⟩
 let Y:¬H r:=λt=>by
  obtain⟨c,e',-,G⟩:=W.d _ t;rw[E]at G;exact U _ _ _ (Ö G)
 obtain⟨o',X,T,S⟩:∃o',w.heap[r]? = A o'/\(∀c t I,o'≠.c c t I)/\k o'=k o:=by
  obtain⟨z,-⟩|⟨t,t,V,G,t⟩:=W.m _ Y
  exact⟨o,z.trans E,U,J⟩
  rw[E]at G;cases G
  obtain⟨c,e,rfl,rfl⟩|⟨b,u,rfl,rfl⟩:=t
  exact⟨_,V,(nofun),ao c e⟩
  exact⟨_,V,(nofun),aI ..⟩
 let I:=(ω.1 X).1;obtain⟨z,Q,Z,se⟩|⟨b,v',w',u,O,Z,V,t,r9,R,G⟩:=h o _ _ W
 exact .inl ⟨z,Q,(KI U E).1▸Z,se⟩
 refine .inr ⟨b,v',w',#[⟨.obj r,ss,o'.isChan⟩]++u,(KI U E).1▸O,(KI T X).1▸S▸Z,V,t,λo=>?_,Vj (zC Y (rZ I t.h)) R,G.1,G.2.1,λt z=>?_⟩
 have:=r9 (o.push ⟨.obj r,ss,o'.isChan⟩);simp only[ux]at this⊢;rw[(KI T X).2,S,this];simp
 rw[(KI (w:=À v t) U E).1];exact G.2.2 t z
def Lf{k:Obj->xZ α}(h:∀x,AB P H (k x))(G:∀c e,k (.pending c e)=k (.coro none))(E:∀a b u,k (.view a u)=k (.view b u)):AB P H (getObj r >>= k):=Ym h G E
def Su a:AB P H (frozen a):=YB λx=>Ab x
end
section
variable {α β:Type}{P:tP}{H:Nat->Prop}{v w:tz}
def CQ{m:xZ α}(h:Gm P m):AB P H m:=λv _ _=>.inl (h v)
def Ce (t:tI):AB P H (typeInfo t):=by
 apply BH
 split
 exact Ab _
 exact Af _
def AP (t:tI):AB P H (underlying t):=by
 apply BH
 split
 exact Ab _
 exact Af _
def EO (t:tI):AB P H (zeroValue t):=by
 refine Aa (Ce t) λa=>?_
 split
 exact Ab _
 exact Bb _
def BQ (t:tI):AB P H (sizeOf t):=Aa (Ce t) λ_=>Ab _
def UD (t:tI):AB P H (isAgg t):=by
 refine Aa (AP t) λa=>?_
 split<;>exact Ab _
def G7 a:∀(n i)(c:Array Vl),AB P H (loadCellsFrom a i n c)
 |0,_,_=>Ab _
 |n+1,i,c=>Aa (Xw _ _) λx=>G7 a n _ _
def Er (t:tI) a:AB P H (loadVar t a):=by
 refine Aa (UD t) λ_=>Aw ?_ (Xw _ _)
 exact Aa (BQ t) λn=>Aa (G7 a n 0 _) λc=>Ab _
def GK a:∀(l:List Vl)(i),AB P H (storeCells a l i)
 |[],_=>Ab _
 |x::l,i=>Aa (iQ _ _ _) λ_=>GK a l _
def Jc (t:tI) a(x:Vl):AB P H (storeVar t a x):=by
 refine Aa (BQ t) λn=>?_
 split
 exact Aa (Af _) λ_=>GK _ _ _
 exact Aa (Ab _) λ_=>GK _ _ _
def Jv (t:tI)(c:Array Vl):AB P H (newRow t c):=Aa (Ou) λ_=>Ab _
def NY (t:tI)(x:Vl):AB P H (newVar t x):=Jv t _
def DI (t:tI)(c:Array Vl) off:AB P H (part t c off):=by
 refine Aa (UD t) λ_=>Aw (Aa (BQ t) λ_=>Ab _) ?_
 split
 exact Ab _
 exact Af _
def J4 (x:Vl):AB P H (asIntOf x):=by
 unfold asIntOf;split
 exact Ab _
 exact Bb _
 exact Af _
def MW (x:Vl):AB P H (asInt x):=Aa (J4 x) λ_=>Ab _
def La (x:Vl):AB P H (asBool x):=by
 unfold asBool;split
 exact Ab _
 exact Af _
def lm (x:Vl):AB P H (asAgg x):=by
 unfold asAgg;split
 exact Ab _
 exact Af _
def Jo (x:Vl):AB P H (asAddr x):=by
 unfold asAddr;split
 exact Ab _
 exact CQ (Bu _)
 exact Af _
def Gv (x:Vl):AB P H (wj x):=by
 unfold wj;split
 exact Ab _
 exact Af _
def mz{p:Prop}(h:p:=by
 repeat' with_reducible first
  |exact Ab _
  |exact Af _
  |exact Bb _
  |exact Ce _
  |exact AP _
  |exact EO _
  |exact BQ _
  |exact UD _
  |exact Er _ _
  |exact Jc _ _ _
  |exact Jv _ _
  |exact NY _ _
  |exact DI _ _ _
  |exact J4 _
  |exact MW _
  |exact La _
  |exact lm _
  |exact Jo _
  |exact Gv _
  |exact Xw _ _
  |exact iQ _ _ _
  |exact DZ _
  |exact Su _
  |exact JH _ _
  |exact Ch _
  |exact Et _ _ _ _
  |exact QM _
  |exact BP _ _ _
  |exact WV _ _
  |exact O1 _ _
  |exact Ru _ _
  |exact NC _ _
  |exact msim_eql _ _ _ _
  |exact EU _
  |exact Xc _ _
  |exact Pe _
  |exact M7 _ _ _ _
  |exact Pm _ _ _ _
  |exact Ba _ _ _ _
  |exact KH _ _ _ _
  |exact Ei _ _ _
  |exact Rf _ _ _
  |exact ZU _ _ _ _
  |exact NP _ _ _ _ _
  |exact Wz _ _ _ _
  |exact Oh _
  |exact EX _
  |exact bO _ _
  |exact YI _ _ _
  |exact GD _ _
  |exact TC _ _ _ _
  |exact Sw _ _ _ _
  |exact OX _ _ _ _
  |exact QU _ _ _ _
  |exact bW _ _ _
  |exact dm _ _ _ _
  |exact LF _ _ _
  |exact rQ _ _
  |exact rG _ _
  |exact iV _
  |exact JK _ _ _
  |refine Aw ?_ ?_
  |refine Aa ?_ λ_=>?_
  |split
  |dsimp only):p:=h
def SF{r}{k:Option (xr×tI)->xZ α}(h:∀x,AB P H (k x))(E:∀x y,k (A x)=k (A y)):AB P H (viewAt r >>= k):=by
 show AB P H (yO r >>= λx=>(if x.isSome=sy then pure _ else getObj r >>= λo=>match o with|.view a t=>pure _|_=>pure _) >>= k)
 refine MZ (λx=>?_) λ_ _ _=>J
 cases x with
 |some x=>exact h _
 |none=>
  show AB P H _
  refine Lf (λo=>?_) (λ_ _=>J) λ_ _ _=>E ..
  cases o<;>exact h _
def Oh a:AB P H (noView a):=SF (λ_=>Aw (Bb _) (mz)) λ_ _=>J
def EX a:AB P H (byteOf a):=by
 let tail:∀e:tI,AB P H (program >>= λp=>(do
   let s:=p.cellsOf e
   if s=0 then return 0
   let A b:=byteOfCell p p.depth e (a.off % s)|stuck "byteOf: no such cell"
   pure (a.off / s*p.bytesOf e+b):xZ Nat)):=λe=>by
  apply BH
  exact mz
 unfold byteOf;split
 exact mz
 apply BH
 refine Aa (mz) λ_=>?_
 refine MZ (λx=>?_) λ_ _ _=>J
 split
 exact tail _
 exact mz
def JH a f:AB P H (fieldPlace a f):=Aa (mz) λ_=>Aw ((by
  unfold partAt;exact mz)) (mz)
def Et k x y c:AB P H (boundsPanic k x y c:xZ α):=CQ (Hw k x y c)
def Ch e:AB P H (runtimePanic e:xZ α):=CQ (Bu e)
def YH (t:tI)(x i:Vl):AB P H (BR t x i):=by
 unfold BR;refine Aa (J4 i) λp=>?_
 let⟨k,i⟩:=p;refine Aa (AP t) λd=>?_
 dsimp only
 split
 .
  refine Aa (Gv _) λa=>Aa (Ab _) λp=>?_
  refine Aa (AP t) λd=>?_
  split
  exact Aw (Aa (BQ _) λ_=>Ab _) (Aw (Bb _) (Et _ _ _ _))
  exact Et _ _ _ _
 .
  refine Aa (Ab _) λp=>?_
  refine Aa (mz) λd=>?_
  split
  exact Aw (Aa (mz) λ_=>mz) (Aw (Bb _) (mz))
  exact mz
 exact Aa (mz) λp=>by
  refine Aa (mz) λd=>?_
  split
  exact Aw (Aa (mz) λ_=>mz) (Aw (Bb _) (mz))
  exact mz
def BP (x:Vl) n c:AB P H (zw x n c):=by
 unfold zw;exact mz
def EI b n k(E G mx:Option Vl):AB P H (Cd b n k E G mx):=by
 unfold Cd;cases mx<;>cases G<;>cases E<;>dsimp only<;>
  first
  |exact mz
  |exact mz
  |exact mz
  |exact mz
  |exact mz
  |exact mz
  |exact mz
  |exact mz
def YP (t:tI)(x:Vl)(E G mx:Option Vl):AB P H (Instr.sliceAt t x E G mx):=by
 refine Aa (mz) λd=>?_
 split
 exact Aa (mz) λ_=>Aa (EI _ _ _ _ _ _) λp=>mz
 exact (by
  unfold Instr.slice;refine Aa (AP t) λd=>?_
  split
  .
   dsimp only
   split
   exact Aa (Af _) λ_=>Aa (EI _ _ _ _ _ _) λp=>mz
   exact Aa (EI _ _ _ _ _ _) λp=>mz
  exact Aa (EI _ _ _ _ _ _) λp=>Aa (mz) λ_=>mz
  .
   refine Aa (mz) λa=>Aa (mz) λd=>?_
   split
   exact Aa (EI _ _ _ _ _ _) λp=>Aa (mz) λ_=>mz
   exact mz
  exact mz)
def bO (t:tI)(x:Vl):AB P H (Instr.loadAt t x):=Aa (mz) λ_=>mz
def YI (t:tI)(x y:Vl):AB P H (Instr.storeAt t x y):=Aa (mz) λ_=>mz
def XF{E:Type}{f:E->xZ β}(h:∀x,AB P H (f x)):∀l:List E,AB P H (l.mapM f)
 |[]=>by rw[List.mapM_nil];exact mz
 |x::l=>by
  rw[List.mapM_cons];exact Aa (h x) λ_=>Aa (XF h l) λ_=>mz
def X0{E:Type}{f:E->xZ β}(h:∀x,AB P H (f x))(a:Array E):AB P H (a.mapM f):=by
 rw[l4];exact Aa (XF h _) λ_=>Ab _
def QM n:AB P H (askRoom n):=Aw (vI (.inl J)) (mz)
end
section
variable {α β:Type}{P:tP}{H:Nat->Prop}{v w:tz}
def rp{r}{k:Option (tI×Nat)->xZ α}(h:∀x,AB P H (k x))(ac:∀e,Gm P (k (A (e,0)))):AB P H (yO r >>= k):=λv w E=>by
 by_cases z:H r
 .
  let⟨c,t,G,Z⟩:=E.d _ z;let U:v.shape? r=A (t,0):=by simp only[vd,Z];rfl
  let⟨x,I,c,b⟩:=ac t v;refine .inl ⟨x,I,?_,b⟩;simp_all
 let b:w.shape? r=v.shape? r:=by
  obtain V|⟨e,n,m,G,Z⟩:=E.B r
  exact V
  obtain⟨V,-⟩|⟨o,o',U,c,⟨c,e,rfl,rfl⟩|⟨b,u,rfl,rfl⟩⟩:=E.m _ z
  simp[vd,V]
  simp[vd,U]at G
  simp[vd,U]at G
 obtain⟨z,I,Y,n⟩|⟨b,v',w',u,c,Y,t,o,m,m,O⟩:=h _ _ _ E
 exact .inl ⟨z,I,Y,n⟩
 refine .inr ⟨b,v',w',u,c,?_,t,o,λb=>?_,m,O.1,O.2.1,λt b=>O.2.2 t b⟩
 simp_all
 simp_all
def Ĕ (P:pG)(m:xZ α)(f:M->α):=∀w,m.run P w=.ok (f w) w/\(∀es,m.events P w es=es)/\∀t,f (À w t)=f w
def G6{m k f}{g:α->M->β}(h:Ĕ P m f)(E:∀a,Ĕ P (k a) (g a)):Ĕ P (m >>= k) λw=>g (f w) w:=λw=>by
 refine⟨by rw[ő,(h w).1];exact(E _ w).1,λZ=>?_,λt=>?_⟩
 rw[Sem.events_bind,(h w).2.1,(h w).1];exact(E _ w).2.1 Z
 dsimp only
 rw[(h w).2.2];exact(E _ w).2.2 t
def Mi a:Ĕ P (pure a:xZ α) λ_=>a:=λw=>⟨J,(λw=>sm),λ_=>J⟩
def QK a:Ĕ P (frozen a) λw=>w.frozen? a:=λw=>⟨J,(λZ=>J),λ_=>J⟩
def SB r:Ĕ P (yO r) λw=>w.shape? r:=λw=>⟨J,(λZ=>J),λ_=>J⟩
def VI{m:xZ α} f(E:Ĕ P m f)(h:∀v w,DY H v w->f w=f v):AB P H m:=λv w G=>
 .inr ⟨_,v,w,#[],(E v).1,by rw[(E w).1,h v w G],G,ć.I ..,λt=>oj (E w).2.1,sm,J,lr,λt _=>by rw[(E _).1,(E v).2.2]⟩
def CP{m:xZ α}(h:æ P m):AB P H m:=by
 obtain⟨a,h⟩|h:=h
 exact VI _ (λw=>⟨(h w).1,(h w).2,λ_=>J⟩) λ_ _ _=>J
 exact CQ h
def CK (w:M)(a:xr):=w.frozen? a ||(match w.shape? a.block with|some (_,n)=>w.frozen? {block:=a.block,off:=n} |none=>ss)
def IB (w:M)(a:xr):=w.shape? a.block matches A (_,0)
def Q4 a:Ĕ P (stringish a) λw=>CK w a:=by
 let h:=G6 (QK (P:=P) a) (k:=λb=>if b then return sy else do
   match <-yO a.block with
   |some (_,n)=>frozen {block:=a.block,off:=n}
   |none=>pure ss) (g:=λb w=>b ||(match w.shape? _ with|some (_,n)=>w.frozen? {block:=a.block,off:=n} |none=>ss)) λb=>by
  cases b
  .
   refine G6 (SB _) (g:=λx w=>match x with|some (_,n)=>w.frozen? {block:=a.block,off:=n} |none=>ss) λx=>?_
   cases x with
   |none=>exact Mi _
   |some y=>exact QK _
  exact Mi _
 exact h
def DY.y (E:DY H v w){r}(G:¬H r):w.shape? r=v.shape? r:=by obtain⟨U,-⟩|⟨o,o',O,I,⟨c,e,rfl,rfl⟩|⟨b,u,rfl,rfl⟩⟩:=E.m _ G<;>simp[vd, *]
def DY.k (E:DY H v w) a:CK w a=CK v a:=by
 unfold CK;rw[E.s];by_cases O:H a.block
 .
  let⟨c,e,I,G⟩:=E.d _ O;let V:w.shape? a.block=A (e,c.size):=by simp[vd,I]
  let Z:v.shape? a.block=A (e,0):=by simp only[vd,G];rfl
  rw[V,Z];let Y:∀o,w.frozen? {block:=a.block,off:=o}=false:=λo=>by simp[yj,I]
  let U:∀o,v.frozen? {block:=a.block,off:=o}=false:=λo=>by simp[yj,G]
  simp[Y,U]
 rw[(E.y O)];cases v.shape? _ with
 |none=>rfl
 |some x=>simp[E.s]
def DY.t (E:DY H v w) a:(CK w a&&IB w a)=(CK v a&&IB v a):=by
 rw[E.k];by_cases G:H a.block
 .
  let⟨c,e,O,I⟩:=E.d _ G;have:CK v a=false:=by
   unfold CK;simp[yj,vd,I]
  rw[this];simp
 unfold IB;rw[(E.y G)]
def Sz a:Ĕ P (do pure ((<-yO a.block) matches A (_,0)):xZ Bool) λw=>IB w a:=G6 (SB _) λ_=>Mi _
def WV a b:AB P H (mayBeOne a b):=by
 refine VI (λw=>(CK w a&&CK w b) ||(CK w a&&IB w a) ||(CK w b&&IB w b)) ?_ λv w E=>?_
 .
  exact G6 (Q4 a) (g:=λx w=>(x&&CK w b) ||(x&&IB w a) ||(CK w b&&IB w b)) λx=>G6 (Q4 b) (g:=λy w=>(x&&y) ||(x&&IB w a) ||(y&&IB w b)) λy=>
   G6 (Sz a) (g:=λz w=>(x&&y) ||(x&&z) ||(y&&IB w b)) λz=>G6 (Sz b) λG=>Mi _
 rw[E.t a,E.t b,E.k,E.k]
def O1 a b:AB P H (sameAddr a b):=by
 unfold sameAddr;apply Aw (Ab _)
 refine Aa (Su a) λx=>Aa (Su b) λy=>?_
 let tail:AB P H (do
   noView a
   noView b
   if <-mayBeOne a b then return (<-choose (.extern "sameAddr.stringBytes" 2))==1
   pure ss):=mz
 exact Aw (Aa (Bb _) λ_=>tail) tail
end
section
variable {α β γ:Type}{P:tP}{H:Nat->Prop}{v w:tz}
def MO{f:α->β->xZ (ForInStep β)}(h:∀x b,AB P H (f x b)):∀(l:List α)(b),AB P H (forIn l b f)
 |[],b=>by rw[List.forIn_nil];exact mz
 |x::l,b=>by
  rw[List.forIn_cons];refine Aa (h x b) λr=>?_
  cases r with
  |done b=>exact mz
  |yield b=>exact MO h l b
def NW{f:α->β->xZ (ForInStep β)}(h:∀x b,AB P H (f x b))(a:Array α) b:AB P H (forIn a b f):=by
 rw[<-Array.forIn_toList];exact MO h _ b
def O6{f:Nat->β->xZ (ForInStep β)}(h:∀x b,AB P H (f x b)) n b:AB P H (forIn [0:n] b f):=by
 rw[Std.Legacy.Range.forIn_eq_forIn_range'];exact MO h _ b
def Pe r:AB P H (numberAt r):=by
 refine MZ (λx=>?_) λ_ _ _=>J
 apply Aw (mz)
 refine Lf (λo=>?_) (λ_ _=>J) λ_ _ _=>J
 split<;>exact mz
def EU a:AB P H (yb a):=Aa (mz) λ_=>mz
def Xc a l:AB P H (asNumber a l):=Aa Ou λ_=>mz
def Ru (a b:oA):AB P H (samePointer a b):=by
 unfold samePointer;exact mz
def Qy (t:tI):æ P (typeStr t):=Bt (Fj t) λi=>Gs (IQ (AV sk)) (Cv _)
def Iz:∀(d)(t:tI)(x y:Vl),AB P H (Op.equalIn d t x y)
 |0,_,_,_=>Bb _
 |d+1,t,x,y=>by
  unfold Op.equalIn;refine Aa (AP t) λu=>?_
  split
  all_goals first
   |exact Ab _
   |exact Af _
   |exact Bb _
   |exact Aw (Ab _) (Af _)
   |exact Ru _ _
   |skip
  .
   refine Aa (EU _) λa=>Aa (EU _) λb=>?_
   dsimp only
   refine BH (Aw (Aa (EX _) λ_=>Aa (EX _) λ_=>Ab _) (Aa (Ce _) λi=>?_));split
   exact Aw (Ab _) (Bb _)
   exact Bb _
  exact Aa (BQ _) λ_=>Aw (O1 _ _) (Aw (Ab _) (Aa (DZ _) λ_=>Ab _))
  .
   refine Aw (Ab _) (Aa (Ce _) λi=>Aw ?_ (Iz d _ _ _));refine BH (BH ?_);dsimp only
   exact Aw (Aa (Bb _) λ_=>Aa (CP (Qy _)) λ_=>Ch _) (Aa (CP (Qy _)) λ_=>Ch _)
  .
   apply BH
   dsimp only
   refine Aw (Aa (Bb _) λ_=>Aa (NW (λf b=>?_) _ _) λz=>(by split<;>exact mz)) (Aa (NW (λf b=>?_) _ _) λz=>(by split<;>exact mz))
   exact Aw (Aa (mz) λ_=>Aa (mz) λ_=>Aa (Iz d _ _ _) λ_=>Aw (mz) (mz)) (mz)
   exact Aw (Aa (mz) λ_=>Aa (mz) λ_=>Aa (Iz d _ _ _) λ_=>Aw (mz) (mz)) (mz)
  refine Aa (mz) λn=>Aa (O6 (λi b=>?_) _ _) λz=>(by dsimp only;split<;>exact mz)
  exact Aa (mz) λ_=>Aa (mz) λ_=>Aa (Iz d _ _ _) λ_=>Aw (mz) (mz)
def Ij:∀(d)(t:tI)(x y:Vl),AB P H (Op.eqGuardIn d t x y)
 |0,_,_,_=>Bb _
 |d+1,t,x,y=>by
  unfold Op.eqGuardIn;refine Aa (AP t) λu=>?_
  split
  exact Ab _
  .
   refine Aa (NW (λf b=>?_) _ _) λz=>(mz)
   exact Aw (Aa (mz) λ_=>Aa (mz) λ_=>Aa (Ij d _ _ _) λ_=>Aw (mz) (mz)) (mz)
  .
   refine Aa (mz) λn=>Aa (O6 (λi b=>?_) _ _) λz=>(by dsimp only;split<;>exact mz)
   exact Aa (mz) λ_=>Aa (mz) λ_=>Aa (Ij d _ _ _) λ_=>Aw (mz) (mz)
  exact mz
def eO (p:pG) d(e:tI) n off b:zz p d e (0/n) off b=none:=by
 unfold zz;simp only[Nat.zero_div];split
 rfl
 cases byteOfCell p d e _ with
 |none=>rfl
 |some E=>
  simp only[Option.bind_eq_bind,kx];rw[Æ so];rfl
def jD (a:xr) n:AB P H (do
  let A (e,cells)<-yO a.block|unsupported (.unsafePointer "Add")
  let p <-program
  match zz p p.depth e (cells/p.cellsOf e) a.off n with
  |some off=>pure (.pointer (A {a with off}))
  |none=>wz (.unsafePointer "Add"):xZ Vl):=by
 refine rp (λx=>?_) λe=>?_
 .
  split
  .
   apply BH
   split
   exact mz
   exact Bb _
  exact Bb _
 show Gm P (match zz P _ e _ _ n with
  |some _=>pure (.pointer (A _))
  |none=>wz (.unsafePointer _):xZ Vl)
 rw[eO];exact AV (h:=.unsupported (.unsafePointer _)) sk
def FR (E:Array tI)(t:tI)(x y:Vl):AB P H (vo E t #[x,y]):=by
 unfold vo;cases x<;>dsimp only<;>first|exact Af _|skip
 rename_i ptr
 refine Aa (MW _) λn=>?_
 let last:AB P H (match ptr with
   |some a=>do
    let __x <-yO a.block
    match __x with
     |some (e,cells)=>do
      let p <-program
      match zz p p.depth e (cells/p.cellsOf e) a.off n with
       |some off=>pure (Value.pointer (A {block:=a.block,off:=off,spot:=a.spot}))
       |none=>wz (yk "Add")
     |_=>wz (yk "Add")
   |_=>wz (yk "Add"):xZ Vl):=by
  cases ptr with
  |none=>exact Bb _
  |some a=>exact jD a n
 refine Aw ?_ (Aw (Aa (Bb _) λ_=>last) last)
 cases ptr with
 |none=>exact Aa (Bb _) λ_=>Aw (Aa (Bb _) λ_=>last) last
 |some a=>exact SF (λ_=>Aw (Aa (Bb _) λ_=>mz) (mz)) λ_ _=>J
def Mf (t:tI)(x y:Vl):AB P H (movedNumber t x y):=by
 unfold movedNumber;refine Aa (AP t) λd=>?_
 let last:AB P H (match x with
   |.pointer (A n)=>do
    let z <-yb n
    match z with
    |(a,E)=>do
     match <-vo #[] t #[.p (A a),y]with
     |.pointer (A b)=>asNumber b E
     |v=>pure v
   |_=>vo #[] t #[x,y]:xZ Vl):=by
  split
  .
   refine Aa (EU _) λz=>Aa (FR _ _ _ _) λq=>?_
   split
   exact mz
   exact mz
  exact FR _ _ _ _
 exact Aw (Aa (Bb _) λ_=>last) last
def NC a b:AB P H (Op.twoPlaces a b):=let last:AB P H (do pure (<-byteOf a,<-byteOf b):xZ _):=mz;Aw (Aa (Bb _) λ_=>last) last
end
end Go.Proofs.YtaoikkhlnhfkfaaGreatDoor
