import Derived.Test.YtaoikkhlnhfkfaaGreatDoorU00
import Derived.Test.YtaoikkhlnhfkfaaGreatDoorU17
import Derived.Conc.Own
set_option linter.defProp false
set_option linter.unusedSimpArgs false
set_option linter.unusedVariables false
namespace Go.Proofs.YtaoikkhlnhfkfaaGreatDoor
open Go renaming Addr->xr,Program->tP,Sem->xZ,loadVar->E0,Operand->Fc,callFunc->vi,invoke->GB,eqGuard->C4,execOp->vf,Frame->vh,yielded->wE,exitTo->BY,results->uK
open Extern.ReflectliteValue renaming unpack->wa,valueError->te,partsAny->Ek,method->sR,methodAny->uj,isNil->xb,elem->tB,set->uJ
open Option renaming none->sA,some->A,mem_def->D4
open Pure renaming pure->tT
open Extern.ReflectliteType renaming toType->tx
open Bool renaming true->sy,false->ss
open Builtin renaming len_->E1,max2->E2,min2->E3
open Op renaming operands->s3
open IntKind renaming i64->ua
open Frame renaming enter->tR
open Extern.Rtype Extern.ReflectliteValue
variable {x x' u v:Vl}{a a':xr}{p q:Option (tI×xr×Nat)}
section
variable {α β γ δ:Type}{P:tP}{F:Nat->Prop}{L:Nat}{r:Ô}
def Ó.t{X:Vl ->Vl ->Prop}{G y E I}(h:X x y)(V:X x' E)(U:X G I):Ó X #[x,x',G] #[y,E,I]:=⟨J,λi a b O Y=>by
 match i with
 |0=>simp_all
 |1=>simp_all
 |2=>simp_all
 |n+3=>simp at O⟩
def vV (U:r.rel P.globals.size P.globals.size)(t:tI)(G:AR r a a') fl:Ì P F L (VR F) (mk t a fl) (mk t a' fl) r:=by
 apply Ac (Vx U t);intro s h V O I;apply Ac (D9 (I1 t));rintro Y _ k E rfl;exact Ad (VR.e ⟨_,J,Ó.t (I.l E) (VR.ptr (G.l (O.trans E))) (VR.int ..)⟩)
def VP (O:r.rel P.globals.size P.globals.size)(h:VR F r u v):Ì P F L (VR F) (wa u) (wa v) r:=by
 have E:=h.p;cases u<;>simp[Br]at E<;>first|exact Ah|skip
 case nilIface=>subst E;exact Ad (VR.plain (n:=1) (by simp[zeroV,BV]))
 case iface t w=>
  obtain⟨w',rfl,G⟩:=E;refine Ac (Qf t G) λs a a' U⟨I,_⟩=>?_
  exact vV (U _ _ O) t I 0
def qx{s:xZ α}(h:æ P s):KT P s:=λw=>by
 obtain⟨a,h⟩|h:=h
 exact .inl ⟨a,w,(h w).1⟩
 exact .inr (h w)
def BO m k:Gm P (te m k:xZ α):=by refine BU (qx (Mj _)) λt=>BU (Od t) λe=>BU (λw=>.inl ⟨_,_,J⟩) λa=>AV sk
def JE (r:Ô):Option (tI×xr×Nat)->Option (tI×xr×Nat)->Prop:=Û λp q=>q.1=p.1/\AR r p.2.1 q.2.1/\q.2.2=p.2.2
def JE.l{s}(h:r.d s)(x:JE r p q):JE s p q:=Û.l (λ_ _ k=>⟨k.1,k.2.1.l h,k.2.2⟩) x
def JE.m (h:JE r p q):(p=sA/\q=sA)\/∃t a a' n,p=A (t,a,n)/\q=A (t,a',n)/\AR r a a':=by
 unfold JE at h;cases p<;>cases q<;>simp[Û]at h
 exact .inl ⟨J,J⟩
 let⟨I,E,G⟩:=h;refine .inr ⟨_,_,_,_,J,?_,E⟩;rw[<-I,<-G]
def Ph (I:r.rel P.globals.size P.globals.size)(V:VR F r x x'){a a':oA}(G:Û (AR r) a a') n(E:∀(h:Vl)(a),Ek (.agg #[h,.p (A a),.int .u64 n])=(ofHandle h >>= λt=>tT (A (t,a,n.toNat))))(U:∀h:Vl,∃m,Ek (.agg #[h,.p sA,.int .u64 n])=stuck m):Ì P F L (λs a b=>JE s a b) (Ek (.agg #[x,.p a,.int .u64 n])) (Ek (.agg #[x',.p a',.int .u64 n])) r:=by
 cases a<;>cases a'<;>simp[Û]at G
 let⟨m,e⟩:=U x;rw[e];exact Ah
 rw[E,E];apply Ac (MI I V);rintro s _ t O rfl;exact Ad ⟨J,G.l O,J⟩
def QE (O:r.rel P.globals.size P.globals.size)(h:VR F r u v):Ì P F L (λs a b=>JE s a b) (Ek u) (Ek v) r:=by
 let U:=h.p;cases u<;>simp[Br]at U<;>first|exact Ah|skip
 rename_i c
 obtain⟨b,rfl,I⟩:=U;let⟨l⟩:=c
 match l,I with
 |[],_=>exact Ah
 |[_],_=>exact Ah
 |[_,_],_=>exact Ah
 |[x,y,z],I=>
  obtain⟨x',c,c,rfl,Y,Z,c⟩:=I.k;have V:=c.p;cases z<;>simp[Br]at V<;>first|(cases y<;>exact Ah)|exact Ah|skip
  rename_i k n
  subst V;cases k<;>first|(cases y<;>exact Ah)|skip
  let E:=Z.p;cases n with
  |ofNat m=>
   cases m with
   |zero=>exact Ad sk
   |succ m=>
    cases y<;>simp[Br]at E<;>first|exact Ah|skip
    obtain⟨a',rfl,G⟩:=E;exact Ph O Y G (.ofNat (m+1)) (λ_ _=>J) λ_=>⟨_,J⟩
  |negSucc m=>
   cases y<;>simp[Br]at E<;>first|exact Ah|skip
   obtain⟨a',rfl,G⟩:=E;exact Ph O Y G (.negSucc m) (λ_ _=>J) λ_=>⟨_,J⟩
 |_::_::_::_::_,_=>exact Ah
def Sg (U:r.rel P.globals.size P.globals.size)(h:VR F r u v):Ì P F L (λs a b=>JE s a b) (parts u) (parts v) r:=by
 unfold parts;apply Ac (QE U h)
 intro s p q f E;cases p<;>cases q<;>simp[JE,Û]at E
 exact Ad sk
 rename_i p q
 let⟨t,a,f⟩:=p;let⟨V,a',f'⟩:=q;let⟨I,O,Y⟩:=E;subst I Y;refine Ac (D9 (FI _ V)) λZ _ _ G _=>?_
 exact Ad ⟨J,O.l G,J⟩
def JA{z:xZ Vl}{f:tI->xr->Nat->Nat->xZ Vl}(aa:∀r,Ì P F L (VR F) z z r)(O:∀(r)(t)(a a')(n k),r.rel P.globals.size P.globals.size->AR r a a'->Ì P F L (VR F) (f t a n k) (f t a' n k) r):∀(r)(a b:Array Vl),r.rel P.globals.size P.globals.size->Ó (VR F r) a b->Ì P F L (VR F) (sR z f a) (sR z f b) r:=by
 refine QG (λl E=>?_) λr u v I h=>?_
 .
  match l,E with
  |[],_=>exact AV (h:=.stuck _) sk
  |[_],E=>cases E J
  |_::_::_,_=>exact AV (h:=.stuck _) sk
 refine Ac (Sg I h) λs p q Y G=>?_
 cases p<;>cases q<;>simp[JE,Û]at G
 exact aa s
 rename_i p q
 let⟨t,a,n⟩:=p;let⟨U,V,Z⟩:=G;subst U Z;exact O s _ _ _ _ _ (Y _ _ I) V
def Y8{z:xZ Vl}{f:tI->xr->Nat->Nat->xZ Vl}(aa:∀r,Ì P F L (VR F) z z r)(O:∀(r)(t)(a a')(n k),r.rel P.globals.size P.globals.size->AR r a a'->Ì P F L (VR F) (f t a n k) (f t a' n k) r):∀(r)(a b:Array Vl),r.rel P.globals.size P.globals.size->Ó (VR F r) a b->Ì P F L (VR F) (uj z f a) (uj z f b) r:=by
 refine QG (λl E=>?_) λr u v I h=>?_
 .
  match l,E with
  |[],_=>exact AV (h:=.stuck _) sk
  |[_],E=>cases E J
  |_::_::_,_=>exact AV (h:=.stuck _) sk
 refine Ac (QE I h) λs p q Y G=>?_
 cases p<;>cases q<;>simp[JE,Û]at G
 exact aa s
 rename_i p q
 let⟨t,a,n⟩:=p;let⟨U,V,Z⟩:=G;subst U Z;exact O s _ _ _ _ _ (Y _ _ I) V
def ib:∀(r)(a b:Array Vl),r.rel P.globals.size P.globals.size->Ó (VR F r) a b->Ì P F L (VR F) (wa (a.getD 0 (.t #[]))) (wa (b.getD 0 (.t #[]))) r:=λr a b O I=>by
 rw[Η,Η];obtain⟨E,G⟩|⟨x,y,E,G,U⟩:=I.e 0
 rw[E];exact Ah
 rw[E,G];exact VP O U
def wX:∀(r)(a b:Array Vl),r.rel P.globals.size P.globals.size ->Ó (VR F r) a b ->Ì P F L (VR F) (uj (te "reflectlite.Value.Type" 0) (λt _ _ _=>tx t) a) (uj (te "reflectlite.Value.Type" 0) (λt _ _ _=>tx t) b) r:=
 Y8 (λ_=>Al (BO _ _)) λ_ t _ _ _ _ E _=>PV E t
def qi (t:tI)(O:AR r a a') n k:Ì P F L (VR F) (xb t a n k) (xb t a' n k) r:=by
 unfold xb;dsimp only
 let rest:Ì P F L (VR F) (E0 t a >>= λx=>match x with|.chan sA|.nilFunc|.nilIface|.map sA|.pointer sA|.slice sA _ _=>tT (.bool sy)|_=>tT (.bool ss)) (E0 t a' >>= λx=>match x with|.chan sA|.nilFunc|.nilIface|.map sA|.pointer sA|.slice sA _ _=>tT (.bool sy)|_=>tT (.bool ss)) r:=by
  apply Ac (FU O t)
  intro s x y U I;have E:=I.p;cases x<;>simp[Br]at E
  case pointer a=>obtain⟨b,rfl,G⟩:=E;cases a<;>cases b<;>simp[Û]at G<;>exact Ad (VR.bool _)
  case slice a n c=>obtain⟨b,rfl,G⟩:=E;cases a<;>cases b<;>simp[Û]at G<;>exact Ad (VR.bool _)
  case map a=>obtain⟨b,rfl,G⟩:=E;cases a<;>cases b<;>simp[Û]at G<;>exact Ad (VR.bool _)
  case func=>obtain⟨_,_,rfl,-⟩:=E;exact Ad (VR.bool _)
  case iface=>obtain⟨_,rfl,-⟩:=E;exact Ad (VR.bool _)
  case agg=>obtain⟨_,rfl,-⟩:=E;exact Ad (VR.bool _)
  case tuple=>obtain⟨_,rfl,-⟩:=E;exact Ad (VR.bool _)
  all_goals (subst E;exact Ad (VR.bool _))
 exact CL (λ_=>Al (Bn (BO _ _))) λ_=>rest
def pR:∀(r)(a b:Array Vl),r.rel P.globals.size P.globals.size ->Ó (VR F r) a b ->Ì P F L (VR F) (sR (te "reflectlite.Value.IsNil" 0) xb a) (sR (te "reflectlite.Value.IsNil" 0) xb b) r:=
 JA (λ_=>Al (BO _ _)) λ_ t _ _ n k _ E=>qi t E n k
def wO:∀(r)(a b:Array Vl),r.rel P.globals.size P.globals.size ->Ó (VR F r) a b ->Ì P F L (VR F) (sR (te "reflectlite.Value.Elem" 0) tB a) (sR (te "reflectlite.Value.Elem" 0) tB b) r:=
 JA (λ_=>Al (BO _ _)) λ_ t _ _ n k p Z=>by
   unfold tB;dsimp only
   refine CL (λ_=>Al (Bn (BO _ _))) λE=>?_
   let E:k=20\/k=22:=by
    simp[Ŝ,j8,ne_eq,not_and,Classical.not_not]at E;by_cases h:k=20
    exact .inl h
    exact .inr (E h)
   apply Ac (FU Z t)
   intro s x y e I;apply Ac (D9 (OJ t))
   rintro h _ o G rfl;let U:=G _ _ (e _ _ p);have O:=I.l G;clear I;obtain rfl|rfl:=E
   exact VP U O
   let V:=O.p;cases x
   case pointer p=>
    simp[Br]at V;obtain⟨b,rfl,Y⟩:=V;cases p<;>cases b<;>simp[Û]at Y
    exact Ad (VR.plain (n:=1) (by simp[zeroV,BV]))
    cases o with
    |none=>exact Al (BO _ _)
    |some e=>exact vV U e Y _
   all_goals exact Al (BO _ _)
def yI:∀(r)(a b:Array Vl),r.rel P.globals.size P.globals.size->Ó (VR F r) a b->Ì P F L (VR F) (uJ a) (uJ b) r:=by
 refine nk (λl U=>?_) λr u v p q c h i=>?_
 .
  match l,U with
  |[],_=>exact AV (h:=.stuck _) sk
  |[_],_=>exact AV (h:=.stuck _) sk
  |[_,_],U=>cases U J
  |_::_::_::_,_=>exact AV (h:=.stuck _) sk
 unfold uJ;dsimp only
 apply Ac (Sg c h)
 intro s h h h k;apply Ac (Sg (h _ _ c) (i.l h))
 intro c c c c l;let last:∀(s:Ô),Ì P F L (VR F) (tT (.t #[])) (tT (.t #[])) s:=λs=>Ad (VR.tuple ⟨J,λi x y h _=>oF h⟩)
 rcases(k.l c).m with⟨rfl,rfl⟩|⟨E,a3,aG,a5,rfl,rfl,V⟩
 exact Al (Ae sk)
 obtain⟨rfl,rfl⟩|⟨G,c,c,c,rfl,rfl,c⟩:=l.m
 exact Al (Ae sk)
 dsimp only
 refine CL (λ_=>Al (Bn (Ae sk))) λ_=>?_
 apply Ac (FU c G)
 intro c x y h Z;apply Ac (D9 (LB E G))
 rintro c _ c I rfl;refine CL (λ_=>?_) λ_=>?_
 exact Ac (JW (V.l (h.trans I)) E (Z.l I)) λs _ _ _ _=>last s
 apply Ac (D9 (GH E G))
 rintro c _ c c rfl;let i:=V.l ((h.trans I).trans c);let l:=Z.l (I.trans c);refine CL (λ_=>?_) λ_=>?_
 .
  apply Ac (D9 (I1 G))
  rintro h _ k c rfl;let Y:=i.l c;let O:=l.l c;refine CL (λ_=>?_) λ_=>?_
  .
   let h:=O.d;let c:=Ac (JW Y E O) λs _ _ _ _=>last s
   cases x
   case nilIface=>exact Al (Bn (Ae sk))
   all_goals (cases y<;>first|(cases h;done)|exact c)
  exact Ac (JW Y E (VR.e ⟨_,J,O⟩)) λs _ _ _ _=>last s
 apply Ac (D9 (IY G))
 intro h _ _ _ _;apply Ac (D9 (IY E))
 intro c _ _ _ _;exact Al (Bn (Dl _))
end
variable {X:Vl ->Vl ->Prop}{a b:Array Vl}{u v x y:Vl}{e e':Fc ->Vl}{V I:Nat ->Bool}
section
variable {α β γ δ:Type}{P:tP}{F:Nat->Prop}{L:Nat}{r:Ô}
def Ó.g (h:Ó X a b)(i:Nat):(a[i]? = sA/\b[i]? = sA)\/∃x y,a[i]? = A x/\b[i]? = A y/\X x y:=by
 cases E:a[i]? with
 |none=>
  refine .inl ⟨J,?_⟩;rw[nx]at E⊢;rw[h.1];exact E
 |some x=>
  let G:i<b.size:=h.1▸BI E
  exact .inr ⟨x,_,J,ÿ G,h.2 _ _ _ E (ÿ G)⟩
def zH (I:Array tI)(t:tI)(h:Ó (VR F r) a b):Ì P F L (VR F) (E1 I t a) (E1 I t b) r:=by
 unfold E1;cases I[0]? with
 |none=>exact Ah
 |some d=>
  obtain⟨G,O⟩|⟨x,y,G,O,Y⟩:=h.g 0
  rw[G,O];exact Ah
  rw[G,O];dsimp only
  apply Ac (Be d)
  rintro s _ d m⟨rfl,-⟩;have E:=(Y.l m).p;cases d<;>first|exact Ah|exact Ad (VR.int ..)|skip
  case string=>cases x<;>simp[Br]at E<;>first|exact Ah|(subst E;exact Ad (VR.int ..))
  case slice=>
   cases x<;>simp[Br]at E<;>first|exact Ah|skip
   obtain⟨_,rfl,-⟩:=E;exact Ad (VR.int ..)
  case pointer arr=>
   dsimp only
   apply Ac (Be arr)
   rintro d _ Z-⟨rfl,-⟩;cases Z<;>first|exact Ah|exact Ad (VR.int ..)
  case map=>
   cases x<;>simp[Br]at E<;>first|exact Ah|skip
   rename_i m
   obtain⟨m',rfl,U⟩:=E;cases m<;>cases m'<;>simp[Û]at U
   exact Ad (VR.int ..)
   dsimp only
   apply Ac (IZ U)
   rintro d o o'-⟨V,-⟩;cases o<;>simp[Ĺ]at V<;>first|exact Ah|skip
   obtain⟨d,rfl,d,-⟩:=V;dsimp only
   rw[d];exact Ad (VR.int ..)
  case chan=>cases x<;>simp[Br]at E<;>exact Ah
def wG (h:VR F r u v)(I:VR F r x y):Ì P F L (VR F) (E2 u x) (E2 v y) r:=by
 have G:=h.p;have E:=I.p;cases u<;>simp[Br]at G
 case int k n=>
  subst G;cases x<;>simp[Br]at E<;>first|(subst E;exact Ad (VR.int ..))|exact Ah|(cases ‹oA›<;>first|exact Ah|exact Al (Ae (u:=.addressObserved) sk))
 case string a=>
  subst G;cases x<;>simp[Br]at E<;>first|exact Ah|(cases ‹oA›<;>first|exact Ah|exact Al (Ae (u:=.addressObserved) sk))|skip
  subst E;exact Ad (VR.plain (n:=0) J)
 case pointer a=>
  cases a<;>(cases x<;>first|exact Ah|exact Al (Ae (u:=.addressObserved) sk)|(cases ‹Option _›<;>first|exact Ah|exact Al (Ae (u:=.addressObserved) sk)))
 all_goals (cases x<;>first|exact Ah|exact Al (Ae (u:=.addressObserved) sk)|(cases ‹Option _›<;>first|exact Ah|exact Al (Ae (u:=.addressObserved) sk)))
def wu (h:VR F r u v)(I:VR F r x y):Ì P F L (VR F) (E3 u x) (E3 v y) r:=by
 have G:=h.p;have E:=I.p;cases u<;>simp[Br]at G
 case int k n=>
  subst G;cases x<;>simp[Br]at E<;>first|(subst E;exact Ad (VR.int ..))|exact Ah|(cases ‹oA›<;>first|exact Ah|exact Al (Ae (u:=.addressObserved) sk))
 case string a=>
  subst G;cases x<;>simp[Br]at E<;>first|exact Ah|(cases ‹oA›<;>first|exact Ah|exact Al (Ae (u:=.addressObserved) sk))|skip
  subst E;exact Ad (VR.plain (n:=0) J)
 case pointer a=>
  cases a<;>(cases x<;>first|exact Ah|exact Al (Ae (u:=.addressObserved) sk)|(cases ‹Option _›<;>first|exact Ah|exact Al (Ae (u:=.addressObserved) sk)))
 all_goals (cases x<;>first|exact Ah|exact Al (Ae (u:=.addressObserved) sk)|(cases ‹Option _›<;>first|exact Ah|exact Al (Ae (u:=.addressObserved) sk)))
def Uf{f:Vl->Vl->xZ Vl}(I:∀(s) u v x y,VR F s u v->VR F s x y->Ì P F L (VR F) (f u x) (f v y) s):∀(l G:List Vl)(r)(u v:Vl),VR F r u v->G.length=l.length->(∀(j:Nat) x y,l[j]? = A x->G[j]? = A y->VR F r x y)->Ì P F L (VR F) (l.foldlM f u) (G.foldlM f v) r
 |[],[],r,u,v,h,_,_=>rj List.foldlM_nil (Ad h)
 |x::l,y::G,r,u,v,h,E,O=>by
  rw[List.foldlM_cons];refine Ac (I r u v x y h (O 0 x y J J)) λs a b V Z=>?_
  exact Uf I l G s a b Z (sx E) λj p q Y U=>(O (j+1) p q Y U).l V
 |[],_::_,_,_,_,_,E,_=>nf E
 |_::_,[],_,_,_,_,E,_=>nf E
def Sy{f:Vl->Vl->xZ Vl}(I:∀(s) u v x y,VR F s u v->VR F s x y->Ì P F L (VR F) (f u x) (f v y) s)(h:Ó (VR F r) a b) m:Ì P F L (VR F) (match a.toList with|[]=>stuck m|x::rest=>rest.foldlM f x) (match b.toList with|[]=>stuck m|x::rest=>rest.foldlM f x) r:=by
 have U:b.toList.length=a.toList.length:=oy h.1
 have Y:∀(j:Nat) x y,a.toList[j]? = A x->b.toList[j]? = A y->VR F r x y:=λj x y G E=>h.2 j x y (sx G) (sx E)
 revert U Y
 cases a.toList<;>cases b.toList
 exact λ_ _=>Ah
 exact nofun
 exact nofun
 exact λG E=>Uf I _ _ r _ _ (E 0 _ _ J J) (sx G) λj x y O V=>E (j+1) x y O V
def NR (P:pG)(F:Nat->Prop)(r:Ô):Next->Next->Prop
 |.value u,n=>∃v,n=.value v/\VR F r u v
 |.skip,n=>n=.skip
 |.enter f args,n=>∃E,n=.enter f E/\(F f/\∃fn c,P.funcs[f]? = A fn/\fn.body=A c)/\Ó (VR F r) args E
 |_,_=>False
def Eo{s:xZ Vl}{s':xZ Vl}(h:Ì P F L (VR F) s s' r):Ì P F L (NR P F) (s >>= λx=>tT (.value x)) (s' >>= λx=>tT (.value x)) r:=
 Ac h λ_ _ _ _ E=>Ad ⟨_,J,E⟩
def uO{s s':xZ Unit}(h:Ì P F L (λ_ _ _=>True) s s' r):Ì P F L (NR P F) (s >>= λ_=>tT .skip) (s' >>= λ_=>tT .skip) r:=
 Ac h λ_ _ _ _ _=>Ad J
def XO (E G:Nat->Bool):Fc->Bool
 |.tmp _=>sy
 |.const v=>BV 8 v
 |.global g=>G g
 |.func f=>E f
structure bJ (F:Nat->Prop)(Fb Gb:Nat->Bool)(r:Ô)(e e':Fc->Vl):Prop where
 rel:∀x,XO Fb Gb x=sy->VR F r (e x) (e' x)
 a:∀v,e (.const v)=v/\e' (.const v)=v
 d:∀g,Gb g=sy->r.rel g g
def xA (E:Nat->Bool):Fn->Bool
 |.func f=>E f
 |_=>ss
def dW (P:pG)(E:Nat->Bool)(c:Call):=match c.callee with
 |.builtin .len=>sy
 |.builtin .min=>sy
 |.builtin .max=>sy
 |.builtin .append=>Py P c.argTypes
 |.builtin .clear=>R9 P c.argTypes
 |.invoke _ name=>Mw P E name
 |.value _=>sy
 |_=>ss
def xY (P:pG)(op:BinOp)(t:tI)(y:Fc):=EG P op t y ||(nJ op ||(vY op&&(Qj P t&&VN y)))
def uF (P:pG)(E:Nat->Bool):Op->Bool
 |.move _|.assign _|.pick _ _ _|.box _ _|.load _ _|.store _ _ _|.field _ _ _|.indexAddr _ _ _|.slice _ _ _ _ _|.extract _ _|.makeInterface _ _|.unOp _ _ _=>sy
 |.alloc t=>Fe P t
 |.build t _=>Fe P t
 |.fieldAddr s _ k=>RO P s k
 |.binOp op t _ y _=>xY P op t y
 |.makeFunc fn _ _=>xA E fn
 |.nilCheck _|.index _ _ _|.panic _=>sy
 |.typeAssert _ _ t _=>Fe P t
 |.convert I G _=>U9 P I G
 |.makeSlice t _ _=>Jr P t
 |.buildSlice t _ _=>Jr P t
 |.makeMap _ sA=>sy
 |.lookup t _ _ _=>ZC P t
 |.mapUpdate t _ _ _|.insert t _ _ _=>R4 P t
 |.call c=>dW P E c
 |_=>ss
def UI (P:pG)(E G:Nat->Bool)(o:Oper):=o.op.operands.all (XO E G)&&uF P E o.op
def Ó.map (U:bJ F V I r e e'){xs:Array Fc}(Y:∀x∈xs,XO V I x=sy):Ó (VR F r) (xs.map e) (xs.map e'):=by
 refine⟨sm,λi x y G E=>?_⟩;rw[jx]at G E;obtain⟨o,O,rfl⟩:=ė.1 G;rw[O]at E;cases E
 exact U.rel o (Y o (ŵ O))
def Ó.h{c d:Array Vl}(h:Ó X a b)(I:Ó X c d):Ó X (a++c) (b++d):=by
 refine⟨by simp[h.1,I.1],λi x y G E=>?_⟩;rw[ml]at G E;rw[h.1]at E;split at G
 .
  rename_i e
  rw[Æ e]at E;exact h.2 i x y G E
 rename_i e
 rw[Ä e]at E;exact I.2 _ x y G E
def YW (P:pG)(F:Nat->Prop)(L:Nat)(x:Array Vl->xZ Vl):=∀(r:Ô)(a b:Array Vl),r.rel P.globals.size P.globals.size->Ó (VR F r) a b->Ì P F L (VR F) (x a) (x b) r
def TR (P:pG)(F:Nat ->Prop)(E:Nat ->Bool)(L:Nat):=∀f,F f ->∃fn,P.funcs[f]? = A fn/\(fn.name== "runtime.NumGoroutine")=ss/\
 ((∃c,fn.body=A c)\/(fn.body=sA/\E P.globals.size=sy/\Extern.findNext fn=sA/\∃x,Extern.find fn=A x/\YW P F L x)\/∀a,Gm P (vi f a))
def Qo (ai:TR P F V L)(ac:∀g,V g=sy->r.rel g g){f:fI}(O:F f)(h:Ó (VR F r) a b):Ì P F L (NR P F) (vi f a) (vi f b) r:=by
 obtain⟨s,G,Y,⟨c,E⟩|⟨E,X,W,x,Z,I⟩|I⟩:=ai f O
 .
  unfold vi;apply CZ
  rw[G];dsimp only
  rw[Y,E];exact Ad ⟨b,J,⟨O,s,c,G,E⟩,h⟩
 .
  unfold vi;apply CZ
  rw[G];dsimp only
  rw[Y,E];refine Ac (bL f) λs _ _ U _=>?_
  rw[W,Z];exact Eo (I s a b (U _ _ (ac _ X)) (h.l λ_ _=>VR.l U))
 exact Al (I a)
def xG (ak:TR P F I L)(U:bJ F V I r e e'){c}(aB:∀f,V f=sy->F f)(Z:dW P V c=sy)(aa:∀x∈c.operands,XO V I x=sy)(t:tI):Ì P F L (NR P F) (resolve e c t >>= λd=>GB d.target d.args) (resolve e' c t >>= λd=>GB d.target d.args) r:=by
 let⟨callee,args,O⟩:=c;let G:=Ó.map U λx a=>aa x (ο.2 (.inr a))
 cases callee with
 |invoke x name=>
  let a:=U.rel x (aa x (ο.2 (.inl (by show x∈#[x];exact mn.2 J))));let E:=a.p;let a:∀(z:Vl)(l:Array Vl),(#[z]++l)[0]? = A z:=λz l=>by simp[ml]
  let Y:∀(z:Vl)(l:Array Vl),(#[z]++l).extract 1 (#[z]++l).size=l:=λz l=>sm
  show Ì P F L (NR P F) (GB (.fn (.method name) #[]) (#[e x]++args.map e)) (GB (.fn (.method name) #[]) (#[e' x]++args.map e')) r
  unfold GB;dsimp only
  rw[a,a];dsimp only
  rw[Y,Y];unfold callMethod;cases ab:e x<;>rw[ab]at E<;>simp[Br]at E<;>first|exact Ah|skip
  case nilIface=>exact Al (Bu _)
  case iface a w=>
   let⟨w',a,b⟩:=E;rw[a];dsimp only
   apply CZ
   apply Ac (lY Z b _)
   rintro s⟨f,a⟩ ⟨f',b⟩s⟨a,b,l⟩;dsimp only at a b l
   subst a;exact Qo ak (λg h=>s _ _ (U.d g h)) (aB _ b) ((Ó.D l).h (Ó.l (λ_ _=>VR.l s) G))
 |builtin b=>
  cases b<;>first|(cases Z;done)|skip
  case len=>exact Eo (zH O t G)
  case max=>exact Eo (Sy (λ_ _ _ _ _ E O=>wG E O) G _)
  case min=>exact Eo (Sy (λ_ _ _ _ _ E O=>wu E O) G _)
  case append=>exact Eo (kK Z t G)
  case clear=>exact Eo (qR Z t G)
 |value f=>
  let a:=U.rel f (aa f (ο.2 (.inl sm)));let E:=a.p;unfold resolve;dsimp only
  cases ab:e f<;>rw[ab]at E<;>simp[Br]at E<;>first|exact Al (Bn (AV (h:=.stuck _) sk))|skip
  case func a a a=>
   obtain⟨a,cs',Y,⟨g,rfl,a⟩,O,b⟩:=E;rw[Y];exact Qo ak U.d a ((O.h G).h b)
  case nilFunc=>
   exact Al (show Gm P (runtimePanic .nilDeref:xZ _)from Bu _)
def Û.map (E:bJ F V I r e e'){x:Option Fc}(G:∀y∈x,XO V I y=sy):Û (VR F r) (x.map e) (x.map e'):=by
 cases x with
 |none=>exact sk
 |some y=>exact E.rel y (G y J)
def Y9{op}{t:tI}{x y}{p q:Vl}(E:EG P op t y=sy)(h:VR F r u v)(I:VR F r p q)(O:y=.const .n->p=.n/\q=.n):Ì P F L (λ_ _ _=>True) (C4 op t x y u p) (C4 op t x y v q) r:=by
 refine aZ ?_ h I;by_cases G:op=.eql\/op=.neq
 .
  obtain h|⟨-,h⟩:=Wi E G
  exact .inl h
  exact .inr ⟨h,(O h).1⟩
 left
 cases op<;>simp only[EG]at E<;>first|cases E|exact E|exact absurd (.inl J) G|cases G (.inr J)
def n9{q:Prop}(h:q:=by
 rw[jx]at Y ab;obtain⟨p,ac,rfl⟩:=ė.1 Y;rw[ac]at ab;cases ab
 exact⟨rfl,G.rel p.2 (E p.2 (by
  have:=ŵ ac;simp only[Op.operands,ĺ,Ő];exact⟨p,by simpa using this,rfl⟩))⟩):q:=h
def tF (a1:TR P F I L)(aE:∀f,V f=sy->F f)(G:bJ F V I r e e'){o}(ap:UI P V I o=sy)(al:P.globals.size<=L):Ì P F L (NR P F) (vf e o) (vf e' o) r:=by
 unfold UI at ap;rw[Ŝ,jo]at ap;let⟨E,O⟩:=ap;unfold vf;dsimp only
 cases aN:o.op<;>rw[aN]at E O<;>simp[uF]at O<;>first|cases O;done|skip
 case move x=>exact Ad ⟨_,J,G.rel x (E x (by simp[s3]))⟩
 case assign x=>exact Ad ⟨_,J,G.rel x (E x (by simp[s3]))⟩
 case pick c a b=>
  dsimp only
  apply Ac (iD (G.rel c (E c (by simp[s3]))))
  rintro s _ t U rfl;refine Ad ⟨_,J,?_⟩;cases t
  . exact(G.rel b (E b (by simp[s3]))).l U
  exact(G.rel a (E a (by simp[s3]))).l U
 case alloc t=>exact Eo ((by
   refine Ac (D5 O) λs _ z _⟨rfl,O⟩=>?_
   exact Ac (Qf t (VR.plain O)) λ_ _ _ _ aa=>Ad (VR.ptr aa.1)))
 case box t x=>exact Eo ((Ac (Qf t ((G.rel x (E x (by simp[s3]))))) λ_ _ _ _ aa=>Ad (VR.ptr aa.1)))
 case build t parts=>
  refine Eo (sK O sm λj x y Y ab=>?_);exact n9
 case load t a=>exact Eo ((Ac (Iw ((G.rel a (E a (by simp[s3]))))) λ_ _ _ _ aa=>FU aa t))
 case store t a x=>exact uO ((Ac (Iw ((G.rel a (E a (by simp[s3]))))) λ_ _ _ U aa=>JW aa t (((G.rel x (E x (by simp[s3])))).l U)))
 case binOp op t x y t'=>
  let Z:=G.rel x (E x (by simp[s3]));let an:=G.rel y (E y (by simp[s3]));let ai:y=.const .n->e y=.n/\e' y=.n:=λh=>by subst h;exact G.a _
  unfold xY at O;obtain O|O:=ł _ _▸O
  . refine Eo (Ac (Q:=λ_ _ _=>True) (Y9 O Z an ai) λs _ _ U _=>?_);exact pE O (Z.l U) (an.l U) ai al
  obtain O|O:=ł _ _▸O
  .
   let off:∀a b:Vl,C4 op t x y a b=tT ():=λa b=>by
    cases op<;>first|(cases O;done)|rfl
   dsimp only
   rw[off,off];exact Eo (Ac (Q:=λ_ _ _=>True) (Ad sk) λs _ _ U _=>Yt O t (Z.l U) (an.l U))
  rw[Ŝ,Ŝ]at O;let⟨d,c,aq⟩:=O;let aC:e y=.sn/\e' y=.sn:=by
   unfold VN at aq;split at aq
   . exact G.a _
   cases aq
  dsimp only
  rw[aC.1,aC.2,K3 (λh=>nf h.2) (λh=>nf h.2),K3 (λh=>nf h.2) (λh=>nf h.2)];exact Eo (Ac (Q:=λ_ _ _=>True) (Ad sk) λs _ _ U _=>ZB d c (Z.l U))
 case unOp op t x=>exact Eo (oP op (G.rel x (E x (by simp[s3]))))
 case makeInterface t x=>exact Eo ((by
   let h:=(G.rel x (E x (by simp[s3])))
   refine Ac (Be t) λs _ d U⟨rfl,aj⟩=>?_
   cases d<;>first|exact Ah|exact Ad (VR.e ⟨_,J,h.l U⟩)))
 case makeFunc fn z w=>
  cases fn<;>first|(cases O;done)|skip
  rename_i f
  exact Eo (Ad (VR.e ⟨_,_,J,⟨f,J,aE f O⟩,Ó.map G λx h=>E x (by simp only[s3];exact ο.2 (.inl h)),Ó.map G λx h=>E x (by simp only[s3];exact ο.2 (.inr h))⟩))
 case slice t x a aB a=>
  refine Eo (dP (G.rel x (E x (by simp[s3]))) (Û.map G λy h=>E y ?_) (Û.map G λy h=>E y ?_) (Û.map G λy h=>E y ?_) t)
  . simp[D4]at h;simp[s3,h]
  . simp[D4]at h;simp[s3,h]
  simp[D4]at h;simp[s3,h]
 case fieldAddr s x k=>exact Eo ((by
   let h:=(G.rel x (E x (by simp[s3])))
   apply Ac (Be s)
   rintro t _ d U⟨rfl,aj⟩;unfold RO at O;rw[aj]at O;cases d<;>first|exact Ah|skip
   rename_i fields
   dsimp only at O⊢
   cases aW:fields[k]? with
   |none=>exact Ah
   |some f=>
    rw[aW]at O;dsimp only at O⊢
    apply Ac (Iw (h.l U))
    intro d a a' aw aa;refine Ac (Q:=λt a b=>AR t a b) (Ac (C9 _) ?_) λc a b _ am=>Ad (VR.ptr am)
    rintro c _ n ax⟨rfl,i,aB,rfl⟩;rw[aB]at O;have ai  := by simpa using O
    rw[Ä ai,Ä ai];exact Ad ((aa.l ax).add _)))
 case field s x k=>exact Eo (qL (G.rel x (E x (by simp[s3]))) s k)
 case indexAddr t x i=>exact Eo (dG (G.rel x (E x (by simp[s3]))) (G.rel i (E i (by simp[s3]))) t)
 case extract x k=>exact Eo (eY (G.rel x (E x (by simp[s3]))) k)
 case nilCheck x=>
  have Z:=G.rel x (E x (by simp[s3]));have Y:=Z.p;dsimp only
  revert Z Y
  generalize e x=u;generalize e' x=v;intro Z Y;cases u<;>simp[Br]at Y
  case pointer a=>
   obtain⟨a',rfl,aa⟩:=Y;cases a<;>cases a'<;>simp[Û]at aa
   . exact Al (Bu _)
   exact Ad ⟨_,J,Z⟩
  case func fn z w=>
   obtain⟨a,cs',rfl,⟨f,rfl,O⟩,ab⟩:=Y;exact Ad ⟨_,J,Z⟩
  case nilFunc=>exact Al (Bu _)
  case nilIface=>exact Al (Bu _)
  case slice=>obtain⟨_,rfl,-⟩:=Y;exact Ad ⟨_,J,Z⟩
  case map=>obtain⟨_,rfl,-⟩:=Y;exact Ad ⟨_,J,Z⟩
  case iface=>obtain⟨_,rfl,-⟩:=Y;exact Ad ⟨_,J,Z⟩
  case agg=>obtain⟨_,rfl,-⟩:=Y;exact Ad ⟨_,J,Z⟩
  case tuple=>obtain⟨_,rfl,-⟩:=Y;exact Ad ⟨_,J,Z⟩
  all_goals (subst Y;exact Ad ⟨_,J,Z⟩)
 case panic x=>exact Eo (qI (G.rel x (E x (by simp[s3]))))
 case typeAssert x t d ok=>exact Eo (VW O ok (G.rel x (E x (by simp[s3]))))
 case index t x i=>exact Eo (rz (G.rel x (E x (by simp[s3]))) (G.rel i (E i (by simp[s3]))) t)
 case convert src dst x=>exact Eo (aP O (G.rel x (E x (by simp[s3]))))
 case makeSlice t l c=>exact Eo ((by
   let h:=(G.rel l (E l (by simp[s3])))
   let E:=(G.rel c (E c (by simp[s3])))
   unfold Instr.makeSlice;dsimp only
   apply Ac (Be t)
   rintro s _ d U⟨rfl,aj⟩;unfold Jr at O;rw[aj]at O;cases d<;>first|exact Ah|skip
   rename_i e
   dsimp only at O⊢
   apply Ac (R6 (h.l U))
   rintro a _ len aw rfl;apply Ac (R6 (E.l (U.trans aw)))
   rintro a _ cap ax rfl;apply Ac (Du e)
   rintro a _ i a⟨rfl,-⟩;refine CL (λ_=>Al ?_) λ_=>?_
   . refine Iq (Bn (Bu _)) (Iq (Bn (Bu _)) ?_);exact BU (λw=>.inl ⟨_,_,J⟩) λb=>Bn (Bu _)
   apply Ac (Tf _)
   intro a _ _ a _;apply Ac (C9 e)
   rintro d _ n a⟨rfl,-⟩;let av:∀(ak:Ô)(z:Array Vl)(m:Nat),(∀x∈z,BV 8 x=sy)->Ì P F L (VR F) (newRow e ((Array.range m).map (z[·%z.size]!)) >>= λa=>tT (.s (A a) (ua.wrap len).toNat (ua.wrap cap).toNat)) (newRow e ((Array.range m).map (z[·%z.size]!)) >>= λa=>tT (.s (A a) (ua.wrap len).toNat (ua.wrap cap).toNat)) ak:=λak z m ao=>
    Ac (KP e (Ó.d ao)) λ_ _ _ _ aa=>Ad (VR.g aa.1 ..)
   refine CL (λ_=>av d #[] _ sm) λ_=>?_
   refine Ac (D5 O) λak _ z a⟨rfl,ao⟩=>?_
   exact av ak _ _ (Jm ao)))
 case buildSlice t n parts=>
  refine Eo (Uo O n sm λj x y Y ab=>?_);exact n9
 case makeMap t o=>
  cases o with
  |none=>exact Eo ((by
    refine Ac (PD (o:=.map _ 0) (o':=.map _ 0) ⟨_,J,J,λi e e' h=>by simp at h⟩) λs a b _⟨am,_⟩=>?_
    exact Ad (VR.e ⟨_,J,am⟩)))
  |some _=>cases O
 case lookup t x i ok=>exact Eo (jy O al (G.rel x (E x (by simp[s3]))) (G.rel i (E i (by simp[s3]))) ok)
 case mapUpdate t m k x=>exact uO (Pj O al (G.rel m (E m (by simp[s3]))) (G.rel k (E k (by simp[s3]))) (G.rel x (E x (by simp[s3]))))
 case insert t m k x=>exact uO (Pj O al (G.rel m (E m (by simp[s3]))) (G.rel k (E k (by simp[s3]))) (G.rel x (E x (by simp[s3]))))
 case call c=>exact xG a1 G aE O (λx h=>E x h) _
end
variable {f f':vh}{a b:Array Vl}
def ß (P:pG)(E G:Nat->Bool):Code->Bool
 |.skip|.exit _|.label _|.ret=>sy
 |.region _ ops _=>ops.all (UI P E G)
 |.seq a b=>ß P E G a&&ß P E G b
 |.cond c a b=>XO E G c&&ß P E G a&&ß P E G b
 |.block _ c=>ß P E G c
 |.loop c=>ß P E G c
 |.scope c=>ß P E G c
 |_=>ss
def Gh (P:pG)(E G:Nat->Bool):Item->Bool
 |.code c=>ß P E G c
 |.inBlock _=>sy
 |.inLoop c=>ß P E G c
 |.inScope c=>ß P E G c
 |.inRegion ops _=>ops.all (UI P E G)
 |_=>ss
def Es (P:pG)(E G:Nat ->Bool):=∀f,E f=sy ->∃fn,P.funcs[f]? = A fn/\(fn.name== "runtime.NumGoroutine")=ss/\
 ((∃c,fn.body=A c/\ß P E G c=sy)\/(fn.body=sA/\G P.globals.size=sy/\Extern.findNext fn=sA/\∃x,Extern.find fn=A x/\∀L,YW P (λf=>E f=sy) L x)\/∀a,Gm P (vi f a))
abbrev Ė (E:Nat->Bool):Nat->Prop:=λf=>E f=sy
def Es.h{P V I}(h:Es P V I) L:TR P (Ė V) I L:=λf U=>by
 obtain⟨X,O,G,⟨c,E,-⟩|⟨E,Z,T,x,Y,W⟩|E⟩:=h f U
 exact⟨X,O,G,.inl ⟨c,E⟩⟩
 exact⟨X,O,G,.inr (.inl ⟨E,Z,T,x,Y,W L⟩)⟩
 exact⟨X,O,G,.inr (.inr E)⟩
structure Da (P:pG)(Fb Gb:Nat->Bool)(r:Ô)(fr fr':vh):Prop where
 fn:fr'.fn=fr.fn
 g:Fb fr.fn=sy
 h:Ó (VR (Ė Fb) r) fr.tmps fr'.tmps
 todo:fr'.todo=fr.todo
 a:∀x∈fr.todo,Gh P Fb Gb x=sy
 e:fr.defers=[]
 j:fr'.defers=[]
 m:fr'.mode=fr.mode
 b:fr.mode=.run\/fr.mode=.returning
 d:fr.kind=.normal
 p:fr'.kind=.normal
 round:fr.roundOf=sA
 q:fr'.roundOf=sA
def G5 (P:pG)(O U:Nat->Bool)(r:Ô)(G E:lF):lF->lF->Prop
 |[],c=>[]=G/\c=E
 |f::l,c=>(f::l=G/\c=E)\/∃f' I,c=f'::I/\Da P O U r f f'/\G5 P O U r G E l I
section
variable {P:tP}{Fb Gb:Nat->Bool}{L:Nat}{r s:Ô}{bot base:List vh}
def Da.l (h:r.d s)(x:Da P Fb Gb r f f'):={x with h:=x.h.l λ_ _=>VR.l h}
def G5.l (h:r.d s):∀{l E},G5 P Fb Gb r bot base l E->G5 P Fb Gb s bot base l E
 |[],_,x=>x
 |_::_,_,x=>x.elim .inl λ⟨f',E,G,I,O⟩=>.inr ⟨f',E,G,I.l h,O.l h⟩
def Da.eval (x:Da P Fb Gb r f f')(O:∀g,Gb g=sy->r.rel g g):bJ (Ė Fb) Fb Gb r f.eval f'.eval:=by
 refine⟨λo E=>?_,λv=>⟨J,J⟩,O⟩;cases o with
 |tmp t=>
  show VR _ r (f.tmps.getD t _) (f'.tmps.getD t _)
  rw[Η,Η];obtain⟨I,G⟩|⟨u,v,I,G,U⟩:=x.h.g t
  rw[I,G];exact VR.plain (n:=1) (by simp[undef,BV])
  simp_all
 |const v=>exact VR.plain E
 |global g=>exact VR.ptr ⟨O g E,J,J⟩
 |func g=>exact VR.e ⟨_,_,J,⟨g,J,E⟩,Ó.nil,Ó.nil⟩
def Da.t (x:Da P Fb Gb r f f')(ops:aO):wE ops f'.tmps=wE ops f.tmps:=by
 funext j
 unfold wE;cases U:(ops[j]?).bind _ with
 |none=>rfl
 |some d=>
  simp
  obtain⟨G,E⟩|⟨u,v,G,E,O⟩:=x.h.g d
  rw[G,E]
  rw[G,E];let I:=O.p;cases u<;>simp[Br]at I
  case bool b=>rw[I]
  all_goals (cases v<;>first|rfl|cases O.d)
def Da.to (x:Da P Fb Gb r f f')(k:lM)(E:∀y∈k,Gh P Fb Gb y=sy):Da P Fb Gb r {f with todo:=k} {f' with todo:=k}:={x with todo:=rfl,a:=E}
def Da.ret (x:Da P Fb Gb r f f'):Da P Fb Gb r {f with mode:=.returning} {f' with mode:=.returning}:={x with m:=rfl,b:=.inr J}
def Da.i (x:Da P Fb Gb r f f'){u v:Vl}(h:VR (Ė Fb) r u v):Da P Fb Gb r (f.finish u) (f'.finish v):=by
 unfold Frame.finish;rw[x.todo];let G:=x.a;cases U:f.todo with
 |nil=>exact x
 |cons I k=>
  rw[U]at G;let O:=G I (ï ..);cases I<;>first|(cases O;done)|exact x|skip
  rename_i ops l
  cases l with
  |nil=>exact x
  |cons i rest=>
   refine{x with todo:=rfl,a:=?_,h:=?_}
   .
    dsimp only
    cases (ops[i]?).bind _ with
    |none=>exact x.h
    |some d=>exact x.h.Q d h
   intro y E;obtain rfl|E:=sV.1 E
   exact O
   exact G y (Ĥ _ E)
def Da.k{f:fI}(Z:Es P Fb Gb)(h:Fb f=sy)(ai:∃fn c,P.funcs[f]? = A fn/\fn.body=A c)(Y:Ó (VR (Ė Fb) r) a b):Da P Fb Gb r (tR P f a .normal) (tR P f b .normal):=by
 obtain⟨fn,c,E,U,X⟩:∃fn c,P.funcs[f]? = A fn/\fn.body=A c/\ß P Fb Gb c=true:=by
  let⟨fn,c,E,U⟩:=ai;obtain⟨x,G,-,⟨y,I,x⟩|⟨I,-⟩|I⟩:=Z f h
  .
   rw[E]at G;cases G
   exact⟨fn,y,E,I,x⟩
  .
   rw[E]at G;cases G
   rw[U]at I;cases I
  exfalso
  rw[E]at G;cases G
  obtain⟨x,x,O,-⟩:=I #[] default;unfold vi at O;simp[program,Sem.run,E,U]at O
  split at O<;>cases O
 refine⟨J,h,?_,J,?_,J,J,J,.inl J,J,J,J,J⟩
 .
  show Ó _ (a++_) (b++_)
  rw[Y.1];refine Y.h (Ó.plain (n:=1) λx O=>?_);rw[(Array.mem_replicate.1 O).2];simp[undef,BV]
 intro y V;simp[tR,E,kx,U,sV,ġ,ĝ]at V;subst V;exact X
def own (P:pG)(fr:vh)(cs:lF):=
 match fr.mode with
 |.run=>
  match fr.todo with
  |[]=>tT ({fr with mode:=.returning},cs)
  |.code .ret::_=>tT ({fr with mode:=.returning},cs)
  |.code .skip::k=>tT ({fr with todo:=k},cs)
  |.code (.label _)::k=>tT ({fr with todo:=k},cs)
  |.inBlock _::k=>tT ({fr with todo:=k},cs)
  |.inScope _::k=>tT ({fr with todo:=k},cs)
  |.code (.seq a b)::k=>tT ({fr with todo:=.code a::.code b::k},cs)
  |.code (.cond c a b)::k=>(match fr.eval c with
   |.bool t=>tT ({fr with todo:=.code (if t then a else b)::k},cs)
   |_=>stuck "")
  |.code (.block id c)::k=>tT ({fr with todo:=.code c::.inBlock id::k},cs)
  |.code (.loop c)::k=>tT ({fr with todo:=.code c::.inLoop c::k},cs)
  |.inLoop c::k=>tT ({fr with todo:=.code c::.inLoop c::k},cs)
  |.code (.scope c)::k=>tT ({fr with todo:=.code c::.inScope c::k},cs)
  |.code (.exit id)::k=>(match BY id k with
   |some E=>tT ({fr with todo:=E},cs)
   |none=>stuck "")
  |.code (.region id ops G)::k=>if !G then tT ({fr with todo:=.inRegion ops (List.range ops.size)::k},cs)else
   choose (.order fr.fn id) >>= λt=>tT ({fr with todo:=.inRegion ops (Region.schedule (P.follows .mixedOrders) ops t)::k},cs)
  |.inRegion _ []::k=>tT ({fr with todo:=k},cs)
  |.inRegion ops (i::_)::_=>(match ops[i]? with
   |some o=>if Region.wanted o (wE ops fr.tmps) then vf fr.eval o >>= λn=>(match n with
     |.value v=>tT (fr.finish v,cs)
     |.skip=>tT (fr.finish uu,cs)
     |.enter f args=>tT (tR P f args .normal,fr::cs)
     |_=>Sem.halt .waiting) else tT (fr.finish uu,cs)
   |none=>tT (fr.finish uu,cs))
  |_=>Sem.halt .waiting
 |.returning=>(match cs with
  |c::rest=>(match P.funcs[fr.fn]? with
   |some fn=>uK fn fr.tmps >>= λv=>tT (c.finish v,rest)
   |none=>Sem.halt .waiting)
  |[]=>Sem.halt .waiting)
 |_=>Sem.halt .waiting
def MH{id}{X:Item->Prop}:∀{k E:lM},BY id k=A E->(∀y∈k,X y)->∀y∈E,X y
 |[],_,h,_=>nf h
 |I::k,E,h,O=>by
  let rest:BY id k=A E->∀y∈E,X y:=λh=>MH h λy G=>O y (Ĥ _ G)
  cases I<;>simp[BY]at h<;>first|exact rest h|skip
  split at h
  simp_all
  exact rest h
def Nw{fn F}(h:Ó (VR F r) a b):Ì P F L (VR F) (uK fn a) (uK fn b) r:=by
 let get:∀(s:Ô)(t:Nat),r.d s->VR F s (a.getD t uu) (b.getD t uu):=λs t O=>by
  rw[Η,Η];obtain⟨I,G⟩|⟨u,v,I,G,e⟩:=h.g t
  rw[I,G];exact VR.plain (n:=1) (by simp[undef,BV])
  rw[I,G];exact e.l O
 unfold uK;rw[l4,l4];let n:∀(l:List ResultVar)(s:Ô),r.d s ->Ì P F L (λt x y=>y.length=x.length/\∀(j:Nat) p q,x[j]? = A p ->y[j]? = A q ->VR F t p q)
   (l.mapM λ|.tmp t=>tT (a.getD t uu)|.cell c t=>(do E0 t (<-asAddr (a.getD c uu)))) (l.mapM λ|.tmp t=>tT (b.getD t uu)|.cell c t=>(do E0 t (<-asAddr (b.getD c uu)))) s:=by
  intro l;induction l with
  |nil=>intro s _;rw[List.mapM_nil,List.mapM_nil];exact Ad ⟨J,λj p q h=>oF h⟩
  |cons x l Y=>
   intro s O;rw[List.mapM_cons,List.mapM_cons];refine Ac (Q:=VR F) ?_ λV u v U l=>Ac (Y V (O.trans U)) λc c c e E=>Ad ⟨oy E.1,λj p q I G=>?_⟩
   .
    cases x with
    |tmp t=>exact Ad (get s t O)
    |cell c t=>exact Ac (Mq (get s c O)) λc p q _ Z=>FU Z t
   cases j with
   |zero=>cases I;cases G;exact l.l e
   |succ j=>exact E.2 j p q I G
 apply Ac (Q:=λt x y=>Ó (VR F t) x y) (Ac (n fn.results.toList r (Ô.d.refl _)) λs x y _ E=>Ad ⟨oy E.1,λj p q I G=>E.2 j p q (sx I) (sx G)⟩)
 intro s x y _ E;by_cases e:x.size=1
 let e':=E.1.trans e;rw[dif_pos e,dif_pos e'];exact Ad (E.2 0 _ _ (ÿ N) (ÿ N))
 let e':=λh=>e (E.1.symm.trans h)
 rw[dif_neg e,dif_neg e'];exact Ad (VR.tuple E)
end
end Go.Proofs.YtaoikkhlnhfkfaaGreatDoor
