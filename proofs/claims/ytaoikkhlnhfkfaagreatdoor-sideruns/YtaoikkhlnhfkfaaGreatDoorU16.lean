import Derived.Test.YtaoikkhlnhfkfaaGreatDoorU00
import Derived.Test.YtaoikkhlnhfkfaaGreatDoorU15
set_option maxHeartbeats 2000000
set_option linter.defProp false
set_option linter.unusedSimpArgs false
set_option linter.unusedVariables false
namespace Go.Proofs.YtaoikkhlnhfkfaaGreatDoor
open Go renaming Program->tP,cellAtBytes->zz,behindNumber->yb,underlying->wv,Operand->Fc,eqGuard->C4,binOp->FS
open Option renaming some->A,none->sA
open Builtin renaming unsafeAdd_->vo,lenOf->D3,firstCells->ub,zeroCells->Bm,holdsCells->GP,mayShare->Hi,append_->zq
open Op renaming twoPlaces->AI,equal->xE,equalIn->tO,intDiv->ID,stringOp->F0
open Bool renaming true->sy,false->ss
open _root_.Array renaming range->C5,mem_map->Fi,foldl_toList->Hx
open Instr renaming fill->As,build->GQ,buildSlice->zE
variable {a a':Addr}{x y u v:Vl}
section
variable {α β γ δ:Type}{P:tP}{F:Nat->Prop}{L:Nat}{r:Ô}
def Rx{p:pG}{d}{e:tI}{n m off b o}(h:zz p d e n off b=A o)(I:n<=m):zz p d e m off b=A o:=by
 unfold zz at h⊢;simp only[bind,Option.bind]at h⊢;split at h
 cases h
 rename_i x
 rw[Ä x];cases E:byteOfCell p d e _ with
 |none=>rw[E]at h;cases h
 |some x=>
  rw[E]at h;dsimp only at h⊢
  let O:n*p.bytesOf e<=m*p.bytesOf e:=Nat.mul_le_mul_right _ I;split at h
  cases h
  rename_i x
  rw[Ä]
  exact h
  simp only[ł,kZ,not_or]at x⊢;refine⟨x.1,λU=>x.2 ?_⟩;let G:((n*p.bytesOf e):Int)<=((m*p.bytesOf e):Int):=by exact_mod_cast O
  exact Int.le_trans G U
def mE.some{a b:Option (tI×Nat)}(h:mE a b):b.isSome=a.isSome:=by obtain⟨rfl,rfl⟩|⟨e,n,m,rfl,rfl,-⟩:=h<;>rfl
def Ub{x y}(h:r.rel x y):Ì P F L (λ_ a b=>a=sA/\b=sA) (viewAt x) (viewAt y) r:=by
 refine Ac (Mg h) λs o U I G=>?_
 rw[G.some];split
 exact Ad ⟨J,J⟩
 refine Ac (IZ (I _ _ h)) λO o o' _⟨E,_⟩=>?_
 cases o<;>simp only[Ĺ]at E
 obtain⟨_,_,rfl,-⟩:=E;exact Ad ⟨J,J⟩
 obtain⟨_,rfl,-⟩:=E;exact Ad ⟨J,J⟩
 obtain⟨_,rfl,-⟩:=E;exact Ad ⟨J,J⟩
def pH (h:AR r a a'):Ì P F L (λ_ _ _=>True) (noView a) (noView a') r:=by
 apply Ac (Ub h.1);rintro s _ _-⟨rfl,rfl⟩;exact Ad sk
def YX{x y}(h:r.rel x y):Ì P F L (λt a b=>Û (λp q=>AR t p.1 q.1/\q.2=p.2) a b) (numberAt x) (numberAt y) r:=by
 refine Ac (Mg h) λs o V O G=>?_
 rw[G.some];split
 exact Ad sk
 refine Ac (IZ (O _ _ h)) λU o o' _⟨E,_⟩=>?_
 cases o<;>simp only[Ĺ]at E
 obtain⟨_,_,rfl,-⟩:=E;exact Ad sk
 obtain⟨_,rfl,I⟩:=E;exact Ad ⟨I,J⟩
 obtain⟨_,rfl,-⟩:=E;exact Ad sk
def FW (h:AR r a a'):Ì P F L (λt p q=>AR t p.1 q.1/\q.2=p.2) (yb a) (yb a') r:=by
 apply Ac (YX h.1);intro s o o' G E;cases o<;>cases o'<;>simp[Û]at E
 exact Ad ⟨h.l G,J⟩
 exact Ad E
def YJ (h:AR r a a') l:Ì P F L (VR F) (asNumber a l) (asNumber a' l) r:=by
 refine Ac (PD (o:=.number a l) (o':=.number a' l) ⟨_,J,h⟩) λs x y _⟨E,_⟩=>?_
 exact Ad (VR.ptr ⟨E,J,J⟩)
def KD (h:AR r a a'):Ì P F L (λ_ a b=>b=a) (byteOf a) (byteOf a') r:=by
 unfold byteOf;dsimp only
 let⟨G,E,I⟩:=h;rw[I];cases Z:a.spot with
 |some n=>exact Ad J
 |none=>
  apply CZ
  apply Ac (pH ⟨G,E,I⟩)
  intro s _ _ U _;apply Ac (Mg (U _ _ G))
  intro Y o e V O;obtain⟨rfl,rfl⟩|⟨e,n,m,rfl,rfl,-⟩:=O
  exact Ah
  dsimp only
  rw[E];split
  exact Ad J
  split
  exact Ad J
  exact Ah
def Dv (h:VR F r u v)(ab:VR F r x y)(t:tI):Ì P F L (VR F) (vo #[] t #[u,x]) (vo #[] t #[v,y]) r:=by
 have:=h.p;cases u<;>simp[Br]at this
 case pointer a=>
  obtain⟨a',rfl,Y⟩:=this;show Ì P F L (VR F) (asInt x >>= _) (asInt y >>= _) r
  apply Ac (R6 ab)
  rintro s _ n Z rfl;dsimp only
  let E:=Y.l λ_ _=>AR.l Z
  by_cases I:n=0
  .
   rw[Æ I,Æ I];cases a<;>cases a'<;>simp[Û]at E
   exact Al (Ae sk)
   dsimp only
   apply Ac (Ub E.1)
   rintro U _ _ O⟨rfl,rfl⟩;exact Ad (VR.ptr (AR.l O E))
  rw[Ä I,Ä I];by_cases G:n<0
  rw[Æ G,Æ G];exact Al (Bn (Ae sk))
  rw[Ä G,Ä G];cases a<;>cases a'<;>simp[Û]at E
  exact Al (Ae sk)
  dsimp only
  apply Ac (Mg E.1)
  intro U o a O V;obtain⟨rfl,rfl⟩|⟨e,a,a,rfl,rfl,a⟩:=V
  exact Al (Ae sk)
  dsimp only
  apply CZ
  rw[E.2.1];split
  .
   rename_i off hoff
   rw[Rx hoff (Nat.div_le_div_right a)];exact Ad (VR.ptr ⟨O _ _ E.1,J,E.2.2⟩)
  exact Al (Ae sk)
 all_goals exact Ah
def Ua (l:Bool)(d:Vl):Sem Vl:=match d with
 |.pointer (A b)=>asNumber b l
 |v=>pure v
def Ye (t:tI)(u x:Vl):=match u with
 |.pointer (A n)=>yb n >>= λp=>vo #[] t #[.pointer (A p.1),x] >>= λd=>Ua p.2 d
 |_=>vo #[] t #[u,x]
def Z9{p q:Vl}(h:VR F r p q) l:Ì P F L (VR F) (Ua l p) (Ua l q) r:=by
 have E:=h.p;cases p<;>simp[Br]at E
 case pointer c=>
  obtain⟨I,rfl,G⟩:=E;cases c<;>cases I<;>simp[Û]at G
  exact Ad h
  exact YJ G _
 case slice=>obtain⟨_,rfl,-⟩:=E;exact Ad h
 case map=>obtain⟨_,rfl,-⟩:=E;exact Ad h
 case func=>obtain⟨_,_,rfl,-⟩:=E;exact Ad h
 case iface=>obtain⟨_,rfl,-⟩:=E;exact Ad h
 case agg=>obtain⟨_,rfl,-⟩:=E;exact Ad h
 case tuple=>obtain⟨_,rfl,-⟩:=E;exact Ad h
 all_goals (subst E;exact Ad h)
def Xe (h:VR F r u v)(G:VR F r x y) t:Ì P F L (VR F) (Ye t u x) (Ye t v y) r:=by
 have E:=h.p;cases u<;>simp[Br]at E
 case pointer a=>
  obtain⟨a',rfl,I⟩:=E;cases a<;>cases a'<;>simp[Û]at I
  exact Dv h G t
  apply Ac (FW I)
  rintro Z⟨b,l⟩ ⟨a,a⟩O⟨V,rfl⟩;apply Ac (Dv (VR.ptr V) (G.l O) t)
  intro Y p q _ U;exact Z9 U _
 case slice=>obtain⟨_,rfl,-⟩:=E;exact Dv h G t
 case map=>obtain⟨_,rfl,-⟩:=E;exact Dv h G t
 case func=>obtain⟨_,_,rfl,-⟩:=E;exact Dv h G t
 case iface=>obtain⟨_,rfl,-⟩:=E;exact Dv h G t
 case agg=>obtain⟨_,rfl,-⟩:=E;exact Dv h G t
 case tuple=>obtain⟨_,rfl,-⟩:=E;exact Dv h G t
 all_goals (subst E;exact Dv h G t)
def JC (h:VR F r u v)(G:VR F r x y)(t:tI):Ì P F L (VR F) (movedNumber t u x) (movedNumber t v y) r:=by
 refine Ac (Be t) λs _ d E⟨rfl,_⟩=>?_
 cases d<;>first|exact Al (Bn (Ae sk))|exact(Xe (P:=P) (L:=L) (h.l E) (G.l E) t)
def Pi{b G}(ab:P.globals.size<=L)(E:AR r a a')(U:AR r b G):Ì P F L (λ_ p q=>q=p) (AI a b) (AI a' G) r:=λw w' I=>by
 let V:(a'.block !=G.block)=(a.block !=b.block):=by
  by_cases e:a.block=b.block
  let e':=r.fn _ _ _ E.1 (e▸U.1);rw[e,e',bne_self_eq_false,bne_self_eq_false]
  let e':a'.block≠G.block:=λh=>e (r.e _ _ _ (h▸E.1) U.1)
  rw[j8.2 e,j8.2 e']
 let Z:decide (a'.block>=P.globals.size)=decide (a.block>=P.globals.size):=by
  obtain O|O:=nR a.block L
  rw[I.d _ _ E.1 O]
  have:=I.g _ _ E.1 O;rw[ď (show a'.block>=P.globals.size by omega),ď (show a.block>=P.globals.size by omega)]
 refine(show Ì P F L (λ_ p q=>q=p) (AI a b) (AI a' G) r from ?_) w w' I;unfold AI;dsimp only
 apply CZ
 rw[V,Z];split
 exact Al (Bn (Ae sk))
 apply Ac (KD E);rintro s _ n Y rfl;apply Ac (KD (U.l Y));rintro e _ m-rfl;exact Ad J
end
section
variable {α β γ δ:Type}{P:tP}{F:Nat->Prop}{L:Nat}{r:Ô}
def Df{Q:Ô->α->β->Prop}{t:tI}{d}(h:P.underlying t=A d){f f'}(aj:Ì P F L Q (f d) (f' d) r):Ì P F L Q (wv t >>= f) (wv t >>= f') r:=by
 let e:∀w,(wv t).run P w=.ok d w:=λw=>by simp[wv,program,Sem.run,h]
 let e':∀w es,(wv t).events P w es=es:=λw es=>by simp[wv,h]
 intro w w' G;obtain⟨x,w1,E,I⟩|⟨a,w1,W,b,V,evs,E,Y,S,Z,R,O,ab,U⟩:=aj w w' G
 exact .inl ⟨x,w1,by simp[e,E],I⟩
 exact .inr ⟨a,w1,W,b,V,evs,by simp[e,E],by simp[e,Y],λes=>by simp[e,e',S],Z,R,O,ab,OV.d (a:=d) (w1:=w) ⟨J,lr,λt _=>e _⟩ U⟩
def á (P:pG)(t:tI):Bool:=match P.underlying t with
 |some (.int _)=>(match P.info? t with|some i=>!(i.desc matches .named "sync.copyChecker" _)|none=>sy)
 |_=>ss
def Kk{t}(h:á P t=sy):∃k,P.underlying t=A (.int k):=by
 unfold á at h;split at h
 exact⟨_,‹_›⟩
 cases h
def ZR{t a a' b U}(E:á P t=sy)(ao:AR r a a')(ac:AR r b U)(aw:P.globals.size<=L):Ì P F L (λ_ x y=>y=x) (xE t (.p (A a)) (.p (A b))) (xE t (.p (A a')) (.p (A U))) r:=by
 obtain⟨k,k⟩:=Kk E;show Ì P F L (λ_ x y=>y=x) (tO (9999+1) t (.p (A a)) (.p (A b))) (tO (9999+1) t (.p (A a')) (.p (A U))) r
 rw[tO,tO];apply Df k
 dsimp only
 apply Ac (FW ao)
 rintro s⟨p,l⟩ ⟨O,e⟩h⟨e,rfl⟩;apply Ac (FW (ac.l h))
 rintro V⟨q,m⟩ ⟨q',m'⟩h⟨I,rfl⟩;intro w w' Y;dsimp only at e I
 let G:=AR.l h e;let i:(O.block==q'.block)=(p.block==q.block):=by
  by_cases e:p.block=q.block
  let e':=V.fn _ _ _ G.1 (e▸I.1);rw[e,e',n2,n2]
  let e':O.block≠q'.block:=λh=>e (V.e _ _ _ (h▸G.1) I.1)
  rw[Α.2 e,Α.2 e']
 have e:decide (O.block<P.globals.size)=decide (p.block<P.globals.size):=by
  obtain Z|Z:=nR p.block L
  rw[Y.d _ _ G.1 Z]
  have:=Y.g _ _ G.1 Z;rw[ĕ (show ¬O.block<P.globals.size by omega),ĕ (show ¬p.block<P.globals.size by omega)]
 revert w w' Y
 show Ì P F L _ _ _ V
 dsimp only
 apply CZ
 rw[i,e];split
 .
  apply Ac (KD G)
  rintro h _ n e rfl;apply Ac (KD (I.l e))
  rintro e _ e-rfl;exact Ad J
 apply Ac (Du t)
 rintro h _ i-⟨rfl,e⟩;unfold á at E;rw[k,e]at E;dsimp only at E⊢
 split
 .
  rename_i e
  simp[e]at E
 exact Al (Ae sk)
def ni{q:Prop}(h:q:=by
 cases m with
 |ofNat m=>cases m with
  |zero=>exact Ad rfl
  |succ m=>exact Al (Ae trivial)
 |negSucc m=>exact Al (Ae trivial)):q:=h
def QN{t}{u v x y:Vl}(U:á P t=sy)(h:VR F r u v)(Z:VR F r x y)(aa:P.globals.size<=L):Ì P F L (λ_ x y=>y=x) (xE t u x) (xE t v y) r:=by
 let⟨k,G⟩:=Kk U;have O:=h.p;have I:=Z.p;let k:Ì P F L (λ_ x y=>y=x) (tO (9999+1) t u x) (tO (9999+1) t v y) r->Ì P F L (λ_ x y=>y=x) (xE t u x) (xE t v y) r:=λh=>h
 cases u<;>cases x
 case int.int a n n m=>
  subst O;subst I;apply k;rw[tO];apply Df G
  dsimp only
  split
  exact Ad J
  exact Ah
 case pointer.pointer a b=>
  obtain⟨a',rfl,E⟩:=O;obtain⟨Y,rfl,V⟩:=I;cases a<;>cases a'<;>simp[Û]at E<;>cases b<;>cases Y<;>simp[Û]at V
  case some.some.some.some=>exact ZR U E V aa
  all_goals (apply k;rw[tO];(try rw[tO]);apply Df G;exact Al (Ae (u:=.addressObserved) sk))
 case pointer.int a n m=>
  obtain⟨a',rfl,E⟩:=O;subst I;apply k;rw[tO,tO];apply Df G
  cases a<;>cases a'<;>simp[Û]at E
  exact Al (Ae sk)
  exact ni
 case int.pointer n m a=>
  obtain⟨a',rfl,E⟩:=I;subst O;apply k;rw[tO,tO];apply Df G
  cases a<;>cases a'<;>simp[Û]at E
  .
   cases m with
   |ofNat m=>cases m<;>exact Al (Ae sk)
   |negSucc m=>exact Al (Ae sk)
  exact ni
 all_goals (apply k;rw[tO];(try rw[tO]);apply Df G;first|exact Ah|exact Al (Ae (u:=.addressObserved) sk)|(cases ‹oA›<;>exact Al (Ae (u:=.addressObserved) sk))|(cases ‹oA›<;>cases ‹oA›<;>exact Al (Ae (u:=.addressObserved) sk)))
end
variable {u v p q:Vl}{op:BinOp}{t:tI}{x y:Fc}
section
variable {α β γ δ:Type}{P:tP}{F:Nat->Prop}{L:Nat}{r:Ô}
def CL{Q:Ô->α->β->Prop}{c} [Decidable c] {s t s' E}(h:c->Ì P F L Q s s' r)(G:¬c->Ì P F L Q t E r):Ì P F L Q (if c then s else t) (if c then s' else E) r:=by
 by_cases e:c
 simp_all
 simp_all
def Eg:Vl->Nat
 |.bool _=>0|.int _ _=>1|.float _ _=>2|.complex _ _ _=>3|.string _=>4|.pointer _=>5|.slice _ _ _=>6|.map _=>7|.chan _=>8
 |.func _ _ _=>9|.nilFunc=>10|.iface _ _=>11|.nilIface=>12|.agg _=>13|.tuple _=>14
def VR.d (h:VR F r u v):Eg v=Eg u:=by
 have:=h.p;cases u<;>simp[Br]at this
 case pointer=>obtain⟨_,rfl,-⟩:=this;rfl
 case slice=>obtain⟨_,rfl,-⟩:=this;rfl
 case map=>obtain⟨_,rfl,-⟩:=this;rfl
 case func=>obtain⟨_,_,rfl,-⟩:=this;rfl
 case iface=>obtain⟨_,rfl,-⟩:=this;rfl
 case agg=>obtain⟨_,rfl,-⟩:=this;rfl
 case tuple=>obtain⟨_,rfl,-⟩:=this;rfl
 all_goals (subst this;rfl)
def K3{a b}(E:¬(Eg a=12/\Eg b=12))(G:¬(Eg a=13/\Eg b=13)):C4 op t x y a b=pure ():=by
 unfold C4;cases a<;>first|(split<;>rfl)|(cases b<;>first|(split<;>rfl)|exact absurd ⟨J,J⟩ E|cases G ⟨J,J⟩)
def Pf (G:á P t=sy):Ì P F L (λ_ a b=>a=ss/\b=ss) (Op.eqGuardIn Op.maxDepth t u p) (Op.eqGuardIn Op.maxDepth t v q) r:=by
 let⟨k,E⟩:=Kk G;apply Df E;exact Ad ⟨J,J⟩
def aZ (G:á P t=sy\/y=.const .n/\p=.n)(h:VR F r u v)(O:VR F r p q):Ì P F L (λ_ _ _=>True) (C4 op t x y u p) (C4 op t x y v q) r:=by
 by_cases E:Eg u=12/\Eg p=12
 .
  have Z:u=.n:=by cases u<;>first|rfl|cases E.1
  have b:p=.n:=by cases p<;>first|rfl|cases E.2
  let U:=h.d;let V:=O.d;rw[E.1]at U;rw[E.2]at V;have Y:v=.n:=by cases v<;>first|rfl|cases U
  have a:q=.n:=by cases q<;>first|rfl|cases V
  subst Z b Y a;obtain G|⟨rfl,-⟩:=G
  .
   unfold C4;dsimp only
   refine CL (λ_=>Ad sk) λ_=>CL (λ_=>Ad sk) λ_=>?_
   apply Ac (Pf G)
   rintro s _ _-⟨rfl,rfl⟩;exact Ad sk
  unfold C4;dsimp only
  refine CL (λ_=>Ad sk) λ_=>?_
  simp[Bool.or_true,ô];exact Ad sk
 by_cases I:Eg u=13/\Eg p=13
 .
  obtain G|⟨-,rfl⟩:=G
  .
   obtain⟨a,rfl⟩:∃a,u=.agg a:=by cases u<;>first|exact⟨_,J⟩|cases I.1
   obtain⟨b,rfl⟩:∃a,p=.agg a:=by cases p<;>first|exact⟨_,J⟩|cases I.2
   obtain⟨a',rfl,-⟩:=h.p;obtain⟨a,rfl,-⟩:=O.p;unfold C4;dsimp only
   refine CL (λ_=>Ad sk) λ_=>?_
   apply CZ
   apply CZ
   refine CL (λ_=>Ad sk) λ_=>?_
   apply Ac (Pf G)
   rintro s _ _-⟨rfl,rfl⟩;exact Ad sk
  cases I.2
 rw[K3 E I,K3 (h.d▸O.d▸E) (h.d▸O.d▸I)];exact Ad sk
def ZQ:Fc->Bool
 |.const .nilIface=>sy
 |_=>ss
def m6 (P:pG)(t:tI):Bool:=match P.underlying t with
 |some (.interface _)=>sy
 |_=>ss
def EG (P:pG)(op:BinOp)(t:tI)(y:Fc):=match op with
 |.add|.sub|.mul|.quo|.rem|.lss|.leq|.gtr|.geq=>á P t
 |.eql|.neq=>á P t ||(m6 P t&&ZQ y)
 |_=>ss
def lJ op k a b:Ì P F L (VR F) (ID op k a b) (ID op k a b) r:=by
 unfold ID;split
 exact Al (Bu _)
 cases op<;>first|exact Ah|exact Ad (VR.int ..)
def jq (G:EG P op t y=sy) k E a b:Ì P F L (VR F) (FS op t (.int k a) (.int E b)) (FS op t (.int k a) (.int E b)) r:=by
 cases op<;>simp[EG]at G<;>first|cases G|skip
 all_goals (refine(CL (λ_=>Ah) λ_=>?_))
 all_goals first|exact lJ _ _ _ _|exact Ad (VR.int ..)|exact Ad (VR.bool _)
def MB op(a b:bA):Ì P F L (VR F) (F0 op a b) (F0 op a b) r:=by
 cases op
 case add=>exact CL (λ_=>Al (Ae sk)) λ_=>Ad (VR.plain (n:=0) J)
 all_goals first|exact Ah|exact Ad (VR.bool _)
def Wi (h:EG P op t y=sy)(G:op=.eql\/op=.neq):á P t=sy\/((∃E,P.underlying t=A (.interface E))/\y=.const .n):=by
 let I:(á P t ||(m6 P t&&ZQ y))=true:=by obtain rfl|rfl:=G<;>exact h
 obtain h|h:=ł _ _▸I
 exact .inl h
 simp at h
 refine .inr ⟨?_,?_⟩
 .
  have:=h.1;unfold m6 at this;split at this
  exact⟨_,‹_›⟩
  cases this
 have:=h.2;unfold ZQ at this;split at this
 rfl
 cases this
def Ć (a b:Vl)(G:¬(∃k x O y,a=Value.int k x/\b=Value.int O y))(E:¬(∃x y,a=Value.string x/\b=Value.string y))(I:Eg a≠2)(U:Eg a≠3):FS .eql t a b=(xE t a b >>= λc=>pure (.bool c))/\FS .neq t a b=(xE t a b >>= λc=>pure (.bool (!c))):=by
 cases a<;>first|exact⟨J,_⟩|exact absurd J I|exact absurd J U|(cases b<;>first|exact⟨J,J⟩|exact absurd ⟨_,_,_,_,J,J⟩ G|cases E ⟨_,_,J,J⟩)
def oq (al:EG P op t y=sy)(h:VR F r u v)(ac:VR F r p q)(am:y=.const .n->p=.n/\q=.n)(ao:P.globals.size<=L)(aa:op=.eql\/op=.neq)
  (ai:¬∃k a ab b,u=.int k a/\p=.int ab b)(es:¬∃a b,u=.st a/\p=.st b):Ì P F L (VR F) (FS op t u p) (FS op t v q) r:=by
 have main:Ì P F L (λ_ a b=>b=a) (xE t u p) (xE t v q) r:=by
  obtain I|⟨I,c⟩:=Wi al aa
  exact QN I h ac ao
  obtain⟨rfl,rfl⟩:=am c;exact (by
    obtain⟨c,c⟩:=I;show Ì P F L (λ_ a b=>b=a) (tO (9999+1) t u .n) (tO (9999+1) t v .n) r
    rw[tO]
    (try rw[tO])
    apply Df c
    have E:=h.p;cases u<;>simp[Br]at E
    case nilIface=>subst E;exact Ad J
    case iface=>obtain⟨_,rfl,-⟩:=E;exact Ad J
    all_goals exact Ah)
 let E:=h.p;have V:Eg u≠2:=λe=>by cases u<;>first|exact E|cases e
 let Z:Eg u≠3:=λe=>by cases u<;>first|exact E|cases e
 let G:=h.d;let Y:=ac.d;let⟨c,e⟩:=Ć (t:=t) u p ai es V Z;have⟨s,E⟩:=Ć (t:=t) v q (λ⟨k,a,ab,b,U,O⟩=>by
   subst U O;cases u<;>cases G
   cases p<;>cases Y
   exact ai ⟨_,_,_,_,J,J⟩) (λ⟨a,b,U,O⟩=>by
   subst U O;cases u<;>cases G
   cases p<;>cases Y
   exact es ⟨_,_,J,J⟩) (G▸V) (G▸Z)
 obtain rfl|rfl:=aa
 .
  rw[c,s];apply Ac main
  rintro s _ c-rfl;exact Ad (VR.bool _)
 rw[e,E];apply Ac main
 rintro s _ c-rfl;exact Ad (VR.bool _)
def pE (E:EG P op t y=sy)(h:VR F r u v)(V:VR F r p q)(ak:y=.const .n->p=.n/\q=.n)(al:P.globals.size<=L):Ì P F L (VR F) (FS op t u p) (FS op t v q) r:=by
 have U:=h.p;have I:=V.p;by_cases X:∃k a c b,u=.int k a/\p=.int c b
 obtain⟨k,a,c,b,rfl,rfl⟩:=X;simp only[Br]at U I;subst U I;exact jq E k c a b
 by_cases W:∃a b,u=.st a/\p=.st b
 .
  obtain⟨a,b,rfl,rfl⟩:=W;simp only[Br]at U I;subst U I;let e:FS op t (.st a) (.st b)=F0 op a b:=by cases op<;>rfl
  rw[e];exact MB _ a b
 by_cases G:op=.eql\/op=.neq
 exact oq E h V ak al G X W
 have a:á P t=true:=by
  cases op<;>simp only[EG]at E<;>first|cases E|exact E|exact absurd (.inl J) G|exact absurd (.inr J) G
 obtain⟨b,b⟩:=Kk a;cases u<;>simp only[Br]at U
 case pointer a=>
  obtain⟨a',rfl,Z⟩:=U;cases p<;>simp only[Br]at I
  case int k n=>
   subst I;cases op<;>simp only[EG]at E<;>first|cases E|skip
   case add=>exact Df b (JC h V t)
   case sub=>exact JC h (VR.int k (-n)) t
   case rem=>
    cases a<;>cases a'<;>simp only[Û]at Z
    exact Al (Ae (u:=.addressObserved) sk)
    apply Ac (FW Z)
    rintro s⟨b,l⟩ ⟨T,n⟩-⟨O,rfl⟩;unfold Op.addrMod;dsimp only
    apply Ac (Mg O.1)
    intro s o b k b;obtain⟨rfl,rfl⟩|⟨e,c,c,rfl,rfl,-⟩:=b
    exact Al (Ae sk)
    dsimp only
    apply Ac (Du e)
    rintro S _ i Y⟨rfl,-⟩;split
    exact Al (Bn (Ae sk))
    apply Ac (KD ((O.l k).l Y));rintro b _ m-rfl;exact Ad (VR.int ..)
   all_goals first|exact absurd (.inl J) G|exact absurd (.inr J) G|exact Al (Ae (u:=.addressObserved) sk)|(cases a<;>exact Al (Ae (u:=.addressObserved) sk))
  case pointer b=>
   obtain⟨T,rfl,O⟩:=I;let Q:∀(x x' y e:Addr)(o:BinOp),AR r x x'->AR r y e->Ì P F L (VR F) (yb x >>= λc=>yb y >>= λd=>Op.addrCmp o c.1 d.1) (yb x' >>= λc=>yb e >>= λd=>Op.addrCmp o c.1 d.1) r:=λx x' y e o V ak=>by
    apply Ac (FW V)
    rintro s⟨c,l⟩ ⟨r9,n⟩k⟨i,rfl⟩;apply Ac (FW (ak.l k))
    rintro S⟨d,R⟩ ⟨d',se⟩Y⟨m,rfl⟩;exact (by
      apply Ac (Pi al ((AR.l Y i)) m);rintro s _⟨x,y⟩-rfl;cases o<;>first|exact Ad (VR.bool _)|exact Al (Ae sk))
   cases a<;>cases a'<;>simp only[Û]at Z<;>cases b<;>cases T<;>simp only[Û]at O
   case some.some.some.some x x' y e=>
    cases op<;>simp only[EG]at E<;>first|cases E|exact Q _ _ _ _ _ Z O|skip
    case sub=>
     apply Ac (FW Z)
     rintro s⟨c,l⟩ ⟨r9,n⟩k⟨i,rfl⟩;apply Ac (FW (AR.l k O))
     rintro S⟨d,R⟩ ⟨d',se⟩Y⟨m,rfl⟩;exact (by
       apply Ac (Pi al ((AR.l Y i)) m);rintro s _⟨x,y⟩-rfl;exact Ad (VR.int ..))
    all_goals first|exact absurd (.inl J) G|exact absurd (.inr J) G|exact Al (Ae (u:=.addressObserved) sk)
   all_goals (cases op<;>simp only[EG]at E<;>first|cases E|exact absurd (.inl J) G|exact absurd (.inr J) G|exact Al (Ae (u:=.addressObserved) sk))
  all_goals (cases op<;>simp only[EG]at E<;>first|cases E|exact absurd (.inl J) G|exact absurd (.inr J) G|exact Al (Ae (u:=.addressObserved) sk)|(cases a<;>exact Al (Ae (u:=.addressObserved) sk))|(cases a<;>cases ‹oA›<;>exact Al (Ae (u:=.addressObserved) trivial)))
 case int k n=>
  subst U;cases p<;>simp only[Br]at I
  case int=>exact absurd ⟨_,_,_,_,J,J⟩ X
  case pointer b=>
   obtain⟨T,rfl,O⟩:=I;cases op<;>simp only[EG]at E<;>first|cases E|skip
   case add=>exact JC V h t
   all_goals first|exact absurd (.inl J) G|exact absurd (.inr J) G|exact Al (Ae (u:=.addressObserved) sk)|(cases b<;>exact Al (Ae (u:=.addressObserved) trivial))
  all_goals (cases op<;>simp only[EG]at E<;>first|cases E|exact absurd (.inl J) G|exact absurd (.inr J) G|exact Ah)
 all_goals (cases p<;>first|exact absurd ⟨_,_,J,J⟩ W|(cases op<;>simp only[EG]at E<;>first|cases E|exact absurd (.inl J) G|exact absurd (.inr J) G|exact Ah|exact Al (Ae (u:=.addressObserved) sk)))
end
section
variable {α β γ δ:Type}{P:tP}{F:Nat->Prop}{L:Nat}{r:Ô}
def oP op{u v:Vl}(h:VR F r u v):Ì P F L (VR F) (Op.unary op u) (Op.unary op v) r:=by
 have E:=h.p;cases u<;>simp[Br]at E
 case int k n=>subst E;cases op<;>first|exact Ah|exact Ad (VR.int _ _)
 case bool b=>subst E;cases op<;>first|exact Ah|exact Ad (VR.bool _)
 case pointer a=>cases a<;>cases op<;>first|exact Ah|exact Al (Ae (u:=.addressObserved) sk)
 all_goals (cases op<;>exact Ah)
def K8:∀(n)(v:Vl),BV n v=sy->BV (n+1) v=sy
 |0,v,h=>by cases v<;>first|exact h|cases h|(cases ‹Option _›<;>exact h)|(cases ‹Option _›<;>exact h)
 |n+1,v,h=>by
  cases v<;>first|exact h|(cases ‹Option _›<;>exact h)|(cases ‹Option _›<;>exact h)|skip
  case iface t v=>exact K8 n v h
  case agg c=>simp only[BV,jo]at h⊢;exact λx E=>K8 n x (h x E)
  case tuple c=>simp only[BV,jo]at h⊢;exact λx E=>K8 n x (h x E)
def Jm{n}{z:Vl}(h:BV n z=sy):∀x∈z.cells,BV n x=true:=by
 intro x E;cases z<;>first|(simp[Value.cells]at E;subst E;exact h)|skip
 case agg c=>
  cases n with
  |zero=>simp[BV]at h
  |succ n=>
   simp only[BV,jo]at h;exact K8 n x (h x E)
def Ó.d{n m}{z:Array Vl}(h:∀x∈z,BV n x=sy):Ó (VR F r) ((C5 m).map (z[·%z.size]!)) ((C5 m).map (z[·%z.size]!)):=by
 refine Ó.plain (n:=n) λx E=>?_
 obtain⟨i,-,rfl⟩:=Fi.1 E;by_cases e:i%z.size<z.size
 simp_all
 rw[getElem!_neg z _ e];cases n<;>rfl
def aT (X:Vl->Vl->Prop):∀(l G:List (Vl×Nat))(off)(c I:Array Vl),Ó X c I->G.length=l.length->(∀(j:Nat) x y,l[j]? = A x->G[j]? = A y->y.2=x.2/\X x.1 y.1) ->
  Ó X (l.foldl (λcs p=>cs.setIfInBounds (off+p.2) p.1) c) (G.foldl (λcs p=>cs.setIfInBounds (off+p.2) p.1) I)
 |[],[],_,_,_,h,_,_=>h
 |x::l,y::G,off,c,I,h,E,O=>by
  let⟨e,U⟩:=O 0 x y J J;refine aT X l G off _ _ ?_ (sx E) λj a b Y V=>O (j+1) a b Y V
  show Ó X (c.setIfInBounds _ _) (I.setIfInBounds _ _)
  rw[e];exact h.Q _ U
 |[],_::_,_,_,_,_,E,_=>nf E
 |_::_,[],_,_,_,_,E,_=>nf E
def UB place:∀(l G:List (Nat×Vl))(c O:Array Vl),Ó (VR F r) c O->G.length=l.length->(∀(j:Nat) x y,l[j]? = A x->G[j]? = A y->y.1=x.1/\VR F r x.2 y.2) ->
  Û (Ó (VR F r)) (As place c l) (As place O G)
 |[],[],c,O,h,_,_=>h
 |(i,u)::l,(Y,v)::G,c,O,h,E,Z=>by
  let⟨e,V⟩:=Z 0 (i,u) (Y,v) J J;dsimp only at e V
  subst e;unfold As;cases place Y with
  |none=>exact sk
  |some p=>
   let⟨off,size⟩:=p;dsimp only
   rw[V.cells.1,h.1];by_cases e:(decide (u.cells.size≠size) ||decide (off+u.cells.size>c.size))=sy
   rw[Æ e,Æ e];exact sk
   rw[Ä e,Ä e];refine UB place l G _ _ ?_ (sx E) λj x y U I=>Z (j+1) x y U I
   rw[<-Hx,<-Hx];refine aT (VR F r) _ _ off _ _ h (oy V.cells.1) λj x y U I=>?_
   simp only[Array.getElem?_toList,Array.getElem?_zipIdx]at U I;obtain⟨a,h,rfl⟩:=ė.1 U;obtain⟨b,e,rfl⟩:=ė.1 I;exact⟨J,V.cells.2 j a b h e⟩
 |[],_::_,_,_,_,E,_=>nf E
 |_::_,[],_,_,_,E,_=>nf E
def dI{E O:Type}{f:E->Sem O}(G:∀(s) x,Ì P F L (λ_ a b=>b=a) (f x) (f x) s)(l:List E):∀r,Ì P F L (λ_ a b=>b=a) (l.mapM f) (l.mapM f) r:=by
 induction l with
 |nil=>intro r;exact Ad J
 |cons x l I=>
  intro r;rw[List.mapM_cons];apply Ac (G r x);rintro s _ a-rfl;apply Ac (I s);rintro U _ b-rfl;exact Ad J
def sK{t:tI}(Y:Fe P t=sy){l U:Array (Nat×Vl)}(ai:U.size=l.size)(an:∀(j:Nat) x y,l[j]? = A x->U[j]? = A y->y.1=x.1/\VR F r x.2 y.2):Ì P F L (VR F) (GQ t l) (GQ t U) r:=by
 unfold GQ;dsimp only
 apply Ac (D5 Y)
 rintro s _ z X⟨rfl,Y⟩;apply Ac (Be t)
 rintro n _ d Z⟨rfl,-⟩;have i:=λE place O=>
  UB (F:=F) (r:=E) place l.toList U.toList z.cells z.cells (Ó.plain (Jm Y)) (oy ai) λj x y b h=>by
   let⟨e,a⟩:=an j x y (sx b) (sx h);exact⟨e,a.l O⟩
 have last:∀(E:Ô)(r8 B:Option (Array Vl)),Û (Ó (VR F E)) r8 B->(r8=sA/\B=sA)\/∃a b,r8=A a/\B=A b/\Ó (VR F E) a b:=λE r8 B h=>by
  cases r8<;>cases B<;>first|exact .inl ⟨J,J⟩|exact h.elim|exact .inr ⟨_,_,J,J,h⟩
 cases d<;>first|exact Ah|skip
 case struct fields=>
  dsimp only
  rw[l4];refine Ac (Q:=λ_ a b=>b=a) (Ac (dI (λs x=>?_) fields.toList n) λE a b _ h=>?_) ?_
  .
   apply Ac (C9 _)
   rintro a _ n-⟨rfl,-⟩;exact Ad J
  subst h;exact Ad J
  rintro E _ d O rfl;obtain⟨G,I⟩|⟨a,b,G,I,V⟩:=last E _ _ (i E (d[·]?) ((X.trans Z).trans O))
  rw[G,I];exact Ah
  rw[G,I];exact Ad (VR.agg V)
 case array n elem=>
  dsimp only
  apply Ac (C9 elem)
  rintro E _ n O⟨rfl,-⟩;obtain⟨G,I⟩|⟨a,b,G,I,V⟩:=last E _ _ (i E (λi=>A (i*n,n)) ((X.trans Z).trans O))
  rw[G,I];exact Ah
  rw[G,I];exact Ad (VR.agg V)
end
variable {u v:Vl}{X:Vl ->Vl ->Prop}{a b:Array Vl}
section
variable {α β γ δ:Type}{P:tP}{F:Nat->Prop}{L:Nat}{r:Ô}
def KT{α}(P:pG)(s:Sem α):=∀w,(∃a w1,s.run P w=.ok a w1)\/∃h w1,s.run P w=.halt h w1/\JQ h
def I5 a:KT P (pure a:Sem α):=λw=>.inl ⟨a,w,J⟩
def I8{s}{f:α->Sem β}(h:KT P s)(O:∀a,KT P (f a)):KT P (s >>= f):=λw=>by
 obtain⟨a,Z,E⟩|⟨x,Z,E,I⟩:=h w
 .
  obtain⟨b,w,G⟩|⟨x,w,G,I⟩:=O a Z
  exact .inl ⟨b,w,by simp[E,G]⟩
  exact .inr ⟨x,w,by simp[E,G],I⟩
 exact .inr ⟨x,Z,oy E,I⟩
def XK m:KT P (mark m):=λw=>.inl ⟨_,w,J⟩
def U9 (P:pG)(G E:tI):=(match P.underlying G with|some (.int _)=>sy|_=>ss)&&(match P.underlying E with|some (.int _)=>sy|_=>ss)
def aP{Z E}(G:U9 P Z E=sy)(h:VR F r u v):Ì P F L (VR F) (convert Z E u) (convert Z E v) r:=by
 unfold U9 at G;rw[Ŝ]at G;let⟨V,U⟩:=G;have I:∃k,P.underlying Z=A (.int k):=by
  split at V
  exact⟨_,‹_›⟩
  cases V
 have O:∃k,P.underlying E=A (.int k):=by
  split at U
  exact⟨_,‹_›⟩
  cases U
 let⟨a,I⟩:=I;let⟨a,O⟩:=O;unfold convert;refine Df I (Df O ?_);have Y:=h.p;cases u<;>simp only[Br]at Y
 case int k n=>subst Y;exact Ad (VR.int _ _)
 case pointer a=>cases a<;>first|exact Al (Ae (u:=.addressObserved) sk)|exact Al (Ae (u:=.noEntry _) sk)
 all_goals exact Al (Ae (u:=.noEntry _) sk)
def Tf n:Ì P F L (λ_ _ _=>True) (askRoom n) (askRoom n) r:=CL (λ_=>(λw w' G=>
  .inr ⟨(),w,r,(),w',#[⟨_,_,_⟩],J,J,λe=>J,sk,G,ĩ.I _ _ _,λe E=>(by
   simp at E
   subst E;exact .inr (.inr (.inr (.inl J)))),J,lr,λ_ _=>J⟩)) λ_=>Ad sk
def Jr (P:pG)(t:tI):Bool:=match P.underlying t with
 |some (.slice e)=>Fe P e
 |_=>sy
def gF{s}{r8 B:Option (Array Vl)}(h:Û (Ó (VR F s)) r8 B):(r8=sA/\B=sA)\/∃a b,r8=A a/\B=A b/\Ó (VR F s) a b:=by cases r8<;>cases B<;>first|exact .inl ⟨J,J⟩|exact h.elim|exact .inr ⟨_,_,J,J,h⟩
def Uo{t}(U:Jr P t=sy) len{l O:Array (Nat×Vl)}(aq:O.size=l.size)(aw:∀(j:Nat) x y,l[j]? = A x->O[j]? = A y->y.1=x.1/\VR F r x.2 y.2):Ì P F L (VR F) (zE t len l) (zE t len O) r:=by
 unfold zE;dsimp only
 apply Ac (Be t)
 rintro s _ d W⟨rfl,a⟩;unfold Jr at U;rw[a]at U;cases d<;>first|exact Ah|skip
 rename_i e
 dsimp only at U⊢
 apply Ac (C9 e)
 rintro Z _ n s⟨rfl,-⟩;refine CL (λ_=>Al (Bn (Ae sk))) λ_=>?_
 have X:∀(I:Ô)(z:Array Vl),r.d I->(∀x∈z,BV 8 x=sy)->Û (Ó (VR F I)) (As (λi=>A (i*n,n)) ((C5 (len*n)).map (z[·%z.size]!)) l.toList) (As (λi=>A (i*n,n)) ((C5 (len*n)).map (z[·%z.size]!)) O.toList):=λI z d Y=>
  UB _ l.toList O.toList _ _ (Ó.d Y) (oy aq) λj x y b a=>by
   let⟨e,i⟩:=aw j x y (sx b) (sx a);exact⟨e,i.l d⟩
 refine CL (λ_=>?_) λ_=>?_
 .
  obtain⟨G,E⟩|⟨a,b,G,E,V⟩:=gF (X Z #[] (W.trans s) sm)
  .
   apply Ac (Ad (Q:=λ_ a b=>a= #[]/\b= #[]) ⟨J,J⟩)
   rintro I _ _-⟨rfl,rfl⟩;rw[G,E];exact Ah
  apply Ac (Ad (Q:=λ_ a b=>a= #[]/\b= #[]) ⟨J,J⟩)
  rintro I _ _ Z⟨rfl,rfl⟩;rw[G,E];exact Ac (KP e (V.l λ_ _=>VR.l Z)) λ_ _ _ _ d=>Ad (VR.g d.1 _ _)
 apply Ac (D5 U)
 rintro I _ z Z⟨rfl,Y⟩;apply Ac (Ad (Q:=λ_ a b=>a=z.cells/\b=z.cells) ⟨J,J⟩)
 rintro d _ _ i⟨rfl,rfl⟩;obtain⟨G,E⟩|⟨a,b,G,E,V⟩:=gF (X d z.cells (W.trans (s.trans (Z.trans i))) (Jm Y))
 rw[G,E];exact Ah
 rw[G,E];exact Ac (KP e V) λ_ _ _ _ d=>Ad (VR.g d.1 _ _)
def Ó.e (h:Ó X a b)(i:Nat):(a[i]? = sA/\b[i]? = sA)\/∃x y,a[i]? = A x/\b[i]? = A y/\X x y:=by
 cases E:a[i]? with
 |none=>
  refine .inl ⟨J,?_⟩;rw[nx]at E⊢;rw[h.1];exact E
 |some x=>
  have G:i<b.size:=h.1▸BI E
  exact .inr ⟨x,_,J,ÿ G,h.2 _ _ _ E (ÿ G)⟩
def rC (h:VR F r u v):Ì P F L (λ_ a b=>b=a) (D3 u) (D3 v) r:=by
 have E:=h.p;cases u<;>simp[Br]at E<;>first|exact Ah|skip
 case slice=>obtain⟨_,rfl,-⟩:=E;exact Ad J
 case string=>subst E;exact Ad J
def KO size n(h:VR F r u v):Ì P F L (λt a b=>Ó (VR F t) a b) (ub size n u) (ub size n v) r:=by
 have E:=h.p;cases u<;>simp[Br]at E<;>first|exact Ah|skip
 case slice a _ _=>
  obtain⟨a',rfl,G⟩:=E;cases a<;>cases a'<;>simp[Û]at G
  exact Ad Ó.nil
  exact Pn G _
 case string b=>
  subst E;refine Ad (Ó.plain (n:=0) λx I=>?_);obtain⟨y,-,rfl⟩:=Fi.1 I;rfl
def Nf{n m}{z:Array Vl}(h:∀x∈z,BV n x=sy):∀x∈Bm z m,BV n x=true:=λx E=>by
 obtain⟨i,-,rfl⟩:=Fi.1 E;by_cases e:i%z.size<z.size
 simp_all
 rw[getElem!_neg z _ e];cases n<;>rfl
def Ó.i{c d:Array Vl}(h:Ó X a b)(I:Ó X c d):Ó X (a++c) (b++d):=by
 refine⟨by simp[h.1,I.1],λi x y G E=>?_⟩;rw[ml]at G E;rw[h.1]at E;split at G
 .
  rename_i e
  rw[Æ e]at E;exact h.2 i x y G E
 rename_i e
 rw[Ä e]at E;exact I.2 _ x y G E
def V5 a n:KT P (GP a n):=by
 refine I8 ((λw=>.inl ⟨_,w,J⟩)) λo=>?_
 cases o<;>exact I5 _
def O8 a b c(G:oA)(x:Vl):KT P (Hi a b c G x):=by
 have tail:∀E:Bool,KT P (if (!E)=sy then pure sy else(match x with|.slice (A I) _ _=>(GP I (c*a) >>= λh=>pure (!h ||G.any (·.block==I.block)))|_=>pure ss):Sem Bool):=λE=>by
  refine (λO=>by
    split
    exact((I5 _))
    exact O) ?_
  cases x<;>first|exact I5 _|skip
  rename_i a' _ _
  cases a'<;>first|exact I5 _|exact I8 (V5 _ _) λ_=>I5 _
 cases G with
 |none=>exact I8 (I5 _) λE=>tail _
 |some a'=>
  refine I8 (V5 _ _) λh=>?_
  refine I8 ((λw=>.inl ⟨_,w,J⟩)) λf=>?_
  exact I8 (I5 _) λE=>tail _
def pN:TypeDesc->Bool
 |.int _=>sy
 |_=>ss
def Py (P:pG)(E:Array tI):=(match E[1]? with|some t=>(match P.underlying t with|some (.slice _)=>sy|some .string=>sy|_=>ss)|none=>ss)&&(match E[0]? with|some t=>Jr P t|none=>sy)
def kK{O}(aj:Py P O=sy)(t:tI)(h:Ó (VR F r) a b):Ì P F L (VR F) (zq O t a) (zq O t b) r:=by
 unfold Py at aj;rw[Ŝ]at aj;let⟨E,G⟩:=aj;obtain⟨I,U,m,p,u⟩:∃I,O[1]? = A I/\∃d,P.underlying I=A d/\∀k,d≠.int k:=by
  cases U:O[1]? with
  |none=>rw[U]at E;cases E
  |some I=>
   rw[U]at E;dsimp only at E
   refine⟨I,J,?_⟩;cases ax:P.underlying I with
   |none=>rw[ax]at E;cases E
   |some d=>
    refine⟨d,J,λk e=>?_⟩;subst e;rw[ax]at E;cases E
 unfold zq;cases a0:O[0]? with
 |none=>exact Ah
 |some e=>
  rw[a0]at G;dsimp only at G
  obtain⟨Y,V⟩|⟨n,c,Y,V,k⟩:=h.e 0
  rw[Y,V];exact Ah
  obtain⟨c,d⟩|⟨c,c,c,d,v⟩:=h.e 1
  rw[Y,V,c,d];exact Ah
  rw[Y,V,c,d];dsimp only
  apply Ac (Be e)
  rintro s _ d i⟨rfl,c⟩;unfold Jr at G;rw[c]at G;cases d<;>first|exact Ah|skip
  rename_i e
  dsimp only at G⊢
  have d:=(k.l i).p;cases n<;>simp only[Br]at d<;>first|exact Ah|skip
  rename_i base n c
  obtain⟨z,rfl,q⟩:=d;dsimp only
  apply Ac (C9 e)
  rintro c _ size d⟨rfl,-⟩;rw[U];dsimp only
  apply Df p
  have c:pN m=false:=by
   cases m<;>first|rfl|exact absurd J (u _)
  apply Ac (Ad (Q:=λ_ a b=>a=ss/\b=ss) ⟨c,c⟩)
  rintro c _ _ p⟨rfl,rfl⟩;simp only[Ĭ,ę,Bool.not_false,ô,false_or];have Z:=v.l (i.trans (d.trans p));have E:=k.l (i.trans (d.trans p));apply Ac (rC Z)
  rintro c _ m c rfl;refine CL (λ_=>?_) λ_=>?_
  .
   apply Ac (KO size m (Z.l c))
   intro I u v k s;have i:=q.l λ_ _=>AR.l (d.trans (p.trans (c.trans k)))
   cases base<;>cases z<;>simp only[Û]at i
   exact Ad (VR.e ⟨_,J,sk⟩)
   dsimp only
   apply Ac (MV (i.add _) s)
   intro p _ _ d _;exact Ad (VR.g (AR.l d i) _ _)
  apply Ac (Du e)
  rintro I _ i k⟨rfl,-⟩;refine CL (λ_=>Al (Bn (Bu _))) λ_=>?_
  apply Ac (Du e)
  rintro p _ d d⟨rfl,-⟩;refine CL (λ_=>Al (Bn ?_)) λ_=>?_
  refine BU (O8 _ _ _ _ _) λq=>Iq (BU (XK _) λ_=>Ae sk) (Ae sk)
  apply Ac (PI _)
  rintro i _ cap s rfl;apply Ac (Du e)
  rintro i _ i q⟨rfl,-⟩;apply Ac (Tf _)
  intro i _ _ p _;have i:=c.trans (k.trans (d.trans (s.trans (q.trans p))));apply Ac (KO size n (E.l i))
  intro c u v c s;apply Ac (KO size m ((Z.l i).l c))
  intro c p q k d;apply Ac (D5 G)
  rintro c _ z c⟨rfl,i⟩;apply Ac (KP e ((((s.l λ_ _=>VR.l (k.trans c)).i (d.l λ_ _=>VR.l c)).i (Ó.plain (Nf (Jm i))))))
  rintro c a a'-⟨c,-⟩;exact Ad (VR.g c _ _)
end
end Go.Proofs.YtaoikkhlnhfkfaaGreatDoor
