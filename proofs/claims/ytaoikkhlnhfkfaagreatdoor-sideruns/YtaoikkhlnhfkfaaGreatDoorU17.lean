import Derived.Test.YtaoikkhlnhfkfaaGreatDoorU00
import Derived.Test.YtaoikkhlnhfkfaaGreatDoorU16
set_option linter.defProp false
set_option linter.unusedSimpArgs false
set_option linter.unusedVariables false
namespace Go.Proofs.YtaoikkhlnhfkfaaGreatDoor
open Go renaming Program->tP,MapEntry->Ec,zeroValue->AM,binOp->FS,underlying->wv,typeInfo->y9,receiverAt->LS,method->zb,runtimePanic->ym,Sem->xZ,handleType->GS
open Bool renaming true->sy,false->ss,eq_iff_iff->J6
open Option renaming some->A,bind_eq_bind->GU
open Op renaming equal->xE,equalIn->tO
open Instr renaming checkKey->yJ,sameNow->Fl,findNow->vy,findAsking->IF,findKey->yi,lookup->x5,sameBits->xi,keyThatStays->BW,mapUpdate->AF,index->GW,typeAssert->vt,panicnil->J',panic->Hj
open Pure renaming pure->tT
open Builtin renaming clear_->DD,ssaWrapNilChk_->xO
open Extern.ReflectliteType renaming toType->tx,ofRtype->xV,method->tc,elem->vj,relation->tf,implements_->vu,assignableTo->uv
variable {t:tI}{u v x y:Vl}
section
variable {α β γ δ:Type}{P:tP}{F:Nat->Prop}{L:Nat}{r:Ô}
def Y5 (P:pG)(t:tI):Bool:=match P.underlying t with
 |some .string=>sy
 |_=>ss
def XC (h:Y5 P t=sy):P.underlying t=A .string:=by
 unfold Y5 at h;split at h
 assumption
 cases h
def Mm (P:pG)(t:tI):=á P t ||Y5 P t
def Zj (E:Mm P t=sy)(h:VR F r u v)(O:VR F r x y)(V:P.globals.size<=L):Ì P F L (λ_ a b=>b=a) (xE t u x) (xE t v y) r:=by
 obtain E|E:=ł _ _▸E
 exact QN E h O V
 exact (by
  let U:=XC E;show Ì P F L (λ_ a b=>b=a) (tO _ t u x) (tO _ t v y) r
  have I:=h.p;have G:=O.p;apply Df U;cases u<;>simp[Br]at I<;>first|exact Ah|skip
  subst I;cases x<;>simp[Br]at G<;>first|exact Ah|skip
  subst G;exact Ad J)
def Q3 (E:Mm P t=sy) b G:Ì P F L (λ_ _ _=>True) (yJ b 10000 t u) (yJ G 10000 t v) r:=by
 obtain E|E:=ł _ _▸E
 let⟨k,I⟩:=Kk E;exact Df I (Ad sk)
 exact Df (XC E) (Ad sk)
def eP d(h:VR F r u v)(O:VR F r x y):Fl d v y=Fl d u x:=by
 have G:=h.p;have E:=O.p;let U:=h.d;let I:=O.d;cases u<;>simp[Br]at G
 case int=>subst G;cases x<;>simp[Br]at E<;>first|(subst E;rfl)|(cases y<;>first|(cases I;done)|(cases d<;>rfl))
 case bool=>subst G;cases x<;>simp[Br]at E<;>first|(subst E;rfl)|(cases y<;>first|(cases I;done)|(cases d<;>rfl))
 case string=>subst G;cases x<;>simp[Br]at E<;>first|(subst E;rfl)|(cases y<;>first|(cases I;done)|(cases d<;>rfl))
 all_goals (cases v<;>first|(cases U;done)|(cases d<;>rfl))
def N7 (F:Nat->Prop)(r:Ô)(es E:List Ec):=E.length=es.length/\∀(i:Nat) e e',es[i]? = A e->E[i]? = A e'->Tv F r e e'
def N7.l{s}(h:r.d s){es E}(x:N7 F r es E):N7 F s es E:=⟨x.1,λi e e' G I=>let⟨a,b,c⟩:=x.2 i e e' G I;⟨a.l h,b.l h,c⟩⟩
def N7.a{e e' es E}(h:N7 F r (e::es) (e'::E)):Tv F r e e'/\N7 F r es E:=⟨h.2 0 e e' J J,sx h.1,λi a b G I=>h.2 (i+1) a b G I⟩
def iP (F:Nat->Prop)(r:Ô)(p q:Nat×Vl):=q.1=p.1/\VR F r p.2 q.2
def Sv d{u v:Vl}(h:VR F r u v):∀(es G)(i),N7 F r es G->Û (Û (iP F r)) (vy d u es i) (vy d v G i)
 |[],[],_,_=>sk
 |e::es,e'::G,i,E=>by
  let⟨I,O⟩:=E.a;unfold vy;rw[eP d h I.1];cases Fl d u _ with
  |none=>exact sk
  |some b=>
   cases b
   exact Sv d h es _ _ O
   exact⟨J,I.2.1⟩
 |[],_::_,_,E=>nf E.1
 |_::_,[],_,E=>nf E.1
def Oo{t}(U:Mm P t=sy)(V:P.globals.size<=L):∀(es I)(i){r}{u v:Vl},VR F r u v->N7 F r es I->Ì P F L (λs a b=>Û (iP F s) a b) (IF t u es i) (IF t v I i) r
 |[],[],_,_,_,_,_,_=>Ad sk
 |e::es,e'::I,i,r,u,v,h,E=>by
  let⟨O,Y⟩:=E.a;apply Ac (Zj U h O.1 V);rintro s _ b G rfl;cases b
  exact Oo U V es _ _ (h.l G) (Y.l G)
  exact Ad ⟨J,O.2.1.l G⟩
 |[],_::_,_,_,_,_,_,E=>nf E.1
 |_::_,[],_,_,_,_,_,E=>nf E.1
def SN (O:Mm P t=sy)(U:P.globals.size<=L)(h:VR F r u v){es G}(I:N7 F r es G):Ì P F L (λs a b=>Û (iP F s) a b) (yi t u es) (yi t v G) r:=by
 refine Ac (Be t) λs _ d E⟨rfl,_⟩=>?_
 have:=Sv d (h.l E) es _ 0 (I.l E);revert this
 cases vy d u es 0<;>cases vy d v _ 0
 exact λ_=>Oo O U es _ 0 (h.l E) (I.l E)
 exact λh=>h.elim
 exact λh=>h.elim
 exact λh=>Ad h
def mP{es E:Array Ec}(O:E.size=es.size)(G:∀(i:Nat) e e',es[i]? = A e->E[i]? = A e'->Tv F r e e'):N7 F r es.toList E.toList:=⟨oy O,λi e e' U I=>G i e e' (sx U) (sx I)⟩
def ZC (P:pG)(t:tI):Bool:=match P.underlying t with
 |some (.map k e)=>Mm P k&&Fe P e
 |_=>sy
def jy (E:ZC P t=sy)(ap:P.globals.size<=L)(h:VR F r u v)(ao:VR F r x y) ok:Ì P F L (VR F) (x5 t u x ok) (x5 t v y ok) r:=by
 let Z:∀(s:Ô)(k e:tI)(c O:Array Ec)(b V:Bool),r.d s ->Mm P k=sy ->Fe P e=sy ->N7 F s c.toList O.toList ->Ì P F L (VR F)
   (yJ b 10000 k x >>= λ_=>yi k x c.toList >>= λo=>match o with|some (_,v)=>tT (v,sy) >>= λp=>tT (if ok=sy then .tuple #[p.1,.bool p.2]else p.1)|none=>AM e >>= λz=>tT (z,ss) >>= λp=>tT (if ok=sy then .tuple #[p.1,.bool p.2]else p.1))
   (yJ V 10000 k y >>= λ_=>yi k y O.toList >>= λo=>match o with|some (_,v)=>tT (v,sy) >>= λp=>tT (if ok=sy then .tuple #[p.1,.bool p.2]else p.1)|none=>AM e >>= λz=>tT (z,ss) >>= λp=>tT (if ok=sy then .tuple #[p.1,.bool p.2]else p.1)) s:=λs k e c O b V I d e i=>by
  let last:∀(s:Ô)(p q:Vl)(c:Bool),VR F s p q->VR F s (if ok=sy then .t #[p,.bool c]else p) (if ok=sy then .t #[q,.bool c]else q):=λs p q c Y=>by
   cases ok
   exact Y
   exact VR.tuple ((Ó.D Y).m (VR.bool c))
  apply Ac (Q3 d b V)
  intro b _ _ U _;apply Ac (SN d ap ((ao.l I).l U) (i.l U))
  intro c o o' _ G;cases o<;>cases o'<;>simp[Û]at G
  .
   apply Ac (D5 e)
   rintro b _ z-⟨rfl,d⟩;exact Ad (last b z z ss (VR.plain d))
  exact Ad (last c _ _ sy G.2)
 unfold x5;dsimp only
 apply Ac (Be t)
 rintro s _ d I⟨rfl,b⟩;unfold ZC at E;rw[b]at E;cases d<;>first|exact Ah|skip
 rename_i k e
 dsimp only at E⊢
 rw[Ŝ]at E;let c:=(h.l I).p;cases u<;>simp[Br]at c<;>first|exact Al (Bn (AV (h:=.stuck _) sk))|skip
 rename_i m
 obtain⟨m',rfl,b⟩:=c;cases m<;>cases m'<;>simp[Û]at b
 exact Z s k e #[] #[] _ _ I E.1 E.2 ⟨J,λi e e' h=>oF h⟩
 dsimp only
 apply Ac (IZ b)
 rintro b o o' U⟨G,-⟩;cases o<;>simp[Ĺ]at G<;>first|exact Al (Bn (AV (h:=.stuck _) sk))|exact Ah|skip
 obtain⟨O,rfl,d,c⟩:=G;exact Z b k e _ _ _ _ (I.trans U) E.1 E.2 (mP d c)
end
variable {u x v y:Vl}
section
variable {α β γ δ:Type}{P:tP}{F:Nat->Prop}{L:Nat}{r:Ô}
def Jh n(h:Eg u≠Eg x):xi n u x=false:=by cases u<;>cases x<;>first|exact absurd J h|(cases n<;>rfl)
def AR.a{a a' b G}(h:AR r a a')(ac:AR r b G):(a'==G)=(a==b):=by
 rw[J6,Ł,Ł];obtain⟨e,e,e⟩:=a;obtain⟨e,e,e⟩:=b;obtain⟨e,e,e⟩:=a';obtain⟨e,e,e⟩:=G;let⟨I,Y,O⟩:=h;let⟨E,e,Z⟩:=ac;dsimp only at I Y O E e Z
 subst Y O e Z;constructor
 .
  intro e;injection e with U O V
  subst U O V;rw[r.e _ _ _ I E]
 intro e;injection e with U O V
 subst U O V;rw[r.fn _ _ _ I E]
def U4{a a' b E:oA}(h:Û (AR r) a a')(G:Û (AR r) b E):(a'==E)=(a==b):=by
 cases a<;>cases a'<;>simp[Û]at h<;>cases b<;>cases E<;>simp[Û]at G
 rfl
 rfl
 rfl
 exact h.a G
def UC{f}(O:∀u v x y,VR F r u v->VR F r x y->f (v,y)=f (u,x)):∀(a a' b E:List Vl),a'.length=a.length->E.length=b.length->(∀(i:Nat) x y,a[i]? = A x->a'[i]? = A y->VR F r x y)->(∀(i:Nat) x y,b[i]? = A x->E[i]? = A y->VR F r x y)->(a'.zip E).all f=(a.zip b).all f
 |[],[],_,_,_,_,_,_=>J
 |_::_,_::_,[],[],_,_,_,_=>J
 |x::a,x'::a',y::b,Y::E,Z,e,V,U=>by
  simp
  rw[O x x' y Y (V 0 x x' J J) (U 0 y Y J J),UC O a a' b E (sx Z) (sx e) (λi p q G I=>V (i+1) p q G I) λi p q G I=>U (i+1) p q G I]
 |[],_::_,_,_,e,_,_,_=>nf e
 |_::_,[],_,_,e,_,_,_=>nf e
 |_,_,[],_::_,_,e,_,_=>nf e
 |_,_,_::_,[],_,e,_,_=>nf e
def Yu:∀(n){u v x y:Vl},VR F r u v->VR F r x y->xi n v y=xi n u x:=by
 intro n;induction n with
 |zero=>
  intro u v x y h V;by_cases I:Eg u=Eg x
  .
   have G:=h.p;have E:=V.p;cases u<;>cases x<;>first|(cases I;done)|skip
   all_goals simp[Br]at G E
   case pointer.pointer=>
    obtain⟨a,rfl,G⟩:=G;obtain⟨b,rfl,E⟩:=E;exact U4 G E
   case slice.slice=>obtain⟨a,rfl,-⟩:=G;obtain⟨b,rfl,-⟩:=E;rfl
   case map.map=>obtain⟨a,rfl,-⟩:=G;obtain⟨b,rfl,-⟩:=E;rfl
   case func.func=>obtain⟨a,_,rfl,-⟩:=G;obtain⟨b,_,rfl,-⟩:=E;rfl
   case iface.iface=>obtain⟨a,rfl,-⟩:=G;obtain⟨b,rfl,-⟩:=E;rfl
   case agg.agg=>obtain⟨a,rfl,-⟩:=G;obtain⟨b,rfl,-⟩:=E;rfl
   case tuple.tuple=>obtain⟨a,rfl,-⟩:=G;obtain⟨b,rfl,-⟩:=E;rfl
   all_goals (subst G;subst E;rfl)
  rw[Jh 0 I,Jh 0 (h.d▸V.d▸I)]
 |succ n Y=>
  intro u v x y h V;by_cases I:Eg u=Eg x
  .
   have G:=h.p;have E:=V.p;cases u<;>cases x<;>first|(cases I;done)|skip
   all_goals simp[Br]at G E
   case pointer.pointer=>
    obtain⟨a,rfl,G⟩:=G;obtain⟨b,rfl,E⟩:=E;exact U4 G E
   case slice.slice=>obtain⟨a,rfl,-⟩:=G;obtain⟨b,rfl,-⟩:=E;rfl
   case map.map=>obtain⟨a,rfl,-⟩:=G;obtain⟨b,rfl,-⟩:=E;rfl
   case func.func=>obtain⟨a,_,rfl,-⟩:=G;obtain⟨b,_,rfl,-⟩:=E;rfl
   case tuple.tuple=>obtain⟨a,rfl,-⟩:=G;obtain⟨b,rfl,-⟩:=E;rfl
   case iface.iface t u s x=>
    obtain⟨a,rfl,G⟩:=G;obtain⟨b,rfl,E⟩:=E;show(t==s&&xi n a b)=(t==s&&xi n u x)
    rw[Y G E]
   case agg.agg u x=>
    obtain⟨a,rfl,G⟩:=G;obtain⟨b,rfl,E⟩:=E;show(a.size==b.size&&(a.toList.zip b.toList).all λp=>xi n p.1 p.2)=(u.size==x.size&&(u.toList.zip x.toList).all λp=>xi n p.1 p.2)
    rw[G.1,E.1,UC (F:=F) (r:=r) (λ_ _ _ _ O U=>Y O U) u.toList a.toList x.toList b.toList (oy G.1) (oy E.1) (λi p q O U=>G.2 i p q (sx O) (sx U)) λi p q O U=>E.2 i p q (sx O) (sx U)]
   all_goals (subst G;subst E;rfl)
  rw[Jh _ I,Jh _ (h.d▸V.d▸I)]
def Rz (h:VR F r u v)(G:VR F r x y):Ì P F L (VR F) (BW u x) (BW v y) r:=by
 unfold BW;rw[Yu _ h G];refine CL ?_ ?_
 exact λ_=>Ad G
 intro _;apply Ac (PI _);rintro s _ c I rfl;apply Ad;by_cases E:c=0
 rw[Æ E,Æ E];exact G.l I
 rw[Ä E,Ä E];exact h.l I
def fE{es I:Array Ec}(ac:I.size=es.size)(V:∀(i:Nat) e e',es[i]? = A e->I[i]? = A e'->Tv F r e e') i{k Y v':Vl}(aa:VR F r k Y)(ab:VR F r v v'):(I.modify i λe=>{e with key:=Y,val:=v'}).size=(es.modify i λe=>{e with key:=k,val:=v}).size/\∀(j:Nat) e e',(es.modify i λe=>{e with key:=k,val:=v})[j]? = A e->(I.modify i λe=>{e with key:=Y,val:=v'})[j]? = A e'->Tv F r e e':=by
 refine⟨oy ac,λj e e' E G=>?_⟩;rw[π]at E G;by_cases Z:i=j
 .
  rw[Æ Z]at E G;cases O:es[j]? with
  |none=>rw[O]at E;cases E
  |some a=>
   cases U:I[j]? with
   |none=>rw[U]at G;cases G
   |some b=>
    rw[O]at E;rw[U]at G;cases E
    cases G
    exact⟨aa,ab,(V j a b O U).2.2⟩
 rw[Ä Z]at E G;exact V j e e' E G
def qG{es G:Array Ec}(O:G.size=es.size)(V:∀(i:Nat) e e',es[i]? = A e->G[i]? = A e'->Tv F r e e'){e e'}(Y:Tv F r e e'):(G.push e').size=(es.push e).size/\∀(j:Nat) a b,(es.push e)[j]? = A a->(G.push e')[j]? = A b->Tv F r a b:=by
 refine⟨oy O,λj a b I E=>?_⟩;rw[Β]at I E;rw[O]at E;by_cases U:j=es.size
 simp_all
 rw[Ä U]at I E;exact V j a b I E
def jw{es E:Array Ec}(U:E.size=es.size)(O:∀(i:Nat) e e',es[i]? = A e->E[i]? = A e'->Tv F r e e')(i:Nat)(V:VR F r x y):VR F r (((es[i]?).map (·.key)).getD x) (((E[i]?).map (·.key)).getD y):=by
 cases I:es[i]? with
 |none=>
  simp_all
 |some a=>
  let G:i<E.size:=U▸BI I
  rw[ÿ G];exact(O i a _ I (ÿ G)).1
def R4 (P:pG)(t:tI):Bool:=match P.underlying t with
 |some (.map k _)=>Mm P k
 |_=>sy
def Pj{t}(U:R4 P t=sy)(aC:P.globals.size<=L){p q:Vl}(h:VR F r u v)(V:VR F r x y)(an:VR F r p q):Ì P F L (λ_ _ _=>True) (AF t u x p) (AF t v y q) r:=by
 unfold AF;apply Ac (Be t)
 rintro s _ d i⟨rfl,e⟩;unfold R4 at U;rw[e]at U;cases d<;>first|exact Ah|skip
 rename_i k e
 dsimp only at U⊢
 let d:=(h.l i).p;cases u<;>simp[Br]at d<;>first|exact Ah|skip
 rename_i m
 obtain⟨m',rfl,Y⟩:=d;cases m<;>cases m'<;>simp[Û]at Y
 exact Al (Bu _)
 dsimp only
 apply Ac (IZ Y)
 rintro d o o' W⟨E,-⟩;cases o<;>simp[Ĺ]at E<;>first|exact Ah|skip
 rename_i d clock
 obtain⟨d,rfl,Z,d⟩:=E;dsimp only
 apply Ac (Q3 U ss ss)
 intro e _ _ G _;let e:=(i.trans W).trans G;let i:=(mP Z d).l G;apply Ac (SN U aC (V.l e) i)
 intro k o o' I E;let O:=e.trans I;let s:∀(i:Nat) e e',_->_->Tv F k e e':=λi e e' m X=>let⟨a,b,c⟩:=d i e e' m X;⟨a.l (G.trans I),b.l (G.trans I),c⟩
 cases o<;>cases o'<;>simp[Û]at E
 have:=qG Z s (e:=⟨x,p,clock⟩) (e':=⟨y,q,clock⟩) ⟨V.l O,an.l O,J⟩;exact Pq (((W.trans G).trans I) _ _ Y) ⟨_,J,this.1,this.2⟩
 rename_i a b
 let⟨i,a⟩:=a;let⟨o,b⟩:=b;obtain⟨E,-⟩:=E;dsimp only at E
 subst E;dsimp only
 apply Ac (Rz (jw Z s o (V.l O)) (V.l O))
 intro m k d d k;let E:∀(i:Nat) e e',_->_->Tv F m e e':=λi e e' m X=>let⟨a,b,c⟩:=s i e e' m X;⟨a.l d,b.l d,c⟩
 have:=fE Z E o k (an.l (O.trans d));exact Pq (((W.trans G).trans (I.trans d)) _ _ Y) ⟨_,J,this.1,this.2⟩
def R9 (P:pG)(E:Array tI):Bool:=match E[0]? with
 |some t=>(match P.underlying t with
  |some (.map _ _)=>sy
  |some (.slice e)=>Fe P e
  |_=>sy)
 |none=>sy
def qR{G}(E:R9 P G=sy)(t:tI){a b:Array Vl}(h:Ó (VR F r) a b):Ì P F L (VR F) (DD G t a) (DD G t b) r:=by
 unfold DD;unfold R9 at E;cases aj:G[0]? with
 |none=>exact Ah
 |some al=>
  rw[aj]at E;obtain⟨aa,O⟩|⟨x,y,aa,O,e⟩:=h.e 0
  rw[aa,O];exact Ah
  rw[aa,O];dsimp only at E⊢
  apply Ac (Be al)
  rintro s _ d m⟨rfl,c⟩;rw[c]at E;let last:∀(s:Ô),Ì P F L (VR F) (tT (.t #[])) (tT (.t #[])) s:=λs=>Ad (VR.tuple ⟨J,λi x y I _=>oF I⟩)
  let U:=(e.l m).p;cases x<;>simp[Br]at U
  case map m=>
   obtain⟨m',rfl,Y⟩:=U;cases m<;>cases m'<;>simp[Û]at Y
   exact last s
   cases d
   all_goals
    apply Ac (IZ Y)
    rintro ak o o' V⟨ab,-⟩;cases o<;>simp[Ĺ]at ab<;>first|exact Al (Bn (AV (h:=.stuck _) sk))|skip
    obtain⟨e,rfl,e,e⟩:=ab;apply Ac (Pq (V _ _ Y) ⟨#[],J,J,λi e e' I _=>oF I⟩)
    exact λZ _ _ _ _=>last Z
  case slice x n c=>
   obtain⟨y,rfl,ac⟩:=U;cases x<;>cases y<;>simp[Û]at ac
   cases d<;>exact last s
   cases n with
   |zero=>cases d<;>exact last s
   |succ n=>
    cases d
    case slice elem=>
     dsimp only at E⊢
     apply Ac (D5 E)
     rintro ak _ z V⟨rfl,am⟩;apply Ac (MV (AR.l V ac) (Ó.plain (Nf (Jm am))))
     exact λZ _ _ _ _=>last Z
    all_goals exact Al (Bn (AV (h:=.stuck _) sk))
  all_goals (cases d<;>exact Al (Bn (AV (h:=.stuck _) sk)))
def rz (h:VR F r u v)(V:VR F r x y)(t:tI):Ì P F L (VR F) (GW t u x) (GW t v y) r:=by
 unfold GW;apply Ac (Lh V)
 rintro s _⟨k,i⟩O rfl;dsimp only
 apply Ac (Be t)
 rintro c _ d G⟨rfl,Y⟩;have E:=(h.l (O.trans G)).p;cases u<;>simp[Br]at E
 case agg c=>
  obtain⟨c,rfl,U⟩:=E;cases d
  case array len elem=>
   dsimp only
   refine CL (λ_=>?_) λ_=>Al (Hw _ _ _ _)
   apply Ac (C9 elem)
   rintro Z _ n I⟨rfl,-⟩;exact VF (Ó.l (λ_ _=>VR.l I) U) _ _
  all_goals exact Ah
 case string c=>
  subst E;cases d
  case string=>
   dsimp only
   cases (if 0<=i then c[i.toNat]? else none)
   exact Al (Hw _ _ _ _)
   exact Ad (VR.int ..)
  all_goals exact Ah
 all_goals (cases d<;>exact Ah)
end
variable {op:BinOp}{u v:Vl}{t:tI}
section
variable {α β γ δ:Type}{P:tP}{F:Nat->Prop}{L:Nat}{r:Ô}
def X6 op k E a b:Ì P F L (VR F) (Op.shift op k a E b) (Op.shift op k a E b) r:=by
 unfold Op.shift;split
 exact Al (Bu _)
 cases op<;>first|exact Ah|exact Ad (VR.int ..)
def nJ:BinOp->Bool
 |.shl|.shr=>sy
 |_=>ss
def Yt (I:nJ op=sy)(t:tI){p q:Vl}(h:VR F r u v)(U:VR F r p q):Ì P F L (VR F) (FS op t u p) (FS op t v q) r:=by
 have G:=h.p;have E:=U.p;let O:op=.shl\/op=.shr:=by cases op<;>first|exact .inl J|exact .inr J|cases I
 obtain rfl|rfl:=O
 all_goals
  cases u<;>simp[Br]at G
  case int k a=>
   subst G;cases p<;>simp[Br]at E
   case int k' b=>
    subst E
    first|exact X6 .shl k k' a b|exact X6 .shr k k' a b
   case pointer=>exact Al (Ae sk)
   all_goals exact Ah
  case pointer=>cases p<;>exact Al (Ae sk)
  case string a=>
   subst G;cases p<;>simp[Br]at E
   case string b=>
    subst E
    first|exact MB .shl a b|exact MB .shr a b
   case pointer=>exact Al (Ae sk)
   all_goals exact Ah
  all_goals (cases p<;>first|exact Ah|exact Al (Ae sk))
def Qj (P:pG)(t:tI):Bool:=match P.underlying t with
 |some (.slice _)=>sy
 |_=>ss
def VN:Operand->Bool
 |.const (.sn)=>sy
 |_=>ss
def vY:BinOp->Bool
 |.eql|.neq=>sy
 |_=>ss
def QZ (E:Qj P t=sy)(h:VR F r u v):Ì P F L (λ_ a b=>b=a) (xE t u (.sn)) (xE t v (.sn)) r:=by
 obtain⟨e,O⟩:∃e,P.underlying t=A (.slice e):=by
  unfold Qj at E;split at E
  exact⟨_,‹_›⟩
  cases E
 show Ì P F L _ (tO _ t u _) (tO _ t v _) r
 apply Df O;let G:=h.p;cases u<;>simp[Br]at G
 case slice a n c=>
  obtain⟨a',rfl,I⟩:=G;cases a<;>cases a'<;>simp[Û]at I<;>exact Ad J
 all_goals exact Ah
def ZB (Y:vY op=sy)(ab:Qj P t=sy)(h:VR F r u v):Ì P F L (VR F) (FS op t u (.sn)) (FS op t v (.sn)) r:=by
 let main:=QZ (F:=F) (L:=L) (r:=r) ab h;let I:=h.p;let O:Eg u≠2:=λe=>by cases u<;>first|exact I|cases e
 let U:Eg u≠3:=λe=>by cases u<;>first|exact I|cases e
 let⟨Z,e⟩:=Ć (t:=t) u (.sn) (λ⟨k,a,c,b,G,E⟩=>nf E) (λ⟨a,b,G,E⟩=>nf E) O U;let⟨V,I⟩:=Ć (t:=t) v (.sn) (λ⟨k,a,c,b,G,E⟩=>nf E) (λ⟨a,b,G,E⟩=>nf E) (h.d▸O) (h.d▸U);let a:op=.eql\/op=.neq:=by cases op<;>first|exact .inl J|exact .inr J|cases Y
 obtain rfl|rfl:=a
 .
  rw[Z,V];apply Ac main
  rintro s _ c-rfl;exact Ad (VR.bool _)
 rw[e,I];apply Ac main;rintro s _ c-rfl;exact Ad (VR.bool _)
def Rc{T:Tables}{i}(h:T.info? t=A i):(∃n:Nat,T.types[n]? = A i)\/i.methods= #[]:=by
 unfold Tables.info? at h;split at h
 exact .inl ⟨t,h⟩
 right
 unfold Made.depth at h;rw[Made.infoAt]at h;split at h
 .
  rename_i d e
  cases d e
 obtain⟨d,-,h⟩:=lk.1 h;unfold Made.reckon at h;cases d<;>simp[GU,lk,Option.pure_def,k6,reduceCtorEq]at h
 case pointer e=>
  obtain⟨j,-,h⟩:=h
  (repeat' split at h)<;>first|(cases h;done)|(obtain⟨_,-,h⟩:=lk.1 h;cases h;rfl)
 case slice e=>obtain⟨_,-,_,-,rfl⟩:=h;rfl
 case func=>obtain⟨_,-,rfl⟩:=h;rfl
 case chan=>obtain⟨_,-,_,-,rfl⟩:=h;rfl
 case array=>obtain⟨_,-,_,-,rfl⟩:=h;rfl
 case map=>obtain⟨_,-,_,-,_,-,_,-,rfl⟩:=h;rfl
 case struct=>
  unfold Made.reckonStruct at h;simp only[GU,lk]at h;obtain⟨_,-,h⟩:=h
  (repeat' split at h)<;>(cases h;rfl)
def Mw (P:pG)(E:Nat->Bool)(name:String):=P.types.all λi=>match i.methods.find? (·.name==name)with
 |none=>sy
 |some m=>(m.path.toList.all λs=>!s.deref)&&(match m.func with|some (f,_)=>E f|none=>ss)
def Tj q(w:M):(∃a w1,(choose q).run P w=.ok a w1)\/∃h w1,(choose q).run P w=.halt h w1/\JQ h:=by
 left
 cases E:q.forced
 exact⟨_,_,by simp[E];exact⟨J,J⟩⟩
 exact⟨_,_,by simp[E];exact⟨J,J⟩⟩
def Nk (t:tI)(w:M):(∃a w1,(wv t).run P w=.ok a w1)\/∃h w1,(wv t).run P w=.halt h w1/\JQ h:=by
 unfold wv;cases E:P.underlying t with
 |none=>exact .inr ⟨.stuck _,w,by simp[E];rfl,sk⟩
 |some d=>exact .inl ⟨_,w,by simp[E];rfl⟩
def O7 (t:tI)(w:M):(∃a w1,(y9 t).run P w=.ok a w1)\/∃h w1,(y9 t).run P w=.halt h w1/\JQ h:=by
 unfold y9;cases E:P.info? t with
 |none=>exact .inr ⟨.stuck _,w,by simp[E];rfl,sk⟩
 |some d=>exact .inl ⟨_,w,by simp[E];rfl⟩
def gN (E:Array tI)(t:tI)(h:VR F r u v)(a b:Vl):Ì P F L (VR F) (xO E t #[u,a,b]) (xO E t #[v,a,b]) r:=by
 unfold xO;cases a<;>first|exact Ah|skip
 cases b<;>first|exact Ah|skip
 dsimp only
 let G:=h.p;cases u<;>simp[Br]at G
 case pointer a=>
  obtain⟨a',rfl,I⟩:=G;cases a<;>cases a'<;>simp[Û]at I
  .
   refine Al (BU (Tj _) λc=>Iq (Bn (Bu _)) ?_);cases E[0]? with
   |none=>exact AV (h:=.stuck _) sk
   |some O=>
    refine BU (Nk _) λd=>?_
    cases d<;>first|exact AV (h:=.stuck _) sk|skip
    refine BU (O7 _) λi=>?_
    split
    .
     split
     .
      split
      exact Bu _
      exact Ae sk
     exact AV (h:=.stuck _) sk
    exact AV (h:=.stuck _) sk
  exact Ad (VR.e ⟨_,J,I⟩)
 all_goals exact Ah
def UF (t:tI) p o(h:VR F r u v):Ì P F L (VR F) (LS t (.val u) p o) (LS t (.val v) p o) r:=by
 unfold LS;apply Ac (Be t)
 rintro s _ d G⟨rfl,-⟩;cases d<;>cases p
 case pointer.true=>exact Ad (h.l G)
 case pointer.false elem=>
  apply Ac (Q:=VR F) (Ad (h.l G))
  intro Y a b V I;cases o with
  |none=>
   apply Ac (Q:=VR F) (Ad I)
   intro O x y _ E;apply Ac (Mq E)
   intro U x y _ E;exact FU E elem
  |some m=>
   apply Ac (gN _ _ I _ _)
   intro O x y _ E;refine Ac (Mq E) λU x y _ E=>?_
   exact FU E _
 all_goals first|exact Ah|exact Ad (h.l G)
def U5:∀(l)(t:tI){r}{u v:Vl},(l.all λs=>!s.deref)=sy->VR F r u v->Ì P F L (λs a b=>b.1=a.1/\∃x y,a.2=Place.val x/\b.2=Place.val y/\VR F s x y) (follow l t (.val u)) (follow l t (.val v)) r
 |[],t,r,u,v,_,h=>Ad ⟨J,u,v,J,J,h⟩
 |s::rest,t,r,u,v,E,h=>by
  rw[List.all_cons,Ŝ]at E;let I:s.deref=false:=sx E.1
  unfold follow;apply Ac (Be s.struct)
  rintro Z _ d U⟨rfl,-⟩;cases d<;>first|exact Ah|skip
  rename_i fields
  dsimp only
  cases fields[s.index]? with
  |none=>exact Ah
  |some f=>
   rw[I];let G:=(h.l U).p;cases u<;>simp[Br]at G<;>first|exact Ah|skip
   obtain⟨b,rfl,V⟩:=G;refine Ac (VF V _ _) λY x y _ O=>?_
   exact U5 _ _ E.2 O
def lY{E name}(ai:Mw P E name=sy)(h:VR F r u v) n:Ì P F L (λs a b=>b.1=a.1/\E a.1=sy/\VR F s a.2 b.2) (zb n t u name) (zb n t v name) r:=by
 cases n with
 |zero=>exact Al (Ae sk)
 |succ n=>
  unfold zb;apply Ac (Du t)
  rintro s _ i y⟨rfl,ac⟩;let x:∀m,i.methods.find? (·.name==name)=A m->(m.path.toList.all λs=>!s.deref)=sy/\∃f p,m.func=A (f,p)/\E f=true:=λm e=>by
   obtain⟨k,V⟩|f:=Rc ac
   .
    have:=jo.1 ai i (ŵ V);rw[e]at this;dsimp only at this
    rw[Ŝ]at this;refine⟨this.1,?_⟩;cases G:m.func with
    |none=>rw[G]at this;cases this.2
    |some q=>rw[G]at this;exact⟨q.1,q.2,J,this.2⟩
   rw[f]at e;cases e
  cases e:i.methods.find? (·.name==name)with
  |none=>exact Ah
  |some m=>
   obtain⟨Y,f,p,O,f⟩:=x m e;dsimp only
   rw[O];apply Ac (U5 _ t Y (h.l y))
   intro ao⟨av,ap⟩ ⟨I,ax⟩aq⟨k,x,y,Z,e,i⟩;subst k Z e;refine Ac (UF I p _ i) λaw a b _ U=>?_
   exact Ad ⟨J,f,U⟩
end
variable {u v x x':Vl}{X:Vl ->Vl ->Prop}{b:Array Vl}
section
variable {α β γ δ:Type}{P:tP}{F:Nat->Prop}{L:Nat}{r:Ô}
def VW{t E:tI}(ac:Fe P E=sy) ok(h:VR F r u v):Ì P F L (VR F) (vt u t E ok) (vt v t E ok) r:=by
 let U:∀(s:Ô)(x y:Vl),VR F s x y->Ì P F L (VR F) (tT (if ok=sy then .t #[x,.bool sy]else x)) (tT (if ok=sy then .t #[y,.bool sy]else y)) s:=λs x y O=>by
  cases ok
  exact Ad O
  exact Ad (VR.tuple ((Ó.D O).m (VR.bool sy)))
 let fails:∀(s:Ô)(a b:Option tI)(m:String),Ì P F L (VR F) (if ok=sy then AM E >>= λz=>tT (.t #[z,.bool ss])else ym (.typeAssertion a b E m)) (if ok=sy then AM E >>= λz=>tT (.t #[z,.bool ss])else ym (.typeAssertion a b E m)) s:=λs a b m=>by
  cases ok
  rw[Ä dc];exact Al (Bu _)
  rw[Æ J];apply Ac (D5 ac)
  rintro G _ z-⟨rfl,Y⟩;exact Ad (VR.tuple ((Ó.D (VR.plain Y)).m (VR.bool ss)))
 unfold vt;dsimp only
 apply Ac (Be E)
 rintro s _ d a⟨rfl,b⟩;let V:=h.l a;have I:=V.p;cases u<;>simp[Br]at I
 case nilIface=>
  subst I;cases d<;>exact fails s _ _ _
 case iface a w=>
  obtain⟨w',rfl,Z⟩:=I;cases d
  case interface want=>
   dsimp only
   apply Ac (Du a)
   rintro G _ i a⟨rfl,-⟩;cases Instr.missingMethod _ _ with
   |none=>exact U G _ _ (V.l a)
   |some m=>exact fails G _ _ _
  all_goals exact CL (λ_=>U s _ _ Z) λ_=>fails s _ _ _
 all_goals (cases d<;>exact Ah)
def Pb (w:M):(∃a w1,(J').run P w=.ok a w1)\/∃h w1,(J').run P w=.halt h w1/\JQ h:=by
 revert w
 refine I8 (λw=>.inl ⟨_,_,J⟩) λx=>?_
 cases x<;>first|exact λw=>.inl ⟨_,_,J⟩|exact λw=>.inr (((AV (h:=.stuck _) sk)) w)
def qI (h:VR F r u v):Ì P F L (VR F) (Hj u) (Hj v) r:=by
 cases u
 case iface=>exact Al (AV (h:=.panic _) sk)
 case nilIface=>exact Al (BU Pb λb=>Iq (AV (h:=.panic _) sk) (Bu _))
 all_goals exact Ah
def æ{α}(P:pG)(s:xZ α):=(∃a,∀w,s.run P w=.ok a w/\∀es,s.events P w es=es)\/Gm P s
def Cv a:æ P (tT a:xZ α):=.inl ⟨a,λw=>⟨J,λw=>sm⟩⟩
def Bt{s}{f:α->xZ β}(h:æ P s)(I:∀a,æ P (f a)):æ P (s >>= f):=by
 obtain⟨a,h⟩|h:=h
 .
  obtain⟨b,k⟩|k:=I a
  exact .inl ⟨b,λw=>⟨by simp[(h w).1,(k w).1],λb=>by simp[(h w).1,(h w).2,(k w).2]⟩⟩
  refine .inr λw=>?_
  let⟨x,b,E,G⟩:=k w;exact⟨x,b,by simp[(h w).1,E],G⟩
 exact .inr (Bn h)
def IQ{s:xZ α}(h:Gm P s):æ P s:=.inr h
def Gs{c} [Decidable c] {s t:xZ α}(h:æ P s)(E:æ P t):æ P (if c then s else t):=by
 split
 exact h
 exact E
def Ey:æ P program:=.inl ⟨P,λw=>⟨J,λw=>sm⟩⟩
def P6{m}:æ P (stuck m:xZ α):=.inr (AV (h:=.stuck m) sk)
def Fj (t:tI):æ P (y9 t):=by
 refine Bt Ey λp=>?_
 cases p.info? t
 exact P6
 exact Cv _
def D9{s:xZ α}(h:æ P s):Ì P F L (λ_ a b=>b=a) s s r:=λw w' E=>by
 obtain⟨a,h⟩|h:=h
 exact .inr ⟨a,w,r,a,w',#[],(h w).1,(h w').1,λt=>oy (h w').2,J,E,ĩ.I ..,sm,J,lr,λt _=>(h _).1⟩
 exact .inl (h w)
open Extern.Rtype
def FI m(t:tI):æ P (noPack m t):=by refine Bt Ey λp=>Gs (IQ (Ae sk)) (Cv _)
def D8 m(t:tI):æ P (noPackMethods m t):=by refine Bt Ey λp=>Bt Ey λq=>Gs (IQ (Ae sk)) (Cv _)
def I6 (t:tI):æ P (under t):=by
 refine Bt (Fj t) λi=>?_
 split
 exact Bt (Fj _) λ_=>Cv _
 exact Cv _
def I1 (t:tI):æ P (kind t):=by
 refine Bt (I6 t) λi=>?_
 dsimp only
 split<;>first|exact Cv _|exact P6
def OJ (t:tI):æ P (elem? t):=by
 refine Bt (I6 t) λi=>?_
 split<;>exact Cv _
def GH (t u:tI):æ P (implements t u):=by
 refine Bt (D8 ..) λ_=>Bt (D8 ..) λ_=>Bt (I6 _) λa=>Bt (I6 _) λb=>?_
 split
 exact Cv _
 exact Bt (Fj _) λ_=>Cv _
 exact Cv _
def Q6 (t:tI):æ P (hasName t):=by
 refine Bt (Fj t) λi=>?_
 split<;>exact Cv _
def LB (t u:tI):æ P (directlyAssignable t u):=by
 unfold directlyAssignable;dsimp only
 refine Gs (Cv _) (Bt (Q6 _) λa=>Bt (Q6 _) λb=>Gs (Cv _) (Bt (I6 _) λx=>Bt (I6 _) λy=>?_));split<;>exact Cv _
def IY (t:tI):æ P (spelt t):=by
 refine Bt ((by refine Bt Ey λp=>Bt Ey λq=>Gs (IQ (Ae sk)) (Cv _))) λ_=>?_
 exact Bt (Fj t) λi=>Gs (IQ (Ae sk)) (Cv _)
def Mj m:æ P (cutType m):=by
 refine Bt Ey λp=>?_
 split
 exact Cv _
 exact P6
def Dl m:Gm P (panicString m:xZ α):=BU (λw=>.inl ⟨P,w,J⟩) λ_=>AV sk
def VR.handle (h:r.rel P.globals.size P.globals.size)(t:tI):VR F r (typeHandle P t) (typeHandle P t):=VR.e ⟨_,J,h,J,J⟩
def Vx (h:r.rel P.globals.size P.globals.size)(t:tI):Ì P F L (VR F) (handle t) (handle t) r:=CZ (Ad (VR.handle h t))
def VO (h:r.rel P.globals.size P.globals.size)(I:VR F r u v):GS P v=GS P u:=by
 let G:=I.p;let O:=I.d;cases u<;>simp[Br]at G
 case pointer a=>
  obtain⟨a',rfl,E⟩:=G;cases a<;>cases a'<;>simp[Û]at E
  rfl
  rename_i a b
  unfold GS;have:(b.block==P.globals.size)=(a.block==P.globals.size):=by
   rw[J6,Ł,Ł];constructor
   intro e;exact r.e _ _ _ (e▸E.1) h
   intro e;exact r.fn _ _ _ (e▸E.1) h
  dsimp only
  rw[this,E.2.1]
 all_goals (cases v<;>first|(cases O;done)|rfl)
def MI (h:r.rel P.globals.size P.globals.size)(E:VR F r u v):Ì P F L (λ_ a b=>b=a) (ofHandle u) (ofHandle v) r:=by
 apply CZ;rw[VO h E];cases GS P u
 exact Ah
 exact Ad J
def Ó.a (h:Ó X #[x] b):∃y,b= #[y]/\X x y:=by
 let⟨l⟩:=b
 match l,h.1,h with
 |[y],_,h=>exact⟨y,J,h.2 0 x y J J⟩
def Ó.j (h:Ó X #[x,x'] b):∃y E,b= #[y,E]/\X x y/\X x' E:=by
 let⟨l⟩:=b
 match l,h.1,h with
 |[y,E],_,h=>exact⟨y,E,J,h.2 0 x y J J,h.2 1 x' E J J⟩
def Ó.k{U:Vl}(h:Ó X #[x,x',U] b):∃y G E,b= #[y,G,E]/\X x y/\X x' G/\X U E:=by
 let⟨l⟩:=b
 match l,h.1,h with
 |[y,G,E],_,h=>exact⟨y,G,E,J,h.2 0 x y J J,h.2 1 x' G J J,h.2 2 U E J J⟩
def PV (h:r.rel P.globals.size P.globals.size)(t:tI):Ì P F L (VR F) (tx t) (tx t) r:=by
 apply Ac (D9 (Mj _));rintro s _ c G rfl;apply Ac (Vx (G _ _ h) t);intro I a b _ E;exact Ad (VR.e ⟨_,J,VR.e ⟨_,J,Ó.D E⟩⟩)
def NU (h:r.rel P.globals.size P.globals.size)(I:VR F r u v):Ì P F L (λ_ a b=>b=a) (xV u) (xV v) r:=by
 let G:=I.p;cases u<;>simp[Br]at G<;>first|exact Ah|skip
 rename_i c
 obtain⟨b,rfl,E⟩:=G;let⟨l⟩:=c
 match l,E with
 |[],_=>exact Ah
 |[x],E=>
  obtain⟨y,rfl,O⟩:=E.a;show Ì P F L _ _ _ r
  apply Ac (MI h O);rintro s _ t _ rfl;refine Ac (D9 (FI _ t)) λ_ _ _ _ _=>?_
  exact Ad J
 |_::_::_,_=>exact Ah
def QG{x:Array Vl->xZ Vl}(G:∀l,l.length≠1->Gm P (x ⟨l⟩))(h:∀(r)(u v:Vl),r.rel P.globals.size P.globals.size->VR F r u v->Ì P F L (VR F) (x #[u]) (x #[v]) r) r(a b:Array Vl)(O:r.rel P.globals.size P.globals.size)(E:Ó (VR F r) a b):Ì P F L (VR F) (x a) (x b) r:=by
 let⟨l⟩:=a
 match l,E with
 |[],_=>exact Al (G _ sm)
 |[u],E=>
  obtain⟨v,rfl,I⟩:=E.a;exact h r u v O I
 |_::_::_,_=>exact Al (G _ sm)
def nk{x:Array Vl->xZ Vl}(G:∀l,l.length≠2->Gm P (x ⟨l⟩))(h:∀(r)(u v p q:Vl),r.rel P.globals.size P.globals.size->VR F r u v->VR F r p q->Ì P F L (VR F) (x #[u,p]) (x #[v,q]) r) r(a b:Array Vl)(O:r.rel P.globals.size P.globals.size)(E:Ó (VR F r) a b):Ì P F L (VR F) (x a) (x b) r:=by
 let⟨l⟩:=a
 match l,E with
 |[],_=>exact Al (G _ sm)
 |[_],_=>exact Al (G _ sm)
 |[u,p],E=>
  obtain⟨v,q,rfl,U,I⟩:=E.j;exact h r u v p q O U I
 |_::_::_::_,_=>exact Al (G _ sm)
def jW{f:tI->xZ Vl}(I:∀(r)(t),r.rel P.globals.size P.globals.size->Ì P F L (VR F) (f t) (f t) r):∀(r)(a b:Array Vl),r.rel P.globals.size P.globals.size->Ó (VR F r) a b->Ì P F L (VR F) (tc f a) (tc f b) r:=by
 refine QG (λl E=>?_) λr u v G h=>?_
 .
  match l,E with
  |[],_=>exact AV (h:=.stuck _) sk
  |[_],E=>cases E J
  |_::_::_,_=>exact AV (h:=.stuck _) sk
 apply Ac (NU G h);rintro s _ t O rfl;exact I s t (O _ _ G)
def Yp:∀(r)(a b:Array Vl),r.rel P.globals.size P.globals.size->Ó (VR F r) a b->Ì P F L (VR F) (tc vj a) (tc vj b) r:=by
 refine jW λr t G=>?_
 apply Ac (D9 (OJ t));rintro s _ o E rfl;cases o with
 |some e=>exact PV (E _ _ G) e
 |none=>
  refine Ac (D9 (IY t)) λ_ _ _ _ _=>?_
  exact Al (Dl _)
def Rk m{f:tI->tI->xZ Bool}(Y:∀t u,æ P (f t u)):∀(r)(a b:Array Vl),r.rel P.globals.size P.globals.size->Ó (VR F r) a b->Ì P F L (VR F) (tf m f a) (tf m f b) r:=by
 refine nk (λl E=>?_) λr u v p q G h U=>?_
 .
  match l,E with
  |[],_=>exact AV (h:=.stuck _) sk
  |[_],_=>exact AV (h:=.stuck _) sk
  |[_,_],E=>cases E J
  |_::_::_::_,_=>exact AV (h:=.stuck _) sk
 let I:=U.p;cases p<;>simp[Br]at I<;>first|exact Ah|skip
 case nilIface=>exact Al (Dl _)
 case iface t w=>
  obtain⟨w',rfl,V⟩:=I;apply Ac (NU G V)
  rintro s _ t O rfl;apply Ac (NU (O _ _ G) (h.l O))
  rintro c _ Z c rfl;apply Ac (D9 (Y ..))
  rintro c _ c _ rfl;exact Ad (VR.bool c)
def LG (t u:tI):æ P (vu t u):=by
 refine Bt (I1 t) λk=>?_
 exact Gs (IQ (Bn (Dl _))) (Bt (D8 ..) λ_=>Bt (FI ..) λ_=>GH t u)
def K6 (t u:tI):æ P (uv t u):=by
 let rest:æ P (directlyAssignable t u >>= λa=>implements t u >>= λb=>tT (a ||b)):=Bt (LB t u) λ_=>Bt (GH t u) λ_=>Cv _
 exact Gs (Bt (D8 ..) λ_=>Bt (D8 ..) λ_=>rest) rest
end
end Go.Proofs.YtaoikkhlnhfkfaaGreatDoor
