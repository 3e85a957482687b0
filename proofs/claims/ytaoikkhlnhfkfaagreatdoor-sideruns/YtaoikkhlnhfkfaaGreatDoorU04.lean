import Derived.Test.YtaoikkhlnhfkfaaGreatDoorU00
import Derived.Test.YtaoikkhlnhfkfaaGreatDoorU03
set_option linter.defProp false
set_option linter.unusedSimpArgs false
set_option linter.unusedVariables false
namespace Go.Proofs.YtaoikkhlnhfkfaaGreatDoor
open Option renaming some->A,none->sA
open Int renaming lt_of_not_ge->Dx
open List renaming map_append->J0,sum_append->J1
variable {α:Type}{k f a b:Nat}{r:lN}
structure Ð where
 a:Nat->lN
 cr:Nat->Int
 row:lN
 i:Option Nat
def A8{α:Type}(f:Nat->α)(k:Nat)(x:α):=λi=>if i=k then x else f i
def AX (f:Nat->α) k x:A8 f k x k=x:=Æ J
def Az (f:Nat->α){i} x(h:i≠k):A8 f k x i=f i:=Ä h
def Ð.g (d:Ð):lN:=match d.i with|some f=>f::d.row|none=>d.row
section
variable (fl:Nat->Nat)(sz:Nat->Int)(qu:Nat->Int)
def Ð.e (d:Ð)(k:Nat):={d with a:=A8 d.a (fl k) (d.a (fl k)++[k]),row:=if fl k∈d.g then d.row else d.row++[fl k]}
def Ð.p (d:Ð)(f:Nat)(r:lN):={d with i:=A f,row:=r,cr:=A8 d.cr f (d.cr f+qu f)}
def Ð.l (d:Ð)(f:Nat):={d with i:=sA,row:=d.row++[f]}
def Ð.j (d:Ð)(f k:Nat)(r:lN):=if r=[]then{d with a:=A8 d.a f [],cr:=A8 d.cr f 0,i:=sA} else{d with a:=A8 d.a f r,cr:=A8 d.cr f (d.cr f-sz k)}
structure DN (se:Int)(d:Ð):Prop where
 b:d.g.Nodup
 a:∀f,f∈d.g↔d.a f≠[]
 u:∀f,0<=d.cr f
 m:∀f,d.a f=[]->d.cr f=0
 g:∀f,d.i≠A f->d.cr f<=se-1
 top:∀f,d.i=A f->d.cr f<=se-1+qu f
 h:∀f k,k∈d.a f->fl k=f/\1<=sz k/\sz k<=se
 r:1<=se
variable {fl sz qu}{se:Int}{d:Ð}
def Ð.s (d:Ð) k:(d.e fl k).g=if fl k∈d.g then d.g else d.g++[fl k]:=by
 by_cases E:fl k∈d.g
 .
  let e:(d.e fl k).row=d.row:=Æ E;rw[Æ E];show(match d.i with|some f=>f::(d.e fl k).row|none=>(d.e fl k).row)=d.g
  rw[e];rfl
 let e:(d.e fl k).row=d.row++[fl k]:=Ä E;rw[Ä E];show(match d.i with|some f=>f::(d.e fl k).row|none=>(d.e fl k).row)=d.g++[fl k]
 rw[e];unfold Ð.g;cases d.i<;>rfl
def DN.e (h:DN fl sz qu se d) k(ab:1<=sz k)(aa:sz k<=se):DN fl sz qu se (d.e fl k):=by
 let U:=Ð.s (fl:=fl) d k;refine⟨?_,λf=>?_,h.u,λf I=>?_,h.g,h.top,λf j G=>?_,h.r⟩
 .
  rw[U];split
  exact h.b
  next E=>exact lO.2 ⟨h.b,Ť.2 ⟨sm,ki⟩,λa Y b V e=>E (by rw[Đ]at V;rw[<-V,<-e];exact Y)⟩
 .
  rw[U];show _↔A8 d.a (fl k) (d.a (fl k)++[k]) f≠[]
  by_cases e:f=fl k
  .
   subst e;rw[AX];constructor
   intro _ Z;simp at Z
   intro _;split
   next E=>exact E
   exact ĭ.2 (.inr (Đ.2 J))
  rw[Az _ _ e,<-h.a f];split
  exact Iff.rfl
  constructor
  .
   intro E;obtain E|E:=ĭ.1 E
   exact E
   cases e (Đ.1 E)
  intro E;exact ĭ.2 (.inl E)
 .
  by_cases e:f=fl k
  subst e;have:(d.e fl k).a (fl k)=d.a (fl k)++[k]:=AX ..;rw[this]at I;simp at I
  have:(d.e fl k).a f=d.a f:=Az _ _ e;rw[this]at I;exact h.m f I
 by_cases e:f=fl k
 .
  subst e;let O:(d.e fl k).a (fl k)=d.a (fl k)++[k]:=AX ..;rw[O]at G;obtain G|G:=ĭ.1 G
  exact h.h _ j G
  simp_all
 let O:(d.e fl k).a f=d.a f:=Az _ _ e;rw[O]at G;exact h.h f j G
def DN.p (h:DN fl sz qu se d)(U:∀f,1<=qu f)(Z:d.i=sA)(Y:d.row=f::r):DN fl sz qu se (d.p qu f r):=by
 let G:d.g=f::r:=by unfold Ð.g;rw[Z];exact Y
 let I:(d.p qu f r).g=d.g:=G▸rfl
 let V:=(h.a f).1 (G▸ï ..);refine⟨I▸h.b,λg=>I▸h.a g,λg=>?_,λg E=>?_,λg E=>?_,λg E=>?_,h.h,h.r⟩
 .
  show 0<=A8 d.cr f (d.cr f+qu f) g
  by_cases e:g=f
  subst e;rw[AX];have:=h.u g;have:=U g;omega
  rw[Az _ _ e];exact h.u g
 .
  show A8 d.cr f (d.cr f+qu f) g=0
  let O:=E;by_cases e:g=f
  subst e;cases V O
  rw[Az _ _ e];exact h.m g O
 .
  show A8 d.cr f (d.cr f+qu f) g<=se-1
  by_cases e:g=f
  subst e;cases E J
  rw[Az _ _ e];exact h.g g sL
 show A8 _ f _ g<=se-1+qu g
 obtain rfl:=Ö E;rw[AX];have:=h.g f sL;omega
def DN.l (h:DN fl sz qu se d)(O:d.i=A f)(V:d.a f=k::r)(ac:d.cr f<sz k):DN fl sz qu se (d.l f):=by
 let E:d.g=f::d.row:=by unfold Ð.g;rw[O]
 let G:(d.l f).g=d.row++[f]:=rfl;let a:=h.h f k (V▸ï ..);let U:=h.b;rw[E]at U;let⟨X,Z⟩:=Ť.1 U;refine⟨?_,λg=>?_,h.u,h.m,λg _=>?_,λg a=>(nf a),h.h,h.r⟩
 rw[G];exact lO.2 ⟨Z,Ť.2 ⟨sm,ki⟩,λa Y b I e=>X (by rw[Đ]at I;rw[<-I,<-e];exact Y)⟩
 .
  rw[G];have:=h.a g;rw[E]at this;show _↔d.a g≠[]
  rw[<-this];simp[ĭ,sV,ġ,ĝ];constructor
  .
   rintro(h|h)
   exact .inr h
   exact .inl h
  rintro(h|h)
  exact .inr h
  exact .inl h
 show d.cr g<=se-1
 by_cases e:g=f
 subst e;omega
 exact h.g g (by rw[O];intro e';exact e (Ö e').symm)
def DN.j (h:DN fl sz qu se d)(U:d.i=A f)(ai:d.a f=k::r)(am:sz k<=d.cr f):DN fl sz qu se (d.j sz f k r):=by
 let Y:d.g=f::d.row:=by unfold Ð.g;rw[U]
 let an:=h.h f k (ai▸ï ..);let e:=h.b;rw[Y]at e;let⟨aj,al⟩:=Ť.1 e;let T:=h.r;by_cases V:r=[]
 .
  let Z:d.j sz f k r={d with a:=A8 d.a f [],cr:=A8 d.cr f 0,i:=sA}:=Æ V;rw[Z];refine⟨al,λg=>?_,λg=>?_,λg I=>?_,λg _=>?_,λg I=>(nf I),λg j aa=>?_,T⟩
  .
   show g∈d.row↔A8 d.a f [] g≠[]
   have:=h.a g;rw[Y]at this;by_cases e:g=f
   subst e;rw[AX];exact⟨λG=>absurd G aj,λak=>absurd J ak⟩
   rw[Az _ _ e,<-this];exact⟨λG=>Ĥ _ G,λG=>by
    obtain G|G:=sV.1 G
    cases e G
    exact G⟩
  .
   show 0<=A8 d.cr f 0 g
   by_cases e:g=f
   subst e;rw[AX];exact Ā _
   rw[Az _ _ e];exact h.u g
  .
   show A8 d.cr f 0 g=0
   by_cases e:g=f
   subst e;exact AX ..
   let E:A8 d.a f [] g=[]:=I;rw[Az _ _ e]at E⊢;exact h.m g E
  .
   show A8 d.cr f 0 g<=se-1
   by_cases e:g=f
   subst e;rw[AX];omega
   rw[Az _ _ e];exact h.g g (by rw[U];intro e';exact e (Ö e').symm)
  let O:j∈A8 d.a f [] g:=aa;by_cases e:g=f
  subst e;rw[AX]at O;cases O
  rw[Az _ _ e]at O;exact h.h g j O
 let Z:d.j sz f k r={d with a:=A8 d.a f r,cr:=A8 d.cr f (d.cr f-sz k)}:=Ä V;rw[Z];refine⟨h.b,λg=>?_,λg=>?_,λg I=>?_,λg I=>?_,λg I=>?_,λg j aa=>?_,T⟩
 .
  show g∈d.g↔A8 d.a f r g≠[]
  by_cases e:g=f
  subst e;rw[AX];exact⟨λ_=>V,λ_=>Y▸ï ..⟩
  rw[Az _ _ e];exact h.a g
 .
  show 0<=A8 d.cr f (d.cr f-sz k) g
  by_cases e:g=f
  subst e;rw[AX];omega
  rw[Az _ _ e];exact h.u g
 .
  show A8 d.cr f (d.cr f-sz k) g=0
  let E:A8 d.a f r g=[]:=I;by_cases e:g=f
  subst e;rw[AX]at E;cases V E
  rw[Az _ _ e]at E⊢;exact h.m g E
 .
  show A8 d.cr f (d.cr f-sz k) g<=se-1
  let E:=I;let e:g≠f:=λe=>E (e▸U)
  rw[Az _ _ e];exact h.g g E
 .
  show A8 d.cr f (d.cr f-sz k) g<=se-1+qu g
  let E:=I;obtain rfl:=Ö (U.symm.trans E);rw[AX];have:=h.top f U;omega
 let O:j∈A8 d.a f r g:=aa;by_cases e:g=f
 subst e;rw[AX]at O;exact h.h g j sL
 rw[Az _ _ e]at O;exact h.h g j O
def Dr (a b:Nat):lN->Bool
 |[]=>true
 |x::r=>if x=a then true else if x=b then false else Dr a b r
def IG:∀(l m),a∈l\/b∈l->Dr a b (l++m)=Dr a b l:=by
 intro l m;induction l with
 |nil=>simp_all
 |cons x r G=>
  intro h;simp only[ς,Dr];by_cases e:x=a
  rw[Æ e,Æ e]
  by_cases E:x=b
  rw[Ä e,Ä e,Æ E,Æ E]
  rw[Ä e,Ä e,Ä E,Ä E];apply G;obtain h|h:=h
  .
   obtain h|h:=sV.1 h
   cases e h.symm
   exact .inl h
  obtain h|h:=sV.1 h
  cases E h.symm
  exact .inr h
def aD:∀(l),a ∉ l->b∈l->Dr a b l=false:=by
 intro l;induction l with
 |nil=>intro _ h;cases h
 |cons x r I=>
  intro G O;simp only[Dr];rw[Ä (λe=>G sL)];by_cases E:x=b
  rw[Æ E]
  rw[Ä E];apply I (λh=>G (Ĥ _ h));obtain h|h:=sV.1 O
  cases E h.symm
  exact h
def Zn:∀(l),b ∉ l->a∈l->Dr a b l=true:=by
 intro l;induction l with
 |nil=>intro _ h;cases h
 |cons x r G=>
  intro E I;simp only[Dr];by_cases e:x=a
  rw[Æ e]
  rw[Ä e,Ä (λe=>E sL)];apply G (λh=>E (Ĥ _ h));obtain h|h:=sV.1 I
  cases e h.symm
  exact h
def Ð.t (d:Ð)(a b:Nat):Int:=(if Dr a b d.g then 0 else 1)+(if d.i=A a then 1 else 0)-(if d.i=A b then 1 else 0)
def Ð.x (d:Ð)(E:Nat->Int)(a b:Nat):=E a*E b*d.t a b-d.cr a*E b+d.cr b*E a
def DN.i (h:DN fl sz qu se d)(E:∀f,1<=qu f) f:0<=d.cr f/\d.cr f<=se-1+qu f:=by
 refine⟨h.u f,?_⟩;by_cases e:d.i=A f
 exact h.top f e
 have:=h.g f e;have:=E f;omega
def sN k(G:a∈d.g):(d.e fl k).x qu a b=d.x qu a b:=by
 let E:(d.e fl k).t a b=d.t a b:=by
  unfold Ð.t;rw[Ð.s];let e:(d.e fl k).i=d.i:=rfl;rw[e];split
  rfl
  rw[IG _ _ (.inl G)]
 unfold Ð.x;rw[E];rfl
def qE (O:a≠b)(U:d.i=sA)(Y:d.row=f::r):(d.p qu f r).x qu a b=d.x qu a b:=by
 let I:d.g=f::r:=by unfold Ð.g;rw[U];exact Y
 let V:(d.p qu f r).g=d.g:=I▸rfl
 let Z:(d.p qu f r).i=A f:=rfl;let E:(d.p qu f r).cr=A8 d.cr f (d.cr f+qu f):=rfl;unfold Ð.x Ð.t;rw[V,Z,U,E,I];simp[Dr,k6];by_cases E:f=a
 subst E;rw[AX,Az _ _ (ħ O)];simp[ô,Ä O,reduceCtorEq,ę];rw[Int.add_mul];omega
 by_cases G:f=b
 subst G;rw[AX,Az _ _ (ħ E)];simp[ô,Ä E,reduceCtorEq,ę,Ĭ];rw[Int.add_mul,kY (qu f) _];omega
 rw[Az _ _ (ħ E),Az _ _ (ħ G)];simp[Ä E,Ä G,reduceCtorEq,ę]
def pQ (ab:a≠b)(aj:d.g.Nodup)(ai:d.i=A f)(U:a∈d.g)(ac:b∈d.g):(d.l f).x qu a b=d.x qu a b:=by
 let Y:d.g=f::d.row:=by unfold Ð.g;rw[ai]
 let h:(d.l f).g=d.row++[f]:=rfl;let E:(d.l f).i=none:=rfl;let W:(d.l f).cr=d.cr:=rfl;rw[Y]at aj U ac;let⟨X,G⟩:=Ť.1 aj;let T:(d.l f).t a b=d.t a b:=by
  unfold Ð.t;rw[h,E,ai,Y];by_cases E:f=a
  .
   subst E;let Z:b∈d.row:=by
    obtain h|h:=sV.1 ac
    cases ab h.symm
    exact h
   let G:Dr f b (f::d.row)=true:=by simp[Dr]
   let I:Dr f b (d.row++[f])=false:=IG _ _ (.inr Z)▸aD _ X Z
   simp[G,I,ab]
  by_cases V:f=b
  .
   subst V;let O:a∈d.row:=by
    obtain h|h:=sV.1 U
    cases E h.symm
    exact h
   let G:Dr a f (f::d.row)=false:=by simp[Dr,E]
   let I:Dr a f (d.row++[f])=true:=IG _ _ (.inl O)▸Zn _ X O
   simp[G,I,E]
  let O:a∈d.row:=by
   obtain h|h:=sV.1 U
   cases E h.symm
   exact h
  let G:Dr a b (f::d.row)=Dr a b d.row:=by simp[Dr,E,V]
  let I:Dr a b (d.row++[f])=Dr a b _:=IG _ _ (.inl O);simp[G,I,E,V]
 unfold Ð.x;rw[T,W]
end
section
variable (fl:Nat->Nat)(sz:Nat->Int)(qu:Nat->Int)
def Ð.h:Nat->Ð->Option (Nat×Ð)
 |0,_=>sA
 |n+1,d=>match d.i with
  |none=>(match d.row with|[]=>sA|f::r=>Ð.h n (d.p qu f r))
  |some f=>(match d.a f with|[]=>sA|k::r=>if sz k<=d.cr f then A (k,d.j sz f k r)else Ð.h n (d.l f))
def nN (d:Ð)(k:Nat)(e:Ð):=∃n,Ð.h sz qu n d=A (k,e)
structure nO (se:Int)(d:Ð)(k:Nat)(e:Ð)(f:Nat)(r:lN)(c:Ð):Prop where
 y:DN fl sz qu se c
 i:c.i=A f
 g:c.a f=k::r
 j:sz k<=c.cr f
 h:e=c.j sz f k r
 u:c.a=d.a
 x:∀a b,a≠b->a∈d.g->b∈d.g->c.x qu a b=d.x qu a b
variable {fl sz qu}{se:Int}
def dw (ak:∀f,1<=qu f):∀(n)(d)(k)(e),DN fl sz qu se d->Ð.h sz qu n d=A (k,e)->∃f r c,nO fl sz qu se d k e f r c:=by
 intro n;induction n with
 |zero=>intro d k e _ h;simp[Ð.h]at h
 |succ n T=>
  intro d k e V h;unfold Ð.h at h;cases I:d.i with
  |none=>
   rw[I]at h;simp only at h;cases O:d.row with
   |nil=>rw[O]at h;simp at h
   |cons f r=>
    rw[O]at h;simp only at h;let W:d.g=f::r:=by unfold Ð.g;rw[I];exact O
    let Z:(d.p qu f r).g=d.g:=W▸rfl
    let⟨f',r',c,E⟩:=T _ k e (V.p ak I O) h;exact⟨f',r',c,E.y,E.i,E.g,E.j,E.h,E.u,λa b U G X=>(E.x a b U (Z▸G) (Z▸X)).trans (qE U I O)⟩
  |some f=>
   rw[I]at h;simp only at h;cases Y:d.a f with
   |nil=>rw[Y]at h;simp at h
   |cons j r=>
    rw[Y]at h;simp only at h;by_cases b:sz j<=d.cr f
    rw[Æ b]at h;let h:=Ö h;let⟨rfl,rfl⟩:=Prod.mk.inj h;exact⟨f,r,d,V,I,Y,b,J,J,λ_ _ _ _ _=>J⟩
    rw[Ä b]at h;let W:d.g=f::d.row:=by unfold Ð.g;rw[I]
    let Z:(d.l f).g=d.row++[f]:=rfl;let j:∀a,a∈d.g->a∈(d.l f).g:=λa G=>by
     rw[W]at G;rw[Z];obtain G|G:=sV.1 G
     exact ĭ.2 (.inr (Đ.2 G))
     exact ĭ.2 (.inl G)
    let⟨f',r',c,E⟩:=T _ k e (V.l I Y (Dx b)) h;exact⟨f',r',c,E.y,E.i,E.g,E.j,E.h,E.u,λa b U G X=>(E.x a b U (j a G) (j b X)).trans (pQ U V.b I G X)⟩
def zx:∀(n)(d)(x),Ð.h sz qu n d=A x->Ð.h sz qu (n+1) d=A x:=by
 intro n;induction n with
 |zero=>intro d x h;simp[Ð.h]at h
 |succ n G=>
  intro d x h;rw[Ð.h]at h⊢;cases O:d.i with
  |none=>
   rw[O]at h;cases I:d.row with
   |nil=>rw[I]at h;simp at h
   |cons f r=>
    rw[I]at h;exact G _ _ h
  |some f=>
   rw[O]at h;simp only at h⊢;cases E:d.a f with
   |nil=>rw[E]at h;simp at h
   |cons j r=>
    rw[E]at h;simp only at h⊢;by_cases U:sz j<=d.cr f
    simp_all
    rw[Ä U]at h⊢;exact G _ _ h
def Ð.m (E:Nat->Int)(d:Ð)(f:Nat):Nat:=match d.a f with|[]=>0|k::_=>(E k-d.cr f).toNat
def Ð.q (E:Nat->Int)(d:Ð):=(d.g.map (d.m E)).sum
def Ue:∀(l:lN)(a),a∈l->a<=l.sum
 |[],_,h=>nf h
 |x::r,a,h=>by
  rw[j4];obtain h|h:=sV.1 h
  omega
  have:=Ue r a h;omega
def dS (ai:∀f,1<=qu f):∀(r9)(d),DN fl sz qu se d->d.g≠[]->d.q sz<=r9->d.i=sA->∃x,Ð.h sz qu (2*r9+4) d=A x:=by
 intro r9;induction r9 with
 |zero=>
  intro d e V aw O;let G:d.g=d.row:=by unfold Ð.g;rw[O]
  cases E:d.row with
  |nil=>rw[G,E]at V;cases V J
  |cons f r=>
   let g:f∈d.g:=G▸E▸ï ..
   let G:d.m sz f<=d.q sz:=Ue _ _ (Ő.2 ⟨f,g,J⟩);let aB:=(e.a f).1 g;unfold Ð.m at G;cases I:d.a f with
   |nil=>cases aB I
   |cons k r'=>
    rw[I]at G;simp only at G;let X:(d.p qu f r).cr f=d.cr f+qu f:=AX ..;let Z:(d.p qu f r).i=A f:=rfl;let Y:(d.p qu f r).a f=k::r':=I;let U:sz k<=(d.p qu f r).cr f:=by rw[X];have:=ai f;omega
    refine⟨(k,(d.p qu f r).j sz f k r'),?_⟩;rw[Ð.h,O];simp[E];rw[Ð.h,Z];simp[Y,Æ U]
 |succ r9 W=>
  intro d e V aw O;let G:d.g=d.row:=by unfold Ð.g;rw[O]
  cases E:d.row with
  |nil=>rw[G,E]at V;cases V J
  |cons f r=>
   let V:=e.p ai O E;let g:=(e.a f).1 (G▸E▸ï ..);cases I:d.a f with
   |nil=>cases g I
   |cons k r'=>
    let Z:(d.p qu f r).i=A f:=rfl;let Y:(d.p qu f r).a f=k::r':=I;by_cases U:sz k<=(d.p qu f r).cr f
    refine⟨(k,(d.p qu f r).j sz f k r'),?_⟩;rw[show 2*(r9+1)+4=(2*r9+4)+1+1 by omega,Ð.h,O];simp[E];rw[Ð.h,Z];simp[Y,Æ U]
    let T:=V.l Z Y (Dx U);let V:((d.p qu f r).l f).g=r++[f]:=rfl;let X:(d.p qu f r).cr f=d.cr f+qu f:=AX ..;let g:=e.b;rw[G,E]at g;let⟨av,aG⟩:=Ť.1 g;let aq:∀g,g∈r->((d.p qu f r).l f).m sz g=d.m sz g:=λg an=>by
     let e:g≠f:=λe=>av (e▸an)
     unfold Ð.m;show(match d.a g with|[]=>0|k::_=>(sz k-A8 d.cr f (d.cr f+qu f) g).toNat)=_
     rw[Az _ _ e]
    let aC:((d.p qu f r).l f).m sz f+1<=d.m sz f:=by
     unfold Ð.m;show(match d.a f with|[]=>0|k::_=>(sz k-A8 d.cr f (d.cr f+qu f) f).toNat)+1<=_
     rw[AX,I];simp only;rw[X]at U;have:=ai f;omega
    let aE:((d.p qu f r).l f).q sz+1<=d.q sz:=by
     unfold Ð.q;rw[V,G,E,J0,J1,jN,j4,List.map_congr_left aq];simp[jN,List.map_nil,j4,List.sum_nil];omega
    let⟨x,ao⟩:=W ((d.p qu f r).l f) T (oj V) N J;refine⟨x,?_⟩;rw[show 2*(r9+1)+4=(2*r9+4)+1+1 by omega,Ð.h,O];simp[E];rw[Ð.h,Z];simp[Y,Ä U]
    exact ao
def nQ (Y:∀f,1<=qu f) r9 d(I:DN fl sz qu se d)(ab:d.g≠[])(aj:d.q sz<=r9):∃x,Ð.h sz qu (2*r9+5) d=A x:=by
 cases E:d.i with
 |none=>
  let⟨x,U⟩:=dS Y r9 d I ab aj E;exact⟨x,zx _ _ _ U⟩
 |some f=>
  let V:d.g=f::d.row:=by unfold Ð.g;rw[E]
  let k:=(I.a f).1 (V▸ï ..);cases G:d.a f with
  |nil=>cases k G
  |cons k r'=>
   by_cases O:sz k<=d.cr f
   refine⟨(k,d.j sz f k r'),?_⟩;rw[Ð.h,E];simp[G,Æ O]
   let Z:=I.l E G (Dx O);let X:(d.l f).g=d.row++[f]:=rfl;let k:(d.l f).q sz=d.q sz:=by
    let k:(d.l f).q sz=((d.row++[f]).map (d.m sz)).sum:=rfl;let U:d.q sz=((f::d.row).map (d.m sz)).sum:=by unfold Ð.q;rw[V]
    rw[k,U,J0,J1,jN,j4];simp[jN,List.map_nil,j4,List.sum_nil];omega
   let⟨x,U⟩:=dS Y r9 (d.l f) Z (oj X) N J;refine⟨x,?_⟩;rw[Ð.h,E];simp[G,Ä O]
   exact U
end
structure dO{σ:Type}(Q:Ě σ)(fl:Nat->Nat)(sz qu:Nat->Int)(q0:σ)(ok:σ->Prop)(view:σ->Ð):Prop where
 c:ok q0/\view q0=⟨λ_=>[],λ_=>0,[],sA⟩
 e:∀q k,ok q->ok (Q.e q k)/\view (Q.e q k)=(view q).e fl k
 pick:∀q,ok q->0<Q.rest q->ok (Q.h q)/\nN sz qu (view q) (Q.pick q) (view (Q.h q))
 rest:∀q,ok q->(Q.rest q=0↔(view q).g=[])
 m:∀q,ok q->Q.rest q=0->ok (Q.m q)/\view (Q.m q)=view q
structure Uj{σ:Type}(fl:Nat->Nat)(sz qu:Nat->Int)(se:Int)(ps:List Pk)(ok:σ->Prop)(view:σ->Ð)(s:St σ)(H:List (Ð×Ð)):Prop where
 g:ok s.q
 l:DN fl sz qu se (view s.q)
 len:H.length=s.p.length
 d:∀(i:Nat) x h,s.p[i]? = A x->H[i]? = A h->∃k:Nat,x.d=k/\DN fl sz qu se h.1/\DN fl sz qu se h.2/\nN sz qu h.1 k h.2/\∀w:Nat,w<ps.length->Ay ps w<=x.b->AA (s.p.take (i+1)) w=false->w∈h.2.a (fl w)
 e:∀(i:Nat) h h',H[i]? = A h->H[i+1]? = A h'->∀a b,a∈h.2.g->b∈h.2.g->h'.1.x qu a b=h.2.x qu a b
 last:∀h,H[H.length-1]? = A h->0<H.length->∀a b,a∈h.2.g->b∈h.2.g->(∀c,c∈h.2.g->c∈(view s.q).g)/\(view s.q).x qu a b=h.2.x qu a b
 m:∀w,w<s.e->AA s.p w=false->w∈(view s.q).a (fl w)
 p:∀f w,w∈(view s.q).a f->w<s.e/\AA s.p w=false
 t:s.e<=ps.length
 q:∀w:Nat,AA s.p w=true->w<s.e
 j:∀f,((view s.q).a f).Nodup
section
variable {σ:Type}{Q:Ě σ}{fl:Nat->Nat}{sz qu:Nat->Int}{q0:σ}{ok:σ->Prop}{view:σ->Ð}{se:Int}{per:Int}{ps:List Pk}
def Qb (E:1<=se):DN fl sz qu se ⟨λ_=>[],λ_=>0,[],sA⟩:=
 ⟨ki,λf=>⟨(nofun),λh=>absurd J h⟩,λ_=>Ā _,λ_ _=>J,(λ_ _=>by show(0:Int)<=se-1;omega),(nofun),(nofun),E⟩
def TY{d:Ð}{f k r}:(d.j sz f k r).a=A8 d.a f r:=by
 unfold Ð.j;split
 next h=>rw[h]
 rfl
def Sb (aj:dO Q fl sz qu q0 ok view)(a6:∀f,1<=qu f)(a5:1<=se)(aW:∀k,k<ps.length->1<=sz k/\sz k<=se)(bb:Ar ps){s}(h:Â Q per ps q0 s):∃H,Uj fl sz qu se ps ok view s H:=by
 refine h.d (sd:=λs=>∃H,Uj fl sz qu se ps ok view s H) ?_ ?_ ?_ ?_
 .
  refine⟨[],aj.c.1,aj.c.2▸Qb a5,J,λi x h U=>oF U,λi h S U=>oF U,λh _ X=>oF X,λw E=>absurd E (İ _),λf w E=>?_,uD _,(λw E=>by simp[AA]at E),λf=>?_⟩
  rotate_left
  .
   show((view q0).a f).Nodup
   rw[aj.c.2];exact ki
  have:w∈(view q0).a f:=E;rw[aj.c.2]at this;cases this
 .
  rintro s p L r9 P⟨H,r⟩;let⟨i,Y⟩:=aj.e s.q s.e r.g;let c:=Ap r9;let n:AA s.p s.e=false:=by
   cases V:AA s.p s.e with
   |false=>rfl
   |true=>have:=r.q _ V;omega
  refine⟨H,i,Y▸r.l.e _ (aW _ c).1 (aW _ c).2,r.len,r.d,r.e,λh G X a b sd T=>?_,λw E V=>?_,λf w E=>?_,c,λw E=>Ų (r.q w E),λf=>?_⟩
  .
   let⟨Z,W⟩:=r.last h G X a b sd T;refine⟨λc R=>by rw[Y];exact (by
     let h:=(Z c R)
     rw[Ð.s];split
     exact h
     exact ĭ.2 (.inl h)),?_⟩
   rw[Y,sN _ (Z a sd)];exact W
  .
   show w∈(view (Q.e s.q s.e)).a (fl w)
   rw[Y];show w∈A8 (view s.q).a (fl s.e) ((view s.q).a (fl s.e)++[s.e]) (fl w)
   obtain a|a:=nR w s.e
   .
    have:=r.m w a V;by_cases e:fl w=fl s.e
    rw[e,AX];rw[e]at this;exact ĭ.2 (.inl this)
    rw[Az _ _ e];exact this
   obtain rfl:w=s.e:=by simp only at E;omega
   rw[AX];exact ĭ.2 (.inr (Đ.2 J))
  .
   let O:=E;rw[Y]at O;let I:w∈A8 (view s.q).a (fl s.e) ((view s.q).a (fl s.e)++[s.e]) f:=O;by_cases e:f=fl s.e
   .
    subst e;rw[AX]at I;obtain I|I:=ĭ.1 I
    let⟨Z,W⟩:=r.p _ w I;exact⟨Ų Z,W⟩
    rw[Đ]at I;subst I;exact⟨ō _,n⟩
   rw[Az _ _ e]at I;let⟨Z,W⟩:=r.p _ w I;exact⟨Ų Z,W⟩
  show((view (Q.e s.q s.e)).a f).Nodup
  rw[Y];show(A8 (view s.q).a (fl s.e) ((view s.q).a (fl s.e)++[s.e]) f).Nodup
  by_cases e:f=fl s.e
  subst e;rw[AX];refine lO.2 ⟨r.j _,Ť.2 ⟨sm,ki⟩,λa sd b T e=>?_⟩;rw[Đ]at T;have:=(r.p _ a sd).1;omega
  rw[Az _ _ e];exact r.j f
 .
  rintro s p L O X r9⟨H,r⟩;let⟨i,Y⟩:=aj.pick s.q r.g X;let⟨n,r9⟩:=Y;obtain⟨f,t,c,c⟩:=dw a6 n _ _ _ r.l r9;let X:(view (Q.h s.q)).a=A8 (view s.q).a f t:=by rw[c.h,TY,c.u]
  let W:(view s.q).a f=Q.pick s.q::t:=c.u▸c.g
  let a:Q.pick s.q∈(view s.q).a f:=W▸ï ..
  obtain⟨Z,b,b⟩:=r.l.h f _ a;obtain⟨b,b⟩:=r.p f _ a;let a:=r.j f;rw[W]at a;let⟨Y,K⟩:=Ť.1 a;let L:∀w,w∈(view s.q).a (fl w)->w≠Q.pick s.q->w∈(view (Q.h s.q)).a (fl w):=by
   intro w E a;rw[X];by_cases e:fl w=f
   .
    rw[e,AX];rw[e,W]at E;obtain h|h:=sV.1 E
    cases a h
    exact h
   rw[Az _ _ e];exact E
  let I:∀w:Nat,AA (s.p++[⟨(Q.pick s.q:Nat),s.d,s.d+per*p.h⟩]) w=false->AA s.p w=false/\w≠Q.pick s.q:=by
   intro w E;rw[Dw,Bool.or_eq_false_iff]at E;exact⟨E.1,λe=>Α.1 E.2 e.symm⟩
  refine⟨H++[(view s.q,view (Q.h s.q))],i,c.h▸c.y.j c.i c.g c.j,oy r.len,λi x h U G=>?_,λi h S G p a b sd T=>?_,λh G _ a b sd T=>?_,λw E V=>?_,λf' w E=>?_,r.t,λw E=>?_,λf'=>?_⟩
  .
   let t:=Ap U;simp[ý,Ċ,Ġ]at t;obtain S|S:=nR i s.p.length
   simp[č S]at U;rw[č (r.len▸S)]at G;simp[lL (show i+1<=s.p.length by omega)];exact r.d i x h U G
   obtain rfl:i=s.p.length:=N;simp[Ţ lr,Ο,aV,k6]at U;rw[Ţ (r.len▸lr),r.len,Ο,aV]at G;have G:=Ö G;subst U;subst G;refine⟨Q.pick s.q,J,r.l,c.h▸c.y.j c.i c.g c.j,⟨n,r9⟩,λw E P V=>?_⟩;rw[iG sm]at V;let⟨x,n⟩:=I w V;refine L w (r.m w ?_ x) n;obtain c|c:=nR w s.e
   exact c
   let n:s.e<ps.length:=N;let e:=ë n;let n:=O _ e;let n:=Fg bb c E;rw[AQ e]at n;simp only at P;omega
  .
   let t:=Ap p;simp[ý,Ċ,Ġ]at t;obtain c|c:=nR (i+1) H.length
   rw[č N]at G;rw[č c]at p;exact r.e i h S G p a b sd T
   let c:i+1=H.length:=N;rw[č N]at G;rw[Ţ N,c,Ο,aV]at p;have p:=Ö p;subst p;exact(r.last h (show H.length-1=i by omega▸G) N a b sd T).2
  simp only[ý,Ċ,Ġ,l3]at G;rw[Ţ lr,Ο,aV]at G;have G:=Ö G;subst G;exact⟨λc R=>R,J⟩
  let⟨x,n⟩:=I w V;exact L w (r.m w E x) n
  .
   let O:=E;rw[X]at O;let I:w∈(view s.q).a f'/\w≠Q.pick s.q:=by
    by_cases e:f'=f
    subst e;rw[AX]at O;exact⟨W▸Ĥ _ O,λe=>Y (e▸O)⟩
    rw[Az _ _ e]at O;exact⟨O,λa=>e ((r.l.h f' w O).1▸a▸Z)⟩
   let⟨Z,W⟩:=r.p f' w I.1;refine⟨Z,?_⟩;rw[Dw,W,mu];exact Α.2 (λe=>I.2 e.symm)
  .
   rw[Dw,ł]at E;show w<s.e
   obtain E|E:=E
   exact r.q w E
   have:=Ł.1 E;omega
  show((view (Q.h s.q)).a f').Nodup
  rw[X];by_cases e:f'=f
  subst e;rw[AX];exact K
  rw[Az _ _ e];exact r.j f'
 rintro s p L r9 P X⟨H,r⟩;let⟨b,a⟩:=aj.m s.q r.g X;exact⟨H,b,a▸r.l,r.len,r.d,r.e,a▸r.last,a▸r.m,a▸r.p,r.t,r.q,a▸r.j⟩
end
def Bg (ps:List Pk)(j:Nat):Int:=match ps[j]? with|some p=>p.h|none=>1
def D7{ps j p}(h:ps[j]? = A p):Bg ps j=p.h:=by simp[Bg,h]
def CO{ps}(E:Ar ps) j:1<=Bg ps j/\Bg ps j<=1500:=by
 cases h:ps[j]? with
 |none=>simp[Bg,h]
 |some p=>
  rw[D7 h];have:=Bw (E.d _ p h).1;omega
def TZ{ps}(E:Ar ps) j:Aj ps j<8:=by
 cases h:ps[j]? with
 |none=>simp[Aj,h]
 |some p=>
  rw[G8 h];have:=Bw (E.d _ p h).1;omega
def Cb (E:lZ)(f:Nat):=E.getD f 1
def KG{E f x}(h:E[f]? = A x):Cb E f=x:=by simp[Cb,h]
def J2{E U}(h:∀(i:Nat) x,E[i]? = A x->1<=x/\x<=U)(I:1<=U) f:1<=Cb E f/\Cb E f<=U:=by
 cases G:E[f]? with
 |none=>simp[Cb,G];exact I
 |some x=>rw[KG G];exact h f x G
def Ι (q:Nat->lN)
 |0=>0
 |n+1=>Ι q n+(q n).length
def YF q f x:∀n,Ι (A8 q f x) n+(if f<n then(q f).length else 0)=Ι q n+(if f<n then x.length else 0)
 |0=>by simp[Ι]
 |n+1=>by
  let E:=YF q f x n;simp[Ι];by_cases e:n=f
  subst e;rw[AX,Æ (ō _),Æ (ō _)];rw[Ä (ų _),Ä (ų _)]at E;omega
  rw[Az _ _ e];by_cases h:f<n
  rw[Æ h,Æ h]at E;rw[Æ N,Æ N];omega
  rw[Ä h,Ä h]at E;rw[Ä N,Ä N];omega
def Y0 q{f}:∀n,f<n->(q f).length<=Ι q n
 |0,h=>N
 |n+1,h=>by
  simp[Ι]
  by_cases e:f=n
  subst e;omega
  have:=Y0 q n (show f<n by omega);omega
def Vf{q:Nat->lN}(h:∀f,q f=[]):∀n,Ι q n=0
 |0=>J
 |n+1=>by simp[Ι,h n,Vf h n]
structure TQ where
 d:Ð
 n:Nat
def Yk (ps:List Pk)(d:Ð):=2*d.q (Bg ps)+5
def iB (ps:List Pk)(E:lZ)(d:Ð):=Ð.h (Bg ps) (Cb E) (Yk ps d) d
def BF (ps:List Pk)(E:lZ):Ě TQ where
 e q k:=⟨q.d.e (Aj ps) k,q.n+1⟩
 pick q:=match iB ps E q.d with|some x=>x.1|none=>0
 h q:=match iB ps E q.d with|some x=>⟨x.2,q.n-1⟩|none=>q
 rest q:=q.n
def EM:TQ:=⟨⟨λ_=>[],λ_=>0,[],sA⟩,0⟩
structure Np (ps:List Pk)(ns:lZ)(se:Int)(q:TQ):Prop where
 l:DN (Aj ps) (Bg ps) (Cb ns) se q.d
 b:q.n=Ι q.d.a 8
 j:∀f,8<=f->q.d.a f=[]
section
variable {ps:List Pk}{ns:List Int}{se:Int}
def Np.g{q}(h:Np ps ns se q):q.n=0↔q.d.g=[]:=by
 constructor
 .
  intro O;let I:∀f,q.d.a f=[]:=λf=>by
   obtain E|E:=nR f 8
   have:=Y0 q.d.a 8 E;let U:=h.b;exact Ğ.1 N
   exact h.j f E
  cases G:q.d.g with
  |nil=>rfl
  |cons f r=>cases (h.l.a f).1 sL (I f)
 intro G;rw[h.b];refine Vf (λf=>?_) 8;cases E:q.d.a f with
 |nil=>rfl
 |cons a b=>
  have:=(h.l.a f).2 (oj E);simp_all
def Np.i{q}(G:∀f,1<=Cb ns f)(h:Np ps ns se q)(U:0<q.n):∃k e,iB ps ns q.d=A (k,e)/\(BF ps ns).pick q=k/\(BF ps ns).h q=⟨e,q.n-1⟩/\∃f r c,nO (Aj ps) (Bg ps) (Cb ns) se q.d k e f r c:=by
 let O:q.d.g≠[]:=λe=>oe (h.g.2 e)
 let⟨⟨k,e⟩,I⟩:=nQ G _ _ h.l O lr;let E:iB ps ns _=A _:=I;refine⟨k,e,E,?_,?_,dw G _ _ _ _ h.l I⟩
 simp[BF,E]
 simp[BF,E]
def Np.h{q}(V:∀f,1<=Cb ns f)(h:Np ps ns se q)(Z:0<q.n):Np ps ns se ((BF ps ns).h q):=by
 obtain⟨k,e,c,c,Y,f,r,c,c⟩:=h.i V Z;rw[Y];let O:e.a=A8 q.d.a f r:=by rw[c.h,TY,c.u]
 let I:q.d.a f=k::r:=c.u▸c.g
 let G:f<8:=by
  obtain E|E:=nR f 8
  exact E
  have:=h.j f E;rw[I]at this;cases this
 refine⟨c.h▸c.y.j c.i c.g c.j,?_,λg c=>?_⟩
 .
  let U:=YF q.d.a f r 8;rw[Æ G,Æ G,I,Ċ]at U;let e:=h.b;show q.n-1=Ι _ 8
  rw[O];omega
 rw[O,Az _ _ N];exact h.j g c
def Np.e{q}(G:Ar ps)(U:∀k,Bg ps k<=se)(h:Np ps ns se q) k:Np ps ns se ((BF ps ns).e q k):=by
 let E:=TZ G k;let I:((BF ps ns).e q k).d.a=A8 _ _ _:=rfl;refine⟨h.l.e k (CO G k).1 (U k),?_,λg V=>?_⟩
 .
  let O:=YF q.d.a (Aj ps k) (q.d.a (Aj ps k)++[k]) 8;rw[Æ E,Æ E,ý,Ċ,Ġ]at O;let Y:=h.b;show q.n+1=Ι _ 8
  rw[I];omega
 rw[I,Az _ _ N];exact h.j g V
def Nz (I:Ar ps)(E:∀f,1<=Cb ns f)(U:1<=se)(V:∀k,Bg ps k<=se):dO (BF ps ns) (Aj ps) (Bg ps) (Cb ns) EM (Np ps ns se) TQ.d where
 c:=⟨⟨Qb U,J,λ_ _=>J⟩,J⟩
 e:=λq k h=>⟨h.e I V k,J⟩
 pick:=λq h G=>⟨h.h E G,by
  obtain⟨k,e,Z,O,Y,-⟩:=h.i E G;rw[O,Y];exact⟨_,Z⟩⟩
 rest:=λq h=>h.g
 m:=λq h _=>⟨h,J⟩
variable {per:Int}
def IR (E:Ar ps)(G:∀f,1<=Cb ns f):MK (BF ps ns) per ps EM where
 none:=rfl
 e:=λs _ _=>J
 h:=λs O I=>by
  let⟨H,r⟩:=Sb (se:=1500) (Nz E G N (λk=>(CO E k).2)) G N (λk _=>CO E k) E O;obtain⟨k,e,Y,U,V,-⟩:=r.g.i G I;rw[V];let Z:0<s.q.n:=I;show s.q.n-1+1=s.q.n
  omega
 pick:=λs O I=>by
  let⟨H,r⟩:=Sb (se:=1500) (Nz E G N (λk=>(CO E k).2)) G N (λk _=>CO E k) E O;obtain⟨k,e,Y,U,V,f,t,c,c⟩:=r.g.i G I;rw[U];refine(r.p f k ?_).1;rw[<-c.u,c.g];exact ï ..
 m:=λs _ h=>h
def Hr (E:Ar ps)(G:∀f,1<=Cb ns f)(I:1<=se)(O:∀k,Bg ps k<=se){s}(U:Â (BF ps ns) per ps EM s):=
 Sb (Nz E G I O) G I (λk _=>⟨(CO E k).1,O k⟩) E U
def KS (E:Ar ps)(I:∀f,1<=Cb ns f){s}(G:Â (BF ps ns) per ps EM s):Np ps ns 1500 s.q:=let⟨H,r⟩:=Hr (se:=1500) E I N (λk=>(CO E k).2) G;r.g
def Yi (E:Ar ps)(U:∀f,1<=Cb ns f){s}(I:Â (BF ps ns) per ps EM s) f:(s.q.d.a f).length<=300/\∀k,k∈s.q.d.a f->k<s.e/\Aj ps k=f:=by
 let⟨H,r⟩:=Hr (se:=1500) E U N (λk=>(CO E k).2) I;refine⟨?_,λk O=>⟨(r.p f k O).1,(r.l.h f k O).1⟩⟩;obtain G|G:=nR f 8
 let H:=Y0 s.q.d.a 8 G;let Y:=r.g.b;let H:=I.b (IR E U);let Z:=I.a;let H:=E.j;let V:(BF ps ns).rest _=s.q.n:=rfl;omega
 rw[r.g.j f G];simp
end
def VM{E}(Q:Ě E)(per:Int)(ps:List Pk)(s:St E):Option (St E):=
 match ps[s.e]? with
 |some p=>if p.a<=s.d then A ⟨s.p,s.d,s.e+1,Q.e s.q s.e⟩else if 0<Q.rest s.q then(match ps[Q.pick s.q]? with|some p=>A ⟨s.p++[⟨Q.pick s.q,s.d,s.d+per*p.h⟩],s.d+per*p.h,s.e,Q.h s.q⟩|none=>sA)else A ⟨s.p,p.a,s.e,Q.m s.q⟩
 |none=>if 0<Q.rest s.q then(match ps[Q.pick s.q]? with|some p=>A ⟨s.p++[⟨Q.pick s.q,s.d,s.d+per*p.h⟩],s.d+per*p.h,s.e,Q.h s.q⟩|none=>sA)else sA
def Pg{E}(Q:Ě E)(per:Int)(ps:List Pk)(s:St E)
 |0=>A s
 |n+1=>(Pg Q per ps s n).bind (VM Q per ps)
section
variable {σ:Type}{Q:Ě σ}{per:Int}{ps:List Pk}{q0:σ}
def QX{s}(h:Â Q per ps q0 s):∃n,Pg Q per ps ⟨[],0,0,q0⟩ n=A s:=by
 refine h.d (sd:=λs=>∃n,Pg Q per ps ⟨[],0,0,q0⟩ n=A s) ⟨0,J⟩ ?_ ?_ ?_
 rintro s p _ E O⟨n,G⟩;refine⟨n+1,?_⟩;rw[Pg,G,kx,VM,E];simp[Æ O]
 .
  rintro s p _ U I E⟨n,G⟩;refine⟨n+1,?_⟩;rw[Pg,G,kx,VM];cases V:ps[s.e]? with
  |none=>simp[Æ I,E]
  |some r=>
   simp_all
 intro s p _ E O I⟨n,G⟩;refine⟨n+1,?_⟩;rw[Pg,G,kx,VM,E];simp[Ä (show ¬p.a<=s.d by omega),Ä (show ¬0<Q.rest s.q by omega)]
def RH{s0 s n}(h:Pg Q per ps s0 n=A s)(E:VM Q per ps s=sA):∀k,Pg Q per ps s0 (n+k+1)=sA
 |0=>by rw[Pg,h,kx,E]
 |k+1=>by rw[show n+(k+1)+1=(n+k+1)+1 by omega,Pg,RH h E k];rfl
def QH{s t}(Z:Â Q per ps q0 s)(V:Â Q per ps q0 t)(Y:¬s.e<ps.length)(U:Q.rest s.q=0)(O:¬t.e<ps.length)(I:Q.rest t.q=0):s=t:=by
 let end_:∀u:St σ,¬u.e<ps.length->Q.rest u.q=0->VM Q per ps u=none:=λu h h=>by
  rw[VM,ą N];simp[Ä (show ¬0<Q.rest u.q by omega)]
 let⟨n,G⟩:=QX Z;let⟨m,E⟩:=QX V;obtain h|h|h:=θ n m
 have:=RH G (end_ s Y U) (m-n-1);rw[show n+(m-n-1)+1=m by omega,E]at this;cases this
 simp_all
 have:=RH E (end_ t O I) (n-m-1);rw[show m+(n-m-1)+1=n by omega,G]at this;cases this
end
def ES (per:Int)(ps:List Pk)(E:lZ)(l:List Sn):=∃s,Â (BF ps E) per ps EM s/\¬s.e<ps.length/\(BF ps E).rest s.q=0/\s.p=l
def ES.u{per ps E l m}(h:ES per ps E l)(k:ES per ps E m):l=m:=by
 obtain⟨s,V,U,Y,rfl⟩:=h;obtain⟨t,G,I,O,rfl⟩:=k;rw[QH V G U Y I O]
end Go.Proofs.YtaoikkhlnhfkfaaGreatDoor
