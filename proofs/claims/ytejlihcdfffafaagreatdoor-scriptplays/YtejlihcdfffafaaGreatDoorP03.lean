import Derived.Test.YtejlihcdfffafaaGreatDoorP02
namespace Go.Proofs.YtejlihcdfffafaaGreatDoor
structure Drr where
 qs:Nat->List Nat
 cr:Nat->Int
 row:List Nat
 srv:Option Nat
def AB {h:Type}(f:Nat->h)(k:Nat)(x:h):Nat->h:=fun i=>if i=k then x else f i
theorem AJ {h:Type}(f:Nat->h)(k:Nat)(x:h):AB f k x k=x:=if_pos rfl
theorem Au {h:Type}(f:Nat->h){k i:Nat}(x:h)(z:i≠k):AB f k x i=f i:=if_neg z
def Drr.line (d:Drr):List Nat:=match d.srv with | some f=>f::d.row | none=>d.row
section
variable (fl:Nat → Nat) (sz:Nat → Int) (qu:Nat → Int)
def Drr.come (d:Drr)(k:Nat):Drr:={ d with qs:=AB d.qs (fl k) (d.qs (fl k)++[k]),row:=if fl k∈d.line then d.row else d.row++[fl k] }
def Drr.turn (d:Drr)(f:Nat)(r:List Nat):Drr:={ d with srv:=some f,row:=r,cr:=AB d.cr f (d.cr f+qu f) }
def Drr.back (d:Drr)(f:Nat):Drr:={ d with srv:=none,row:=d.row++[f] }
def Drr.sent (d:Drr)(f k:Nat)(r:List Nat):Drr:=if r=[]then { d with qs:=AB d.qs f [],cr:=AB d.cr f 0,srv:=none } else { d with qs:=AB d.qs f r,cr:=AB d.cr f (d.cr f-sz k) }
structure Dp (M:Int)(d:Drr):Prop where
 nodup:d.line.Nodup
 active:∀ f,f∈d.line↔d.qs f≠[]
 low:∀ f,0<=d.cr f
 idle:∀ f,d.qs f=[]->d.cr f=0
 high:∀ f,d.srv≠some f->d.cr f<=M-1
 top:∀ f,d.srv=some f->d.cr f<=M-1+qu f
 size:∀ f k,k∈d.qs f->fl k=f/\1<=sz k/\sz k<=M
 big:1<=M
variable {fl sz qu} {M:Int} {d:Drr}
theorem Drr.line_come (d:Drr)(k:Nat):(d.come fl k).line=if fl k∈d.line then d.line else d.line++[fl k]:=by
 by_cases h:fl k∈d.line
 ·
  have e:(d.come fl k).row=d.row:=if_pos h;rw[if_pos h];show(match d.srv with | some f=>f::(d.come fl k).row | none=>(d.come fl k).row)=d.line
  rw[e];rfl
 have e:(d.come fl k).row=d.row++[fl k]:=if_neg h;rw[if_neg h];show(match d.srv with | some f=>f::(d.come fl k).row | none=>(d.come fl k).row)=d.line++[fl k]
 rw[e];unfold Drr.line;cases d.srv <;> rfl
theorem Dp.come (h:Dp fl sz qu M d)(k:Nat)(Q:1<=sz k)(N:sz k<=M):Dp fl sz qu M (d.come fl k):=by
 have I:=Drr.line_come (fl:=fl) d k;refine⟨?_,fun f=>?_,h.low,fun f E=>?_,h.high,h.top,fun f j D=>?_,h.big⟩
 ·
  rw[I];split
  · exact h.nodup
  next hn=>exact List.nodup_append.2 ⟨h.nodup,yA.2 ⟨by simp,List.nodup_nil⟩,fun a O b J e=>hn (by rw[vJ]at J;rw[<- J,<- e];exact O)⟩
 ·
  rw[I];show _↔AB d.qs (fl k) (d.qs (fl k)++[k]) f≠[]
  by_cases e:f=fl k
  ·
   subst e;rw[AJ];constructor
   · intro _ K;simp at K
   intro _;split
   · next z=>exact z
   exact vI.2 (.inr (vJ.2 rfl))
  rw[Au _ _ e,<- h.active f];split
  · exact Iff.rfl
  constructor
  ·
   intro z;rcases vI.1 z with z|z
   · exact z
   exact absurd (vJ.1 z) e
  intro z;exact vI.2 (.inl z)
 ·
  by_cases e:f=fl k
  · subst e;have:(d.come fl k).qs (fl k)=d.qs (fl k)++[k]:=AJ _ _ _;rw[this]at E;simp at E
  have:(d.come fl k).qs f=d.qs f:=Au _ _ e;rw[this]at E;exact h.idle f E
 by_cases e:f=fl k
 ·
  subst e;have H:(d.come fl k).qs (fl k)=d.qs (fl k)++[k]:=AJ _ _ _;rw[H]at D;rcases vI.1 D with D|D
  · exact h.size _ j D
  rw[vJ]at D;subst D;exact⟨rfl,Q,N⟩
 have H:(d.come fl k).qs f=d.qs f:=Au _ _ e;rw[H]at D;exact h.size f j D
theorem Dp.turn (h:Dp fl sz qu M d)(N:∀ f,1<=qu f)(D:d.srv=none){f:Nat}{r:List Nat}(J:d.row=f::r):Dp fl sz qu M (d.turn qu f r):=by
 have I:d.line=f::r:=by unfold Drr.line;rw[D];exact J
 have E:(d.turn qu f r).line=d.line:=by rw[I];rfl
 have K:=(h.active f).1 (by rw[I];exact qA ..);refine⟨by rw[E];exact h.nodup,fun g=>by rw[E];exact h.active g,fun g=>?_,fun g z=>?_,fun g z=>?_,fun g z=>?_,h.size,h.big⟩
 ·
  show 0<=AB d.cr f (d.cr f+qu f) g
  by_cases e:g=f
  · subst e;rw[AJ];have:=h.low g;have:=N g;omega
  rw[Au _ _ e];exact h.low g
 ·
  show AB d.cr f (d.cr f+qu f) g=0
  have H:d.qs g=[]:=z;by_cases e:g=f
  · subst e;exact absurd H K
  rw[Au _ _ e];exact h.idle g H
 ·
  show AB d.cr f (d.cr f+qu f) g<=M-1
  by_cases e:g=f
  · subst e;exact absurd rfl z
  rw[Au _ _ e];exact h.high g (by rw[D];intro e;cases e)
 show AB d.cr f (d.cr f+qu f) g<=M-1+qu g
 obtain rfl:f=g:=Option.some.inj z;rw[AJ];have:=h.high f (by rw[D];intro e;cases e);omega
theorem Dp.back (h:Dp fl sz qu M d){f k:Nat}{r:List Nat}(I:d.srv=some f)(J:d.qs f=k::r)(U:d.cr f<sz k):Dp fl sz qu M (d.back f):=by
 have H:d.line=f::d.row:=by unfold Drr.line;rw[I]
 have D:(d.back f).line=d.row++[f]:=rfl;have Q:=h.size f k (by rw[J];exact qA ..);have z:=h.nodup;rw[H]at z;obtain⟨n1,n2⟩:=yA.1 z;refine⟨?_,fun g=>?_,h.low,h.idle,fun g _=>?_,fun g K=>(by cases K),h.size,h.big⟩
 · rw[D];exact List.nodup_append.2 ⟨n2,yA.2 ⟨by simp,List.nodup_nil⟩,fun a O b E e=>n1 (by rw[vJ]at E;rw[<- E,<- e];exact O)⟩
 ·
  rw[D];have:=h.active g;rw[H]at this;show _↔d.qs g≠[]
  rw[<- this];simp only[vI,qS,List.not_mem_nil,or_false];constructor
  ·
   rintro(h|h)
   · exact .inr h
   exact .inl h
  rintro(h|h)
  · exact .inr h
  exact .inl h
 show d.cr g<=M-1
 by_cases e:g=f
 · subst e;omega
 exact h.high g (by rw[I];intro N;exact e (Option.some.inj N).symm)
theorem Dp.sent (h:Dp fl sz qu M d){f k:Nat}{r:List Nat}(I:d.srv=some f)(U:d.qs f=k::r)(ab:sz k<=d.cr f):Dp fl sz qu M (d.sent sz f k r):=by
 have N:d.line=f::d.row:=by unfold Drr.line;rw[I]
 have Z:=h.size f k (by rw[U];exact qA ..);have Q:=h.nodup;rw[N]at Q;obtain⟨n1,n2⟩:=yA.1 Q;have V:=h.big;by_cases J:r=[]
 ·
  have O:d.sent sz f k r={ d with qs:=AB d.qs f [],cr:=AB d.cr f 0,srv:=none }:=if_pos J;rw[O];refine⟨n2,fun g=>?_,fun g=>?_,fun g D=>?_,fun g _=>?_,fun g D=>(by cases D),fun g j K=>?_,V⟩
  ·
   show g∈d.row↔AB d.qs f [] g≠[]
   have:=h.active g;rw[N]at this;by_cases e:g=f
   · subst e;rw[AJ];exact⟨fun E=>absurd E n1,fun W=>absurd rfl W⟩
   rw[Au _ _ e,<- this];exact ⟨fun E=>qG _ E,fun E=>by
    rcases qS.1 E with E|E
    · exact absurd E e
    exact E⟩
  ·
   show 0<=AB d.cr f 0 g
   by_cases e:g=f
   · subst e;rw[AJ];exact q8 _
   rw[Au _ _ e];exact h.low g
  ·
   show AB d.cr f 0 g=0
   by_cases e:g=f
   · subst e;exact AJ _ _ _
   have z:AB d.qs f [] g=[]:=D;rw[Au _ _ e]at z ⊢;exact h.idle g z
  ·
   show AB d.cr f 0 g<=M-1
   by_cases e:g=f
   · subst e;rw[AJ];omega
   rw[Au _ _ e];exact h.high g (by rw[I];intro Y;exact e (Option.some.inj Y).symm)
  have H:j∈AB d.qs f [] g:=K;by_cases e:g=f
  · subst e;rw[AJ]at H;cases H
  rw[Au _ _ e]at H;exact h.size g j H
 have O:d.sent sz f k r={ d with qs:=AB d.qs f r,cr:=AB d.cr f (d.cr f-sz k) }:=if_neg J;rw[O];refine⟨h.nodup,fun g=>?_,fun g=>?_,fun g D=>?_,fun g D=>?_,fun g D=>?_,fun g j K=>?_,V⟩
 ·
  show g∈d.line↔AB d.qs f r g≠[]
  by_cases e:g=f
  · subst e;rw[AJ];exact⟨fun _=>J,fun _=>by rw[N];exact qA ..⟩
  rw[Au _ _ e];exact h.active g
 ·
  show 0<=AB d.cr f (d.cr f-sz k) g
  by_cases e:g=f
  · subst e;rw[AJ];omega
  rw[Au _ _ e];exact h.low g
 ·
  show AB d.cr f (d.cr f-sz k) g=0
  have z:AB d.qs f r g=[]:=D;by_cases e:g=f
  · subst e;rw[AJ]at z;exact absurd z J
  rw[Au _ _ e]at z ⊢;exact h.idle g z
 ·
  show AB d.cr f (d.cr f-sz k) g<=M-1
  have z:d.srv≠some g:=D;have e:g≠f:=fun e=>z (by rw[e];exact I)
  rw[Au _ _ e];exact h.high g z
 ·
  show AB d.cr f (d.cr f-sz k) g<=M-1+qu g
  have z:d.srv=some g:=D;obtain rfl:f=g:=Option.some.inj (I.symm.trans z);rw[AJ];have:=h.top f I;omega
 have H:j∈AB d.qs f r g:=K;by_cases e:g=f
 · subst e;rw[AJ]at H;exact h.size g j (by rw[U];exact qG _ H)
 rw[Au _ _ e]at H;exact h.size g j H
def CX (a b:Nat):List Nat->Bool
 | []=>true
 | x::r=>if x=a then true else if x=b then false else CX a b r
theorem Gq {a b:Nat}:∀(l m:List Nat),a∈l\/b∈l->CX a b (l++m)=CX a b l:=by
 intro l m;induction l with
 | nil=>intro h;rcases h with h|h <;> cases h
 | cons x r D=>
  intro h;simp only[yL,CX];by_cases e:x=a
  · rw[if_pos e,if_pos e]
  by_cases z:x=b
  · rw[if_neg e,if_neg e,if_pos z,if_pos z]
  rw[if_neg e,if_neg e,if_neg z,if_neg z];refine D ?_
  rcases h with h|h
  ·
   rcases qS.1 h with h|h
   · exact absurd h.symm e
   exact .inl h
  rcases qS.1 h with h|h
  · exact absurd h.symm z
  exact .inr h
theorem VZ {a b:Nat}:∀(l:List Nat),a ∉ l->b∈l->CX a b l=false:=by
 intro l;induction l with
 | nil=>intro _ h;cases h
 | cons x r H=>
  intro D E;simp only[CX];have e:x≠a:=fun e=>D (by rw[e];exact qA ..)
  rw[if_neg e];by_cases z:x=b
  · rw[if_pos z]
  rw[if_neg z];refine H (fun h=>D (qG _ h)) ?_
  rcases qS.1 E with h|h
  · exact absurd h.symm z
  exact h
theorem Ty {a b:Nat}:∀(l:List Nat),b ∉ l->a∈l->CX a b l=true:=by
 intro l;induction l with
 | nil=>intro _ h;cases h
 | cons x r E=>
  intro z D;simp only[CX];by_cases e:x=a
  · rw[if_pos e]
  rw[if_neg e,if_neg (fun e=>z (by rw[e];exact qA ..))];refine E (fun h=>z (qG _ h)) ?_
  rcases qS.1 D with h|h
  · exact absurd h.symm e
  exact h
def Drr.pot (d:Drr)(a b:Nat):Int:=(if CX a b d.line then 0 else 1)+(if d.srv=some a then 1 else 0)-(if d.srv=some b then 1 else 0)
def Drr.lead (d:Drr)(h:Nat->Int)(a b:Nat):Int:=h a*h b*d.pot a b-d.cr a*h b+d.cr b*h a
theorem Dp.cr_in (h:Dp fl sz qu M d)(z:∀ f,1<=qu f)(f:Nat):0<=d.cr f/\d.cr f<=M-1+qu f:=by
 refine⟨h.low f,?_⟩;by_cases e:d.srv=some f
 · exact h.top f e
 have:=h.high f e;have:=z f;omega
theorem ZA {a b:Nat}(k:Nat)(z:a∈d.line):(d.come fl k).lead qu a b=d.lead qu a b:=by
 have h:(d.come fl k).pot a b=d.pot a b:=by
  unfold Drr.pot;rw[Drr.line_come];have e:(d.come fl k).srv=d.srv:=rfl;rw[e];split
  · rfl
  rw[Gq _ _ (.inl z)]
 unfold Drr.lead;rw[h];rfl
theorem ZZ {a b:Nat}(E:a≠b)(H:d.srv=none){f:Nat}{r:List Nat}(K:d.row=f::r):(d.turn qu f r).lead qu a b=d.lead qu a b:=by
 have D:d.line=f::r:=by unfold Drr.line;rw[H];exact K
 have I:(d.turn qu f r).line=d.line:=by rw[D];rfl
 have hs2:(d.turn qu f r).srv=some f:=rfl;have J:(d.turn qu f r).cr=AB d.cr f (d.cr f+qu f):=rfl;unfold Drr.lead Drr.pot;rw[I,hs2,H,J,D];simp only[CX,Option.some.injEq];by_cases h:f=a
 · subst h;rw[AJ,Au _ _ (Ne.symm E)];simp only[if_true,if_neg E,reduceCtorEq,if_false];rw[Int.add_mul];omega
 by_cases z:f=b
 · subst z;rw[AJ,Au _ _ (Ne.symm h)];simp only[if_true,if_neg h,reduceCtorEq,if_false,Bool.false_eq_true];rw[Int.add_mul,xK (qu f) (qu a)];omega
 rw[Au _ _ (Ne.symm h),Au _ _ (Ne.symm z)];simp only[if_neg h,if_neg z,reduceCtorEq,if_false]
theorem bF {a b:Nat}(Q:a≠b)(K:d.line.Nodup){f:Nat}(V:d.srv=some f)(J:a∈d.line)(N:b∈d.line):(d.back f).lead qu a b=d.lead qu a b:=by
 have O:d.line=f::d.row:=by unfold Drr.line;rw[V]
 have W:(d.back f).line=d.row++[f]:=rfl;have hs2:(d.back f).srv=none:=rfl;have Y:(d.back f).cr=d.cr:=rfl;rw[O]at K J N;obtain⟨n1,n2⟩:=yA.1 K;have Z:(d.back f).pot a b=d.pot a b:=by
  unfold Drr.pot;rw[W,hs2,V,O];by_cases z:f=a
  ·
   subst z;have U:b∈d.row:=by
    rcases qS.1 N with h|h
    · exact absurd h.symm Q
    exact h
   have E:CX f b (f::d.row)=true:=by simp[CX]
   have D:CX f b (d.row++[f])=false:=by rw[Gq _ _ (.inr U)];exact VZ _ n1 U
   simp[E,D,Q]
  by_cases I:f=b
  ·
   subst I;have H:a∈d.row:=by
    rcases qS.1 J with h|h
    · exact absurd h.symm z
    exact h
   have E:CX a f (f::d.row)=false:=by simp[CX,z]
   have D:CX a f (d.row++[f])=true:=by rw[Gq _ _ (.inl H)];exact Ty _ n1 H
   simp[E,D,z]
  have H:a∈d.row:=by
   rcases qS.1 J with h|h
   · exact absurd h.symm z
   exact h
  have E:CX a b (f::d.row)=CX a b d.row:=by simp[CX,z,I]
  have D:CX a b (d.row++[f])=CX a b d.row:=Gq _ _ (.inl H);simp[E,D,z,I]
 unfold Drr.lead;rw[Z,Y]
end
section
variable (fl:Nat → Nat) (sz:Nat → Int) (qu:Nat → Int)
def Drr.go:Nat->Drr->Option (Nat×Drr)
 | 0,_=>none
 | n+1,d=>match d.srv with
  | none=>(match d.row with | []=>none | f::r=>Drr.go n (d.turn qu f r))
  | some f=>(match d.qs f with | []=>none | k::r=>if sz k<=d.cr f then some (k,d.sent sz f k r)else Drr.go n (d.back f))
def jo (d:Drr)(k:Nat)(e:Drr):Prop:=∃ n,Drr.go sz qu n d=some (k,e)
structure Zl (M:Int)(d:Drr)(k:Nat)(e:Drr)(f:Nat)(r:List Nat)(c:Drr):Prop where
 ok:Dp fl sz qu M c
 srv:c.srv=some f
 head:c.qs f=k::r
 fit:sz k<=c.cr f
 left:e=c.sent sz f k r
 same:c.qs=d.qs
 lead:∀ a b,a≠b->a∈d.line->b∈d.line->c.lead qu a b=d.lead qu a b
variable {fl sz qu} {M:Int}
theorem U5 (Z:∀ f,1<=qu f):∀(n:Nat)(d:Drr)(k:Nat)(e:Drr),Dp fl sz qu M d->Drr.go sz qu n d=some (k,e)->∃ f r c,Zl fl sz qu M d k e f r c:=by
 intro n;induction n with
 | zero=>intro d k e _ h;simp[Drr.go]at h
 | succ n Y=>
  intro d k e Q h;unfold Drr.go at h;cases E:d.srv with
  | none=>
   rw[E]at h;simp only at h;cases H:d.row with
   | nil=>rw[H]at h;simp at h
   | cons f r=>
    rw[H]at h;simp only at h;have V:d.line=f::r:=by unfold Drr.line;rw[E];exact H
    have J:(d.turn qu f r).line=d.line:=by rw[V];rfl
    obtain⟨U,r',c,z⟩:=Y _ k e (Q.turn Z E H) h;exact⟨U,r',c,z.ok,z.srv,z.head,z.fit,z.left,z.same,fun a b I D O=>(z.lead a b I (by rw[J];exact D) (by rw[J];exact O)).trans (ZZ I E H)⟩
  | some f=>
   rw[E]at h;simp only at h;cases K:d.qs f with
   | nil=>rw[K]at h;simp at h
   | cons j r=>
    rw[K]at h;simp only at h;by_cases N:sz j<=d.cr f
    · rw[if_pos N]at h;have h:=Option.some.inj h;obtain⟨rfl,rfl⟩:=Prod.mk.inj h;exact⟨f,r,d,Q,E,K,N,rfl,rfl,fun _ _ _ _ _=>rfl⟩
    rw[if_neg N]at h;have V:d.line=f::d.row:=by unfold Drr.line;rw[E]
    have J:(d.back f).line=d.row++[f]:=rfl;have W:∀ a,a∈d.line->a∈(d.back f).line:=fun a D=>by
     rw[V]at D;rw[J];rcases qS.1 D with D|D
     · exact vI.2 (.inr (vJ.2 D))
     exact vI.2 (.inl D)
    obtain⟨U,r',c,z⟩:=Y _ k e (Q.back E K (Int.lt_of_not_ge N)) h;exact⟨U,r',c,z.ok,z.srv,z.head,z.fit,z.left,z.same,fun a b I D O=>(z.lead a b I (W a D) (W b O)).trans (bF I Q.nodup E D O)⟩
theorem iJ:∀(n:Nat)(d:Drr)(x:Nat×Drr),Drr.go sz qu n d=some x->Drr.go sz qu (n+1) d=some x:=by
 intro n;induction n with
 | zero=>intro d x h;simp[Drr.go]at h
 | succ n H=>
  intro d x h;rw[Drr.go]at h ⊢;cases I:d.srv with
  | none=>
   rw[I]at h;simp only at h ⊢;cases E:d.row with
   | nil=>rw[E]at h;simp at h
   | cons f r=>
    rw[E]at h;simp only at h ⊢;exact H _ _ h
  | some f=>
   rw[I]at h;simp only at h ⊢;cases z:d.qs f with
   | nil=>rw[z]at h;simp at h
   | cons j r=>
    rw[z]at h;simp only at h ⊢;by_cases D:sz j<=d.cr f
    · rw[if_pos D]at h ⊢;exact h
    rw[if_neg D]at h ⊢;exact H _ _ h
def Drr.lack (h:Nat->Int)(d:Drr)(f:Nat):Nat:=match d.qs f with | []=>0 | k::_=>(h k-d.cr f).toNat
def Drr.need (h:Nat->Int)(d:Drr):Nat:=(d.line.map (d.lack h)).sum
theorem PI:∀(l:List Nat)(a:Nat),a∈l->a<=l.sum
 | [],_,h=>by cases h
 | x::r,a,h=>by
  rw[zE];rcases qS.1 h with h|h
  · omega
  have:=PI r a h;omega
theorem Vg (V:∀ f,1<=qu f):∀(z:Nat)(d:Drr),Dp fl sz qu M d->d.line≠[]->d.need sz<=z->d.srv=none->∃ x,Drr.go sz qu (2*z+4) d=some x:=by
 intro z;induction z with
 | zero=>
  intro d J N al E;have D:d.line=d.row:=by unfold Drr.line;rw[E]
  cases h:d.row with
  | nil=>rw[D,h]at N;exact absurd rfl N
  | cons f r=>
   have O:f∈d.line:=by rw[D,h];exact qA ..
   have U:d.lack sz f<=d.need sz:=PI _ _ (List.mem_map.2 ⟨f,O,rfl⟩);have ac:=(J.active f).1 O;unfold Drr.lack at U;cases H:d.qs f with
   | nil=>exact absurd H ac
   | cons k r'=>
    rw[H]at U;simp only at U;have Q:(d.turn qu f r).cr f=d.cr f+qu f:=AJ _ _ _;have hs1:(d.turn qu f r).srv=some f:=rfl;have K:(d.turn qu f r).qs f=k::r':=H;have I:sz k<=(d.turn qu f r).cr f:=by rw[Q];have:=V f;omega
    refine⟨(k,(d.turn qu f r).sent sz f k r'),?_⟩;rw[Drr.go,E];simp only[h];rw[Drr.go,hs1];simp only[K,if_pos I]
 | succ z ai=>
  intro d J N al E;have D:d.line=d.row:=by unfold Drr.line;rw[E]
  cases h:d.row with
  | nil=>rw[D,h]at N;exact absurd rfl N
  | cons f r=>
   have aj:=J.turn V E h;have O:d.qs f≠[]:=(J.active f).1 (by rw[D,h];exact qA ..);cases H:d.qs f with
   | nil=>exact absurd H O
   | cons k r'=>
    have hs1:(d.turn qu f r).srv=some f:=rfl;have K:(d.turn qu f r).qs f=k::r':=H;by_cases I:sz k<=(d.turn qu f r).cr f
    · refine⟨(k,(d.turn qu f r).sent sz f k r'),?_⟩;rw[show 2*(z+1)+4=(2*z+4)+1+1 by omega,Drr.go,E];simp only[h];rw[Drr.go,hs1];simp only[K,if_pos I]
    have Z:=aj.back hs1 K (Int.lt_of_not_ge I);have W:((d.turn qu f r).back f).line=r++[f]:=rfl;have Q:(d.turn qu f r).cr f=d.cr f+qu f:=AJ _ _ _;have Y:=J.nodup;rw[D,h]at Y;obtain⟨n1,n2⟩:=yA.1 Y;have hl1:∀ g,g∈r->((d.turn qu f r).back f).lack sz g=d.lack sz g:=fun g ad=>by
     have e:g≠f:=fun e=>n1 (by rw[<- e];exact ad)
     unfold Drr.lack;show(match d.qs g with | []=>0 | k::_=>(sz k-AB d.cr f (d.cr f+qu f) g).toNat)=_
     rw[Au _ _ e]
    have am:((d.turn qu f r).back f).lack sz f+1<=d.lack sz f:=by
     unfold Drr.lack;show(match d.qs f with | []=>0 | k::_=>(sz k-AB d.cr f (d.cr f+qu f) f).toNat)+1<=_
     rw[AJ,H];simp only;rw[Q]at I;have:=V f;omega
    have an:((d.turn qu f r).back f).need sz+1<=d.need sz:=by
     unfold Drr.need;rw[W,D,h,List.map_append,List.sum_append,yS,zE,List.map_congr_left hl1];simp only[yS,List.map_nil,zE,List.sum_nil];omega
    obtain⟨x,ab⟩:=ai ((d.turn qu f r).back f) Z (by rw[W];simp) (by omega) rfl;refine⟨x,?_⟩;rw[show 2*(z+1)+4=(2*z+4)+1+1 by omega,Drr.go,E];simp only[h];rw[Drr.go,hs1];simp only[K,if_neg I];exact ab
theorem Y3 (K:∀ f,1<=qu f)(z:Nat)(d:Drr)(I:Dp fl sz qu M d)(U:d.line≠[])(N:d.need sz<=z):∃ x,Drr.go sz qu (2*z+5) d=some x:=by
 cases h:d.srv with
 | none=>
  obtain⟨x,H⟩:=Vg K z d I U N h;exact⟨x,iJ _ _ _ H⟩
 | some f=>
  have J:d.line=f::d.row:=by unfold Drr.line;rw[h]
  have V:d.qs f≠[]:=(I.active f).1 (by rw[J];exact qA ..);cases D:d.qs f with
  | nil=>exact absurd D V
  | cons k r'=>
   by_cases E:sz k<=d.cr f
   · refine⟨(k,d.sent sz f k r'),?_⟩;rw[Drr.go,h];simp only[D,if_pos E]
   have O:=I.back h D (Int.lt_of_not_ge E);have Y:(d.back f).line=d.row++[f]:=rfl;have Z:(d.back f).need sz=d.need sz:=by
    have W:(d.back f).need sz=((d.row++[f]).map (d.lack sz)).sum:=rfl;have Q:d.need sz=((f::d.row).map (d.lack sz)).sum:=by unfold Drr.need;rw[J]
    rw[W,Q,List.map_append,List.sum_append,yS,zE];simp only[yS,List.map_nil,zE,List.sum_nil];omega
   obtain⟨x,H⟩:=Vg K z (d.back f) O (by rw[Y];simp) (by omega) rfl;refine⟨x,?_⟩;rw[Drr.go,h];simp only[D,if_neg E];exact H
end
structure VK {σ:Type}(Q:Que σ)(fl:Nat->Nat)(sz qu:Nat->Int)(q0:σ)(ok:σ->Prop)(view:σ->Drr):Prop where
 start:ok q0/\view q0=⟨fun _=>[],fun _=>0,[],none⟩
 come:∀ q k,ok q->ok (Q.come q k)/\view (Q.come q k)=(view q).come fl k
 pick:∀ q,ok q->0<Q.rest q->ok (Q.left q)/\jo sz qu (view q) (Q.pick q) (view (Q.left q))
 rest:∀ q,ok q->(Q.rest q=0↔(view q).line=[])
 idle:∀ q,ok q->Q.rest q=0->ok (Q.idle q)/\view (Q.idle q)=view q
structure Qk {σ:Type}(fl:Nat->Nat)(sz qu:Nat->Int)(M:Int)(ps:List Pk)(ok:σ->Prop)(view:σ->Drr)(s:St σ)(H:List (Drr×Drr)):Prop where
 good:ok s.q
 state:Dp fl sz qu M (view s.q)
 len:H.length=s.out.length
 each:∀(i:Nat) x h,s.out[i]? = some x->H[i]? = some h->∃ k:Nat,x.num=k/\Dp fl sz qu M h.1/\Dp fl sz qu M h.2/\jo sz qu h.1 k h.2/\∀ w:Nat,w<ps.length->Ar ps w<=x.beg->Ay (s.out.take (i+1)) w=false->w∈h.2.qs (fl w)
 next:∀(i:Nat) h h',H[i]? = some h->H[i+1]? = some h'->∀ a b,a∈h.2.line->b∈h.2.line->h'.1.lead qu a b=h.2.lead qu a b
 last:∀ h,H[H.length-1]? = some h->0<H.length->∀ a b,a∈h.2.line->b∈h.2.line->(∀ c,c∈h.2.line->c∈(view s.q).line)/\(view s.q).lead qu a b=h.2.lead qu a b
 wait:∀ w,w<s.next->Ay s.out w=false->w∈(view s.q).qs (fl w)
 only:∀ f w,w∈(view s.q).qs f->w<s.next/\Ay s.out w=false
 le:s.next<=ps.length
 gone:∀ w:Nat,Ay s.out w=true->w<s.next
 once:∀ f,((view s.q).qs f).Nodup
section
variable {σ:Type} {Q:Que σ} {fl:Nat → Nat} {sz qu:Nat → Int} {q0:σ} {ok:σ → Prop} {view:σ → Drr} {M:Int} {per:Int} {ps:List Pk}
theorem aY {d:Drr}{k c:Nat}(h:c∈d.line):c∈(d.come fl k).line:=by
 rw[Drr.line_come];split
 · exact h
 exact vI.2 (.inl h)
theorem MC (z:1<=M):Dp fl sz qu M ⟨fun _=>[],fun _=>0,[],none⟩:=
 ⟨List.nodup_nil,fun f=>⟨(fun h=>by cases h),fun h=>absurd rfl h⟩,fun _=>q8 _,fun _ _=>rfl,(fun _ _=>by show(0:Int)<=M-1;omega),(fun _ h=>by cases h),(fun _ _ h=>by cases h),z⟩
theorem Ph {d:Drr}{f k:Nat}{r:List Nat}:(d.sent sz f k r).qs=AB d.qs f r:=by
 unfold Drr.sent;split
 · next h=>rw[h]
 rfl
theorem NT (ad:VK Q fl sz qu q0 ok view)(a8:∀ f,1<=qu f)(bc:1<=M)(a1:∀ k,k<ps.length->1<=sz k/\sz k<=M)(a9:Al ps){s:St σ}(D:Reaches Q per ps q0 s):∃ I,Qk fl sz qu M ps ok view s I:=by
 refine D.by_steps (C:=fun s=>∃ I,Qk fl sz qu M ps ok view s I) ?_ ?_ ?_ ?_
 ·
  refine⟨[],ad.start.1,by rw[ad.start.2];exact MC bc,rfl,fun i x D K=>by simp at K,fun i D ai K=>by simp at K,fun D _ Z=>by simp at Z,fun w h=>absurd h (vR _),fun f w h=>?_,qR _,(fun w h=>by simp[Ay]at h),fun f=>?_⟩
  rotate_left
  ·
   show((view q0).qs f).Nodup
   rw[ad.start.2];exact List.nodup_nil
  have:w∈(view q0).qs f:=h;rw[ad.start.2]at this;cases this
 ·
  rintro s p aN ar aq ⟨I,r⟩;obtain⟨av,W⟩:=ad.come s.q s.next r.good;have aw:=Af ar;have a4:Ay s.out s.next=false:=by
   cases O:Ay s.out s.next with
   | false=>rfl
   | true=>have:=r.gone _ O;omega
  refine⟨I,av,by rw[W];exact r.state.come _ (a1 _ aw).1 (a1 _ aw).2,r.len,r.each,r.next,fun D z Z a b V Y=>?_,fun w h O=>?_,fun f w h=>?_,aw,fun w h=>xS (r.gone w h),fun f=>?_⟩
  · obtain⟨U,ab⟩:=r.last D z Z a b V Y;refine⟨fun c ap=>by rw[W];exact aY (U c ap),?_⟩;rw[W,ZA _ (U a V)];exact ab
  ·
   show w∈(view (Q.come s.q s.next)).qs (fl w)
   rw[W];show w∈AB (view s.q).qs (fl s.next) ((view s.q).qs (fl s.next)++[s.next]) (fl w)
   rcases qC w s.next with aB|aB
   ·
    have:=r.wait w aB O;by_cases e:fl w=fl s.next
    · rw[e,AJ];rw[e]at this;exact vI.2 (.inl this)
    rw[Au _ _ e];exact this
   obtain rfl:w=s.next:=by simp only at h;omega
   rw[AJ];exact vI.2 (.inr (vJ.2 rfl))
  ·
   have J:w∈(view (Q.come s.q s.next)).qs f:=h;rw[W]at J;have H:w∈AB (view s.q).qs (fl s.next) ((view s.q).qs (fl s.next)++[s.next]) f:=J;by_cases e:f=fl s.next
   ·
    subst e;rw[AJ]at H;rcases vI.1 H with H|H
    · obtain⟨U,ab⟩:=r.only _ w H;exact⟨xS U,ab⟩
    rw[vJ]at H;subst H;exact⟨yV _,a4⟩
   rw[Au _ _ e]at H;obtain⟨U,ab⟩:=r.only _ w H;exact⟨xS U,ab⟩
  show((view (Q.come s.q s.next)).qs f).Nodup
  rw[W];show(AB (view s.q).qs (fl s.next) ((view s.q).qs (fl s.next)++[s.next]) f).Nodup
  by_cases e:f=fl s.next
  · subst e;rw[AJ];refine List.nodup_append.2 ⟨r.once _,yA.2 ⟨by simp,List.nodup_nil⟩,fun a V b Y e=>?_⟩;rw[vJ]at Y;have:=(r.only _ a V).1;omega
  rw[Au _ _ e];exact r.once f
 ·
  rintro s p aN bb Z ar ⟨I,r⟩;obtain⟨av,W⟩:=ad.pick s.q r.good Z;obtain⟨n,aE⟩:=W;obtain⟨f,t,c,E⟩:=U5 a8 n _ _ _ r.state aE;have ao:(view (Q.left s.q)).qs=AB (view s.q).qs f t:=by rw[E.left,Ph,E.same]
  have am:(view s.q).qs f=Q.pick s.q::t:=by rw[<- E.same];exact E.head
  have a0:Q.pick s.q∈(view s.q).qs f:=by rw[am];exact qA ..
  obtain⟨a7,bh,bm⟩:=r.state.size f _ a0;obtain⟨bl,bj⟩:=r.only f _ a0;have a2:=r.once f;rw[am]at a2;obtain⟨n1,n2⟩:=yA.1 a2;have a3:∀ w,w∈(view s.q).qs (fl w)->w≠Q.pick s.q->w∈(view (Q.left s.q)).qs (fl w):=by
   intro w h bd;rw[ao];by_cases e:fl w=f
   ·
    rw[e,AJ];rw[e,am]at h;rcases qS.1 h with D|D
    · exact absurd D bd
    exact D
   rw[Au _ _ e];exact h
  have aS:∀ w:Nat,Ay (s.out++[⟨(Q.pick s.q:Nat),s.now,s.now+per*p.size⟩]) w=false->Ay s.out w=false/\w≠Q.pick s.q:=by
   intro w h;rw[Da,Bool.or_eq_false_iff]at h;exact⟨h.1,fun e=>beq_eq_false_iff_ne.1 h.2 e.symm⟩
  refine⟨I++[(view s.q,view (Q.left s.q))],av,by rw[E.left];exact E.ok.sent E.srv E.head E.fit,by simp[r.len],fun i x D K z=>?_,fun i D ai z ac a b V Y=>?_,fun D z _ a b V Y=>?_,fun w h O=>?_,fun N w h=>?_,r.le,fun w h=>?_,fun N=>?_⟩
  ·
   have an:=Af K;simp only[qJ,vH,vU]at an;rcases qC i s.out.length with ai|ai
   · simp only[qU ai]at K;rw[qU (by rw[r.len];exact ai)]at z;simp only[yG (show i+1<=s.out.length by omega)];exact r.each i x D K z
   obtain rfl:i=s.out.length:=by omega
   simp only[vW lr,yT,xF,Option.some.injEq]at K;rw[vW (by rw[r.len];exact lr),r.len,yT,xF]at z;have z:=Option.some.inj z;subst K;subst z;refine⟨Q.pick s.q,rfl,r.state,by rw[E.left];exact E.ok.sent E.srv E.head E.fit,⟨n,aE⟩,fun w h aq O=>?_⟩;rw[vP (by simp)]at O;obtain⟨d1,d2⟩:=aS w O;refine a3 w (r.wait w ?_ d1) d2;rcases qC w s.next with aj|aj
   · exact aj
   have be:s.next<ps.length:=by omega
   have e:ps[s.next]? = some ps[s.next]:=qE be;have bk:=bb _ e;have a5:=Eh a9 aj h;rw[Av e]at a5;simp only at aq;omega
  ·
   have an:=Af ac;simp only[qJ,vH,vU]at an;rcases qC (i+1) I.length with aj|aj
   · rw[qU (by omega)]at z;rw[qU aj]at ac;exact r.next i D ai z ac a b V Y
   have bg:i+1=I.length:=by omega
   rw[qU (by omega)]at z;rw[vW (by omega),bg,yT,xF]at ac;have ac:=Option.some.inj ac;subst ac;exact(r.last D (by rw[show I.length-1=i by omega];exact z) (by omega) a b V Y).2
  · simp only[qJ,vH,vU,Nat.add_sub_cancel]at z;rw[vW lr,yT,xF]at z;have z:=Option.some.inj z;subst z;exact⟨fun c ap=>ap,rfl⟩
  · obtain⟨d1,d2⟩:=aS w O;exact a3 w (r.wait w h d1) d2
  ·
   have J:w∈(view (Q.left s.q)).qs N:=h;rw[ao]at J;have H:w∈(view s.q).qs N/\w≠Q.pick s.q:=by
    by_cases e:N=f
    · subst e;rw[AJ]at J;exact⟨by rw[am];exact qG _ J,fun e=>n1 (by rw[<- e];exact J)⟩
    rw[Au _ _ e]at J;exact⟨J,fun a'=>e (by rw[<- (r.state.size N w J).1,a'];exact a7)⟩
   obtain⟨U,ab⟩:=r.only N w H.1;refine⟨U,?_⟩;rw[Da,ab,Bool.false_or];exact beq_eq_false_iff_ne.2 (fun e=>H.2 e.symm)
  ·
   rw[Da,Bool.or_eq_true]at h;show w<s.next
   rcases h with h|h
   · exact r.gone w h
   have:=yZ.1 h;omega
  show((view (Q.left s.q)).qs N).Nodup
  rw[ao];by_cases e:N=f
  · subst e;rw[AJ];exact n2
  rw[Au _ _ e];exact r.once N
 rintro s p aN ar aq Z ⟨I,r⟩;obtain⟨a6,al⟩:=ad.idle s.q r.good Z;exact⟨I,a6,by rw[al];exact r.state,r.len,r.each,r.next,by rw[al];exact r.last,by rw[al];exact r.wait,by rw[al];exact r.only,r.le,r.gone,by rw[al];exact r.once⟩
end
def Az (ps:List Pk)(j:Nat):Int:=match ps[j]? with | some p=>p.size | none=>1
theorem CP {ps:List Pk}{j:Nat}{p:Pk}(h:ps[j]? = some p):Az ps j=p.size:=by simp[Az,h]
theorem Co {ps:List Pk}(z:Al ps)(j:Nat):1<=Az ps j/\Az ps j<=1500:=by
 cases h:ps[j]? with
 | none=>simp[Az,h]
 | some p=>
  rw[CP h];have:=A7 (z.each _ p h).1;omega
theorem Pb {ps:List Pk}(z:Al ps)(j:Nat):Ag ps j<8:=by
 cases h:ps[j]? with
 | none=>simp[Ag,h]
 | some p=>
  rw[FI h];have:=A7 (z.each _ p h).1;omega
def BI (ns:List Int)(f:Nat):Int:=ns.getD f 1
theorem IZ {ns:List Int}{f:Nat}{x:Int}(h:ns[f]? = some x):BI ns f=x:=by simp[BI,List.getD,h]
theorem Gf {ns:List Int}{z:Int}(D:∀(i:Nat) x,ns[i]? = some x->1<=x/\x<=z)(E:1<=z)(f:Nat):1<=BI ns f/\BI ns f<=z:=by
 cases h:ns[f]? with
 | none=>simp[BI,List.getD,h];exact E
 | some x=>rw[IZ h];exact D f x h
def cnt (q:Nat->List Nat):Nat->Nat
 | 0=>0
 | n+1=>cnt q n+(q n).length
theorem UC (q:Nat->List Nat)(f:Nat)(x:List Nat):∀ n,cnt (AB q f x) n+(if f<n then(q f).length else 0)=cnt q n+(if f<n then x.length else 0)
 | 0=>by simp[cnt]
 | n+1=>by
  have z:=UC q f x n;simp only[cnt];by_cases e:n=f
  · subst e;rw[AJ,if_pos (yV _),if_pos (yV _)];rw[if_neg (zD _),if_neg (zD _)]at z;omega
  rw[Au _ _ e];by_cases h:f<n
  · rw[if_pos h,if_pos h]at z;rw[if_pos (by omega),if_pos (by omega)];omega
  rw[if_neg h,if_neg h]at z;rw[if_neg (by omega),if_neg (by omega)];omega
theorem SX (q:Nat->List Nat){f:Nat}:∀ n,f<n->(q f).length<=cnt q n
 | 0,h=>by omega
 | n+1,h=>by
  simp only[cnt];by_cases e:f=n
  · subst e;omega
  have:=SX q n (show f<n by omega);omega
theorem Qq {q:Nat->List Nat}(h:∀ f,q f=[]):∀ n,cnt q n=0
 | 0=>rfl
 | n+1=>by simp only[cnt,h n,vU,Qq h n]
structure TQ where
 d:Drr
 n:Nat
def TH (ps:List Pk)(d:Drr):Nat:=2*d.need (Az ps)+5
def XW (ps:List Pk)(ns:List Int)(d:Drr):Option (Nat×Drr):=Drr.go (Az ps) (BI ns) (TH ps d) d
def Bc (ps:List Pk)(ns:List Int):Que TQ where
 come q k:=⟨q.d.come (Ag ps) k,q.n+1⟩
 pick q:=match XW ps ns q.d with | some x=>x.1 | none=>0
 left q:=match XW ps ns q.d with | some x=>⟨x.2,q.n-1⟩ | none=>q
 rest q:=q.n
def Ec:TQ:=⟨⟨fun _=>[],fun _=>0,[],none⟩,0⟩
structure KO (ps:List Pk)(ns:List Int)(M:Int)(q:TQ):Prop where
 state:Dp (Ag ps) (Az ps) (BI ns) M q.d
 count:q.n=cnt q.d.qs 8
 few:∀ f,8<=f->q.d.qs f=[]
section
variable {ps:List Pk} {ns:List Int} {M:Int}
theorem KO.line {q:TQ}(z:KO ps ns M q):q.n=0↔q.d.line=[]:=by
 constructor
 ·
  intro I;have E:∀ f,q.d.qs f=[]:=fun f=>by
   rcases qC f 8 with h|h
   · have:=SX q.d.qs 8 h;have H:=z.count;exact qN.1 (by omega)
   exact z.few f h
  cases D:q.d.line with
  | nil=>rfl
  | cons f r=>exact absurd (E f) ((z.state.active f).1 (by rw[D];exact qA ..))
 intro D;rw[z.count];refine Qq (fun f=>?_) 8;cases h:q.d.qs f with
 | nil=>rfl
 | cons a b=>
  have:=(z.state.active f).2 (by rw[h];simp);rw[D]at this;cases this
theorem KO.picks {q:TQ}(E:∀ f,1<=BI ns f)(z:KO ps ns M q)(I:0<q.n):∃ k e,XW ps ns q.d=some (k,e)/\(Bc ps ns).pick q=k/\(Bc ps ns).left q=⟨e,q.n-1⟩/\∃ f r c,Zl (Ag ps) (Az ps) (BI ns) M q.d k e f r c:=by
 have H:q.d.line≠[]:=fun e=>by have:=z.line.2 e;omega
 obtain⟨⟨k,e⟩,D⟩:=Y3 E (q.d.need (Az ps)) q.d z.state H lr;have h:XW ps ns q.d=some (k,e):=D;refine⟨k,e,h,?_,?_,U5 E _ _ _ _ z.state D⟩
 · simp only[Bc,h]
 simp only[Bc,h]
theorem KO.left {q:TQ}(O:∀ f,1<=BI ns f)(z:KO ps ns M q)(J:0<q.n):KO ps ns M ((Bc ps ns).left q):=by
 obtain⟨k,e,V,W,K,f,r,c,h⟩:=z.picks O J;rw[K];have E:e.qs=AB q.d.qs f r:=by rw[h.left,Ph,h.same]
 have H:q.d.qs f=k::r:=by rw[<- h.same];exact h.head
 have I:f<8:=by
  rcases qC f 8 with D|D
  · exact D
  have:=z.few f D;rw[H]at this;cases this
 refine⟨by rw[h.left];exact h.ok.sent h.srv h.head h.fit,?_,fun g Q=>?_⟩
 ·
  have N:=UC q.d.qs f r 8;rw[if_pos I,if_pos I,H,vH]at N;have U:=z.count;show q.n-1=cnt e.qs 8
  rw[E];omega
 show e.qs g=[]
 rw[E,Au _ _ (by omega)];exact z.few g Q
theorem KO.come {q:TQ}(D:Al ps)(H:∀ k,Az ps k<=M)(h:KO ps ns M q)(k:Nat):KO ps ns M ((Bc ps ns).come q k):=by
 have E:=Pb D k;have z:((Bc ps ns).come q k).d.qs=AB q.d.qs (Ag ps k) (q.d.qs (Ag ps k)++[k]):=rfl;refine⟨h.state.come k (Co D k).1 (H k),?_,fun g J=>?_⟩
 ·
  have I:=UC q.d.qs (Ag ps k) (q.d.qs (Ag ps k)++[k]) 8;rw[if_pos E,if_pos E,qJ,vH,vU]at I;have K:=h.count;show q.n+1=cnt _ 8
  rw[z];omega
 rw[z,Au _ _ (by omega)];exact h.few g J
theorem K3 (E:Al ps)(D:∀ f,1<=BI ns f)(K:1<=M)(H:∀ k,Az ps k<=M):VK (Bc ps ns) (Ag ps) (Az ps) (BI ns) Ec (KO ps ns M) TQ.d where
 start:=⟨⟨MC K,(Qq (fun _=>rfl) 8).symm,fun _ _=>rfl⟩,rfl⟩
 come:=fun q k h=>⟨h.come E H k,rfl⟩
 pick:=fun q h z=>⟨h.left D z,by
  obtain⟨k,e,I,N,J,-⟩:=h.picks D z;rw[N,J];exact ⟨_,I⟩⟩
 rest:=fun q h=>h.line
 idle:=fun q h _=>⟨h,rfl⟩
variable {per:Int}
theorem GI (h:Al ps)(z:∀ f,1<=BI ns f):Kh (Bc ps ns) per ps Ec where
 none:=rfl
 come:=fun s _ _=>rfl
 left:=fun s E D=>by
  obtain⟨O,r⟩:=NT (M:=1500) (K3 h z (by omega) (fun k=>(Co h k).2)) z (by omega) (fun k _=>Co h k) h E;obtain⟨k,e,K,J,H,-⟩:=r.good.picks z D;rw[H];have Q:0<s.q.n:=D;show s.q.n-1+1=s.q.n
  omega
 pick:=fun s E D=>by
  obtain⟨O,r⟩:=NT (M:=1500) (K3 h z (by omega) (fun k=>(Co h k).2)) z (by omega) (fun k _=>Co h k) h E;obtain⟨k,e,K,J,H,f,t,c,I⟩:=r.good.picks z D;rw[J];refine(r.only f k ?_).1;rw[<- I.same,I.head];exact qA ..
 idle:=fun s _ N=>N
theorem FO (h:Al ps)(E:∀ f,1<=BI ns f)(D:1<=M)(z:∀ k,Az ps k<=M){s:St TQ}(H:Reaches (Bc ps ns) per ps Ec s):∃ I,Qk (Ag ps) (Az ps) (BI ns) M ps (KO ps ns M) TQ.d s I:=
 NT (K3 h E D z) E D (fun k _=>⟨(Co h k).1,z k⟩) h H
theorem II (h:Al ps)(z:∀ f,1<=BI ns f){s:St TQ}(D:Reaches (Bc ps ns) per ps Ec s):KO ps ns 1500 s.q:=by
 obtain⟨E,r⟩:=FO (M:=1500) h z (by omega) (fun k=>(Co h k).2) D;exact r.good
theorem R5 (h:Al ps)(H:∀ f,1<=BI ns f){s:St TQ}(z:Reaches (Bc ps ns) per ps Ec s)(f:Nat):(s.q.d.qs f).length<=300/\∀ k,k∈s.q.d.qs f->k<s.next/\Ag ps k=f:=by
 obtain⟨U,r⟩:=FO (M:=1500) h H (by omega) (fun k=>(Co h k).2) z;refine⟨?_,fun k E=>⟨(r.only f k E).1,(r.state.size f k E).1⟩⟩;rcases qC f 8 with D|D
 · have O:=SX s.q.d.qs 8 D;have I:=r.good.count;have N:=z.count (GI h H);have Q:=z.next_le;have J:=h.few;have K:(Bc ps ns).rest s.q=s.q.n:=rfl;omega
 rw[r.good.few f D];simp
end
def QS {z:Type}(h:Que z)(per:Int)(ps:List Pk)(s:St z):Option (St z):=
 match ps[s.next]? with
 | some p=>if p.tick<=s.now then some ⟨s.out,s.now,s.next+1,h.come s.q s.next⟩else if 0<h.rest s.q then(match ps[h.pick s.q]? with | some p=>some ⟨s.out++[⟨h.pick s.q,s.now,s.now+per*p.size⟩],s.now+per*p.size,s.next,h.left s.q⟩ | none=>none)else some ⟨s.out,p.tick,s.next,h.idle s.q⟩
 | none=>if 0<h.rest s.q then(match ps[h.pick s.q]? with | some p=>some ⟨s.out++[⟨h.pick s.q,s.now,s.now+per*p.size⟩],s.now+per*p.size,s.next,h.left s.q⟩ | none=>none)else none
def LW {h:Type}(z:Que h)(per:Int)(ps:List Pk)(s:St h):Nat->Option (St h)
 | 0=>some s
 | n+1=>(LW z per ps s n).bind (QS z per ps)
section
variable {σ:Type} {Q:Que σ} {per:Int} {ps:List Pk} {q0:σ}
theorem M5 {s:St σ}(J:Reaches Q per ps q0 s):∃ n,LW Q per ps ⟨[],0,0,q0⟩ n=some s:=by
 refine J.by_steps (C:=fun s=>∃ n,LW Q per ps ⟨[],0,0,q0⟩ n=some s) ⟨0,rfl⟩ ?_ ?_ ?_
 · rintro s p _ h E ⟨n,z⟩;refine⟨n+1,?_⟩;rw[LW,z,y8,QS,h];simp only[if_pos E]
 ·
  rintro s p _ H D h ⟨n,z⟩;refine⟨n+1,?_⟩;rw[LW,z,y8,QS];cases I:ps[s.next]? with
  | none=>simp only[if_pos D,h]
  | some r=>
   have:=H r I;simp only[if_neg (show ¬r.tick<=s.now by omega),if_pos D,h]
 rintro s p _ h E D ⟨n,z⟩;refine⟨n+1,?_⟩;rw[LW,z,y8,QS,h];simp only[if_neg (show ¬p.tick<=s.now by omega),if_neg (show ¬0<Q.rest s.q by omega)]
theorem NK {z s:St σ}{n:Nat}(h:LW Q per ps z n=some s)(D:QS Q per ps s=none):∀ k,LW Q per ps z (n+k+1)=none
 | 0=>by rw[Nat.add_zero,LW,h,y8,D]
 | k+1=>by rw[show n+(k+1)+1=(n+k+1)+1 by omega,LW,NK h D k];rfl
theorem MP {s t:St σ}(E:Reaches Q per ps q0 s)(H:Reaches Q per ps q0 t)(s1:¬s.next<ps.length)(J:Q.rest s.q=0)(K:¬t.next<ps.length)(I:Q.rest t.q=0):s=t:=by
 have end_:∀ u:St σ,¬u.next<ps.length->Q.rest u.q=0->QS Q per ps u=none:=fun u O N=>by
  rw[QS,qH (by omega)];simp only[if_neg (show ¬0<Q.rest u.q by omega)]
 obtain⟨n,h⟩:=M5 E;obtain⟨m,z⟩:=M5 H;rcases yN n m with D|D|D
 · have:=NK h (end_ s s1 J) (m-n-1);rw[show n+(m-n-1)+1=m by omega,z]at this;cases this
 · subst D;exact Option.some.inj (h.symm.trans z)
 have:=NK z (end_ t K I) (n-m-1);rw[show m+(n-m-1)+1=n by omega,h]at this;cases this
end
def Ej (per:Int)(ps:List Pk)(ns:List Int)(l:List Sn):Prop:=∃ s,Reaches (Bc ps ns) per ps Ec s/\¬s.next<ps.length/\(Bc ps ns).rest s.q=0/\s.out=l
theorem Ej.same {per:Int}{ps:List Pk}{ns:List Int}{l m:List Sn}(J:Ej per ps ns l)(k:Ej per ps ns m):l=m:=by
 obtain⟨s,H,z,E,rfl⟩:=J;obtain⟨t,D,h,I,rfl⟩:=k;rw[MP H D z E h I]
section
variable {per:Int} {ps:List Pk} {ns:List Int} {l:List Sn}
theorem Ej.length (z:Al ps)(D:∀ f,1<=BI ns f)(E:Ej per ps ns l):l.length=ps.length:=by
 obtain⟨s,h,H,I,rfl⟩:=E;have:=h.count (GI z D);have:=h.next_le;omega
end
end Go.Proofs.YtejlihcdfffafaaGreatDoor
