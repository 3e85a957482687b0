import Derived.Test.YtaoikkhlnhfkfaaGreatDoorU00
import Derived.Test.YtaoikkhlnhfkfaaGreatDoorU04
set_option linter.defProp false
set_option linter.unusedSimpArgs false
set_option linter.unusedVariables false
namespace Go.Proofs.YtaoikkhlnhfkfaaGreatDoor
open List renaming range->tW,filter_congr->B9
open Bool renaming false->ss,true->sy
open Option renaming some->A
open Int renaming toNat_natCast->C0
variable {f k:Nat}{p:Pk}{r:lN}
def FE (ps:List Pk)(out:List Sn)(f:Nat)(now:Int)(n:Nat):lN:=(tW n).filter λi=>Aj ps i==f&&!AA out i&&decide (Ay ps i<=now)
def LM (ps:List Pk)(out:List Sn)(f n:Nat):lN:=(tW n).filter λi=>Aj ps i==f&&!AA out i
def jm ps out f n:LM ps out f (n+1)=LM ps out f n++if Aj ps n=f/\AA out n=ss then[n]else[]:=by
 unfold LM;rw[lj];by_cases h:Aj ps n=f/\AA out n=ss
 simp_all
 simp_all
def Vq{ps out now next}(O:∀i,i<next->Ay ps i<=now)(G:∀i,next<=i->i<ps.length->now<Ay ps i)(Y:next<=ps.length):FE ps out f now ps.length=LM ps out f next:=by
 let key:∀k,next+k<=ps.length->FE ps out f now (next+k)=LM ps out f next:=by
  intro k;induction k with
  |zero=>
   intro _;unfold FE LM;refine B9 λi V=>?_
   simp_all
  |succ k E=>
   intro I;let e:=E N;let U:=G (next+k) N N;unfold FE at e⊢;rw[show next+(k+1)=(next+k)+1 by omega,lj,rY,e];simp[show ¬Ay ps (next+k)<=now by omega]
 have:=key (ps.length-next) N;rwa[show next+(ps.length-next)=ps.length by omega]at this
section
variable {ps:List Pk}{ns:List Int}{per:Int}
def Lb (O:Ar ps)(Z:∀f,1<=Cb ns f)(aB:1<=per){s}(an:Â (BF ps ns) per ps EM s):(∀i,i<s.e->Ay ps i<=s.d)/\∀f,s.q.d.a f=LM ps s.p f s.e:=by
 refine an.d (sd:=λs=>(∀i,i<s.e->Ay ps i<=s.d)/\∀f,s.q.d.a f=LM ps s.p f s.e) ⟨λi h=>absurd h (İ _),λf=>J⟩ ?_ ?_ ?_
 .
  rintro s p V I sd⟨U,G⟩;refine⟨λi E=>?_,λf=>?_⟩
  .
   obtain h|h:=nR i s.e
   exact U i h
   obtain rfl:i=s.e:=by simp only at E;omega
   rw[AQ I];exact sd
  let⟨H,r⟩:=Hr (se:=1500) O Z N (λk=>(CO O k).2) V;let c:AA s.p s.e=false:=by
   cases aj:AA s.p s.e with
   |false=>rfl
   |true=>have:=r.q _ aj;omega
  show A8 s.q.d.a (Aj ps s.e) (s.q.d.a (Aj ps s.e)++[s.e]) f=LM ps s.p f (s.e+1)
  rw[jm];by_cases e:f=Aj ps s.e
  subst e;rw[AX,G,Æ ⟨J,c⟩]
  rw[Az _ _ e,G,Ä (λh=>e h.1.symm),ζ]
 .
  rintro s p V c h I⟨U,G⟩;let⟨H,r⟩:=Hr (se:=1500) O Z N (λk=>(CO O k).2) V;obtain⟨k,e,c,g,sd,f,t,c,c⟩:=r.g.i Z h;rw[g]at I⊢;obtain⟨-,-,g,-,-,-⟩:=Bw (O.d _ p I).1;let g:0<=per*p.h:=Ŗ N N;let H:e.a=A8 s.q.d.a f t:=by rw[c.h,TY,c.u]
  let Y:s.q.d.a f=k::t:=c.u▸c.g
  let t:=(r.l.h f k (Y▸ï ..)).1;let c:=r.j f;rw[Y]at c;obtain⟨h,-⟩:=Ť.1 c;refine⟨λi E=>by have:=U i E;simp only;omega,λg=>?_⟩;rw[sd];show e.a g=LM ps (s.p++[(⟨(k:Nat),s.d,s.d+per*p.h⟩:Sn)]) g s.e
  let c:LM ps (s.p++[(⟨(k:Nat),s.d,s.d+per*p.h⟩:Sn)]) g s.e=(s.q.d.a g).filter λi=>!(i==k):=by
   rw[G,LM,LM,List.filter_filter];refine B9 λi _=>?_
   rw[Dw];let e:(k==i)=(i==k):=by
    rw[Bool.eq_iff_iff,Ł,Ł];omega
   rw[e];cases (Aj ps i==g)<;>cases AA s.p i<;>cases (i==k)<;>rfl
  rw[c,H];by_cases c:g=f
  .
   subst c;rw[AX,Y,lE,Ä sm];refine(k4.2 λi E=>?_).symm;have:i≠k:=λe=>h (e▸E)
   simp[this]
  rw[Az _ _ c];refine(k4.2 λi E=>?_).symm;have:i≠k:=λe=>c ((r.l.h g i E).1▸e▸t)
  simp[this]
 intro s p V I sd h⟨U,G⟩;exact⟨λi E=>by have:=U i E;simp only;omega,G⟩
end
def mG (g:Nat->Nat) n:∀l:lN,l.Nodup->(l.map g).sum<=((l.filter λx=>x !=n).map g).sum+g n
 |[],_=>sm
 |x::r,h=>by
  let⟨I,E⟩:=Ť.1 h;let O:=mG g n r E;by_cases e:x=n
  .
   subst e;have:r.filter (λy=>y !=x)=r:=k4.2 λy G=>by
    have:y≠x:=λe=>I (e▸G)
    simp[this]
   simp[this]
   omega
  simp[lE,j8,ne_eq,e,not_false_eq_true,ô,jN,j4]
  omega
def Ze g c:∀(n)(l:lN),l.Nodup->(∀x,x∈l->x<n)->(∀x,g x<=c)->(l.map g).sum<=n*c
 |0,l,_,E,_=>by
  cases l with
  |nil=>simp
  |cons x r=>cases İ _ (E x (ï ..))
 |n+1,l,O,E,G=>by
  let V:=mG g n l O;let U:=Ze g c n (l.filter λx=>x !=n) (O.filter _) (λx I=>by
   rw[Ρ,j8]at I;have:=E x I.1;omega) G
  have:=G n;rw[Nat.add_mul];omega
structure Gf (per:Int)(ps:List Pk)(ns:lZ)(s:St TQ)(d:Ð)(fu z:Nat):Prop where
 k:Â (BF ps ns) per ps EM s
 y:DN (Aj ps) (Bg ps) (Cb ns) 1500 d
 a:d.a=s.q.d.a
 b:(d=s.q.d/\fu=29999)\/((∀r,ps[s.e]? = A r->s.d<r.a)/\fu<=29999/\∃x,Ð.h (Bg ps) (Cb ns) fu d=A x/\iB ps ns s.q.d=A x)
 m:z<=1/\(z=0->d.g≠[]\/∃p,ps[s.e]? = A p/\p.a<=s.d)
def Lp (ps:List Pk)(s:St TQ)(E z:Nat):=30000*(2*(ps.length-s.p.length)+z)+E
section
variable {ps:List Pk}{ns:List Int}{per:Int}{s:St TQ}{d:Ð}{fu z:Nat}
def Gf.c per ps E:Gf per ps E ⟨[],0,0,EM⟩ EM.d 29999 1:=
 ⟨.c,Qb N,J,.inl ⟨J,J⟩,lr,λh=>N⟩
def ae{U I}:∀{n}{d}{x},Ð.h U I n d=A x->d.g≠[]
 |0,d,x,h=>by simp[Ð.h]at h
 |n+1,d,x,h=>by
  rw[Ð.h]at h;unfold Ð.g;cases E:d.i with
  |some f=>simp
  |none=>
   intro e;simp_all
def Gf.q (h:Gf per ps ns s d fu z)(I:Ar ps)(U:∀j,j<k->Ay ps j<=s.d->j<s.e)(G:ps[k]? = A p)(Y:p.a<=s.d)(V:s.e<=k):k=s.e/\d=s.q.d/\fu=29999:=by
 have e:k=s.e:=by
  obtain E|E:=nR s.e k
  let O:=Fg I (ŕ E) (Ap G);rw[AQ G]at O;have:=U _ E N;omega
  omega
 refine⟨e,?_⟩;obtain E|⟨E,-⟩:=h.b
 exact E
 subst e;have:=E p G;omega
def Gf.e (h:Gf per ps ns s d fu z)(E:Ar ps)(I:ps[s.e]? = A p)(O:p.a<=s.d)(G:d=s.q.d/\fu=29999):Gf per ps ns ⟨s.p,s.d,s.e+1,(BF ps ns).e s.q s.e⟩ (d.e (Aj ps) s.e) fu z:=by
 obtain⟨rfl,rfl⟩:=G;refine⟨.e s p h.k I O,h.y.e _ (CO E _).1 (CO E _).2,J,.inl ⟨J,J⟩,h.m.1,λ_=>.inl ?_⟩;rw[Ð.s];split
 next Z=>intro e;rw[e]at Z;cases Z
 simp
def Vd (ps:List Pk)(s:St TQ):=∀i,s.e<=i->i<ps.length->s.d<Ay ps i
def Gf.t (h:Gf per ps ns s d fu z)(U:Ar ps)(O:∀f,1<=Cb ns f)(aa:d.g≠[]):∃I x,I<=fu/\Ð.h (Bg ps) (Cb ns) I d=A x/\iB ps ns s.q.d=A x:=by
 obtain⟨rfl,rfl⟩|⟨-,-,x,X,W⟩:=h.b
 .
  let⟨x,V⟩:=nQ O (s.q.d.q (Bg ps)) s.q.d h.y aa lr;refine⟨Yk ps s.q.d,x,?_,V,V⟩;let G:=KS U O h.k;let Z:∀f,f∈s.q.d.g->f<8:=λf Y=>by
   obtain E|E:=nR f 8
   exact E
   cases (G.l.a f).1 Y (G.j f E)
  let e:∀f,s.q.d.m (Bg ps) f<=1500:=λf=>by
   unfold Ð.m;cases aj:s.q.d.a f with
   |nil=>simp
   |cons k r=>
    simp only;have:=(CO U k).2;have:=h.y.u f;omega
  have:=Ze (s.q.d.m _) _ 8 _ h.y.b Z e;unfold Yk;let e:s.q.d.q (Bg ps)=(s.q.d.g.map (s.q.d.m _)).sum:=rfl;omega
 exact⟨fu,x,lr,X,W⟩
def Gf.g (h:Gf per ps ns s d fu z)(G:Ar ps)(I:∀f,1<=Cb ns f)(E:d.g=[]):d=s.q.d/\fu=29999/\(BF ps ns).rest s.q=0:=by
 obtain⟨rfl,rfl⟩|⟨-,-,x,O,U⟩:=h.b
 exact⟨J,J,(KS G I h.k).g.2 E⟩
 cases ae O E
def Gf.h (h:Gf per ps ns s d fu z)(I:Ar ps)(O:∀f,1<=Cb ns f)(U:(BF ps ns).rest s.q=0):(∀i,i<s.e->AA s.p i=sy)/\AA s.p s.e=false:=by
 let⟨H,r⟩:=Hr (se:=1500) I O N (λk=>(CO I k).2) h.k;refine⟨λi V=>?_,?_⟩
 .
  cases E:AA _ i with
  |true=>rfl
  |false=>
   let G:=r.m i V E;let Y:=r.g.g.1 U;have:=(r.l.a _).2 (by intro e;rw[e]at G;cases G);simp_all
 cases E:AA _ _ with
 |false=>rfl
 |true=>have:=r.q _ E;omega
def Gf.j (h:Gf per ps ns s d fu z)(U:Ar ps)(V:∀f,1<=Cb ns f)(Y:d.g=[])(O:Vd ps s)(aj:s.p.length<ps.length):s.e<ps.length/\z=1/\∀p,ps[s.e]? = A p->Gf per ps ns ⟨s.p,p.a,s.e,s.q⟩ d fu 0:=by
 obtain⟨rfl,rfl,X⟩:=h.g U V Y;let E:=h.k.b (IR U V);let I:s.e<ps.length:=N;refine⟨I,?_,λp E=>?_⟩
 .
  obtain G|G:=nR z 1
  .
   obtain G|⟨p,G,Z⟩:=h.m.2 N
   cases G Y
   have:=O s.e lr I;rw[AQ G]at this;omega
  have:=h.m.1;omega
 let Z:=O s.e lr I;rw[AQ E]at Z;exact⟨.m s p h.k E Z X,h.y,J,.inl ⟨J,J⟩,N,λ_=>.inr ⟨p,E,Ā _⟩⟩
structure Fy (per:Int)(ps:List Pk)(ns:lZ)(s:St TQ)(d:Ð)(f:Nat)(fu z:Nat):Prop where
 k:Â (BF ps ns) per ps EM s
 q:Vd ps s
 y:DN (Aj ps) (Bg ps) (Cb ns) 1500 d
 a:d.a=s.q.d.a
 i:d.i=A f
 G:f<8
 t:fu<=29999
 j:∃x,Ð.h (Bg ps) (Cb ns) fu d=A x/\iB ps ns s.q.d=A x
 m:z<=1
def nT (O:Ar ps)(U:∀f,1<=Cb ns f)(V:Â (BF ps ns) per ps EM s)(G:DN (Aj ps) (Bg ps) (Cb ns) 1500 d)(Y:d.a=s.q.d.a)(I:f∈d.g):f<8:=by
 obtain E|E:=nR f 8
 exact E
 have:=(KS O U V).j f E;rw[<-Y]at this;cases (G.a f).1 I this
def Gf.v (h:Gf per ps ns s d fu z)(V:Ar ps)(G:∀f,1<=Cb ns f)(Y:Vd ps s)(O:d.i=none)(I:d.row=f::r):∃U,U<=fu/\Fy per ps ns s (d.p (Cb ns) f r) f U z:=by
 let n:d.g=f::r:=by unfold Ð.g;rw[O];exact I
 obtain⟨Z,x,E,E,X⟩:=h.t V G (oj n);cases Z with
 |zero=>simp[Ð.h]at E
 |succ n=>
  rw[Ð.h,O]at E;simp[I]at E
  let Z:fu<=29999:=by
   obtain⟨-,rfl⟩|⟨-,Z,-⟩:=h.b
   exact lr
   exact Z
  exact⟨n,N,h.k,Y,h.y.p G O I,h.a,J,nT V G h.k h.y h.a sL,N,⟨x,E,X⟩,h.m.1⟩
def Gf.u (h:Gf per ps ns s d fu z)(G:Ar ps)(I:∀f,1<=Cb ns f)(U:Vd ps s)(O:d.i=A f):∃E,E<=fu/\Fy per ps ns s d f E z:=by
 let Y:d.g=f::d.row:=by unfold Ð.g;rw[O]
 obtain⟨x,x,X,Z,W⟩:=h.t G I (oj Y);let V:fu<=29999:=by
  obtain⟨-,rfl⟩|⟨-,V,-⟩:=h.b
  exact lr
  exact V
 exact⟨_,X,h.k,U,h.y,h.a,O,nT G I h.k h.y h.a sL,N,⟨x,Z,W⟩,h.m.1⟩
def Fy.g (h:Fy per ps ns s d f fu z)(E:Ar ps)(G:∀f,1<=Cb ns f)(ak:1<=per):∃k r,d.a f=k::r/\FE ps s.p f s.d ps.length=k::r/\k<ps.length/\k<s.e/\AA s.p k=ss/\Aj ps k=f/\(k::r).length<=300:=by
 let H:d.g=f::d.row:=by unfold Ð.g;rw[h.i]
 let I:=(h.y.a f).1 (H▸ï ..);let⟨H,Y⟩:=Hr (se:=1500) E G N (λk=>(CO E k).2) h.k;let⟨se,H⟩:=Lb E G ak h.k;let Z:=Vq (out:=s.p) (f:=f) se h.q h.k.a;let V:=(Yi E G h.k f).1;cases O:d.a f with
 |nil=>cases I O
 |cons k r=>
  have U:s.q.d.a f=k::r:=h.a▸O
  have I:=Y.p f k sL;let se:=(Y.l.h f k sL).1;rw[U]at V;exact⟨k,r,J,by rw[Z,<-H,U],oe h.k.a,I.1,I.2,se,V⟩
def Fy.l (h:Fy per ps ns s d f fu z)(O:d.a f=k::r)(V:d.cr f<Bg ps k):∃I,I<fu/\Gf per ps ns s (d.l f) I z:=by
 let⟨x,E,U⟩:=h.j;cases fu with
 |zero=>simp[Ð.h]at E
 |succ n=>
  rw[Ð.h,h.i]at E;simp[O,Ä (show ¬Bg ps k<=d.cr f by omega)]at E
  let Y:=h.t;exact⟨n,ō _,h.k,h.y.l h.i O V,h.a,.inr ⟨λp G=>AQ G▸h.q _ lr (Ap G),N,x,E,U⟩,h.m,λ_=>.inl (ae E)⟩
def Fy.v (h:Fy per ps ns s d f fu z)(ac:Ar ps)(ai:∀f,1<=Cb ns f)(U:d.a f=k::r)(aa:ps[k]? = A p)(Y:Bg ps k<=d.cr f):Gf per ps ns ⟨s.p++[⟨(k:Nat),s.d,s.d+per*p.h⟩],s.d+per*p.h,s.e,(BF ps ns).h s.q⟩ (d.j (Bg ps) f k r) 29999 1:=by
 let⟨x,G,I⟩:=h.j;have E:x=(k,d.j (Bg ps) f k r):=by
  cases fu with
  |zero=>simp[Ð.h]at G
  |succ n=>
   rw[Ð.h,h.i]at G;simp only[U,Æ Y]at G;exact(Ö G).symm
 subst E;let n:d.g=f::d.row:=by unfold Ð.g;rw[h.i]
 let x:0<s.q.n:=by
  let n:=KS ac ai h.k;obtain O|O:=Ģ s.q.n
  cases ae I (n.g.1 O)
  exact O
 let V:(BF ps ns).pick s.q=k:=by simp[BF,I]
 let Z:(BF ps ns).h s.q=⟨d.j (Bg ps) f k r,s.q.n-1⟩:=by simp[BF,I]
 let E:=Â.v s p h.k (λr E=>AQ E▸h.q s.e lr (Ap E)) x (V▸aa);rw[V]at E;refine⟨E,h.y.j h.i U Y,?_,.inl ⟨?_,J⟩,lr,λh=>N⟩
 rw[Z]
 rw[Z]
def Fy.h (h:Fy per ps ns s d f fu z)(E:Ar ps)(G:∀f,1<=Cb ns f)(O:1<=per)(aa:d.a f=k::r)(Y:ps[k]? = A p)(ac:Bg ps k<=d.cr f):FE ps (s.p++[⟨(k:Nat),s.d,s.d+per*p.h⟩]) f s.d ps.length=r:=by
 let U:=h.v E G aa Y ac;obtain⟨I,-⟩:=Lb E G O h.k;obtain⟨-,Z⟩:=Lb E G O U.k;let V:=Vq (out:=s.p++[⟨k,s.d,s.d+per*p.h⟩]) (f:=f) I h.q h.k.a;let I:=Z f;rw[<-U.a,TY,AX]at I;rw[V,I]
def Gf.l (h:Gf per ps ns s d fu z)(E:Ar ps)(G:∀f,1<=Cb ns f)(I:¬s.p.length<ps.length):ES per ps ns s.p:=by
 have:=h.k.b (IR E G);have:=h.k.a;exact⟨s,h.k,N,N,J⟩
end
variable {f k:Nat}
structure FQ where
 q:lN
 tag:Nat->Int
 v:Int
 last:Nat->Int
section
variable (fl:Nat->Nat)(inc:Nat->Int)
def FQ.e (s:FQ)(k:Nat):FQ:=
 {q:=s.q++[k],tag:=A8 s.tag k (max s.v (s.last (fl k))+inc k),v:=s.v,last:=A8 s.last (fl k) (max s.v (s.last (fl k))+inc k)}
def FQ.h (s:FQ)(k:Nat):={s with q:=s.q.filter λi=>i !=k,v:=s.tag k}
def FQ.g (s:FQ):={s with v:=0,last:=λ_=>0}
def FQ.l (s:FQ)(f:Nat):lN:=s.q.filter λi=>fl i==f
def FQ.a (s:FQ)(f:Nat):Int:=match s.l fl f with|[]=>s.v|k::_=>s.tag k-inc k
def MM (tag:Nat->Int)(inc:Nat->Int):lN->Prop
 |[]=>True
 |[_]=>True
 |a::b::r=>tag b-inc b=tag a/\MM tag inc (b::r)
def Ik (tag:Nat->Int)(d:Int):lN->Int
 |[]=>d
 |[a]=>tag a
 |_::b::r=>Ik tag d (b::r)
structure OP (s:FQ):Prop where
 b:s.q.Nodup
 u:∀k,k∈s.q->s.v<=s.tag k
 v:∀f,s.a fl inc f<=s.v
 a:∀f,MM s.tag inc (s.l fl f)
 j:∀f,s.l fl f≠[]->s.last f=Ik s.tag 0 (s.l fl f)
 m:∀f,s.l fl f=[]->s.last f<=s.v
variable {fl inc}{s:FQ}
def ŋ (s:FQ) k f t v l:(FQ.mk (s.q++[k]) t v l).l fl f=s.l fl f++if fl k=f then[k]else[]:=by
 unfold FQ.l;by_cases h:fl k=f
 simp[h]
 simp[h]
def SV{t u}:∀{l},(∀k,k∈l->t k=u k)->MM t inc l->MM u inc l
 |[],_,_=>sk
 |[_],_,_=>sk
 |a::b::r,h,G=>by
  let⟨O,E⟩:=G;refine⟨?_,SV (λk I=>h k (Ĥ _ I)) E⟩;simp_all
def LA{t u d}:∀{l},(∀k,k∈l->t k=u k)->Ik t d l=Ik u d l
 |[],_=>J
 |[a],h=>h a (ï ..)
 |a::b::r,h=>by
  simp[Ik]
  exact LA λk E=>h k (Ĥ _ E)
def QC t d(k:Nat):∀l,Ik t d (l++[k])=t k
 |[]=>J
 |[a]=>J
 |a::b::r=>QC t d k (b::r)
def Ux{t k}:∀{l},MM t inc l->(l≠[]->t k-inc k=Ik t 0 l)->MM t inc (l++[k])
 |[],_,_=>sk
 |[a],_,h=>⟨h sm,sk⟩
 |a::b::r,G,h=>let⟨E,I⟩:=G;⟨E,Ux I (λ_=>h sm)⟩
def VQ{t v}:∀{l:lN},l≠[]->(∀k,k∈l->v<=t k)->v<=Ik t 0 l
 |[],h,_=>absurd J h
 |[a],_,h=>h a (ï ..)
 |a::b::r,_,h=>by
  simp[Ik]
  exact VQ sm λk E=>h k (Ĥ _ E)
def PK{s:FQ} :k∈s.l fl f↔k∈s.q/\fl k=f:=by
 unfold FQ.l;rw[Ρ,Ł]
def OP.c fl inc t:OP fl inc ⟨[],t,0,λ_=>0⟩:=
 ⟨ki,(nofun),λ_=>Ā _,λ_=>sk,λ_ h=>absurd J h,λ_ _=>Ā _⟩
def OP.g (h:OP fl inc s)(G:s.q=[]):OP fl inc s.g:=by
 let e:∀f,s.g.l fl f=[]:=λf=>by unfold FQ.l FQ.g;simp[G]
 refine⟨h.b,λk I=>?_,λf=>?_,λf=>by rw[e];trivial,λf E=>absurd (e f) E,λf _=>Ā _⟩
 have O:k∈s.q:=I;simp_all
 unfold FQ.a;simp_all
def OP.e (h:OP fl inc s)(ac:k ∉ s.q)(E:0<=inc k):OP fl inc (s.e fl inc k):=by
 let a:∀i,i∈s.q->i≠k:=λi E e=>ac (e▸E)
 let r:∀i,i∈s.q->s.tag i=(s.e fl inc k).tag i:=λi E=>(Az _ _ (a i E)).symm
 let Y:(s.e fl inc k).tag k=max s.v (s.last (fl k))+inc k:=AX ..;let U:∀f,(s.e fl inc k).l fl f=s.l fl f++if fl k=f then[k]else[]:=λf=>ŋ s k f ..
 let Z:∀f i,i∈s.l fl f->s.tag i=(s.e fl inc k).tag i:=λf i E=>r i (PK.1 E).1
 let X:s.l fl (fl k)≠[]->max s.v (s.last (fl k))=Ik s.tag 0 (s.l fl (fl k)):=λO=>by
  rw[h.j _ O];have:=VQ O (λi E=>h.u i (PK.1 E).1);omega
 refine⟨lO.2 ⟨h.b,Ť.2 ⟨sm,ki⟩,λa a b G e=>ac (by rw[Đ]at G;rw[<-G,<-e];exact a)⟩,λi a=>?_,λf=>?_,λf=>?_,λf V=>?_,λf V=>?_⟩
 .
  show s.v<=(s.e fl inc k).tag i
  let b:=a;obtain I|I:=ĭ.1 b
  rw[<-r i I];exact h.u i I
  rw[Đ]at I;rw[I,Y];omega
 .
  let G:=h.v f;unfold FQ.a at G⊢;rw[U];cases ab:s.l fl f with
  |nil=>
   rw[List.nil_append];by_cases e:fl k=f
   .
    rw[Æ e];show(s.e fl inc k).tag k-inc k<=s.v
    rw[Y];have:=h.m f ab;rw[e];omega
   rw[Ä e];exact Ā _
  |cons a r=>
   rw[ab]at G;show(s.e fl inc k).tag a-inc a<=s.v
   rw[<-Z f a (ab▸ï ..)];exact G
 .
  rw[U];let a:=SV (Z f) (h.a f);by_cases e:fl k=f
  rw[Æ e];refine Ux a (λO=>?_);rw[Y,<-LA (Z f),<-e,<-X (e▸O)];omega
  rw[Ä e,ζ];exact a
 .
  show A8 s.last (fl k) (max s.v (s.last (fl k))+inc k) f=_
  rw[U];by_cases e:fl k=f
  rw[Æ e,QC,Y,<-e,AX]
  rw[U,Ä e,ζ]at V;rw[Ä e,ζ,Az _ _ (λe'=>e e'.symm),<-LA (Z f)];exact h.j f V
 let O:=V;rw[U]at O;let e:fl k≠f:=λe=>by rw[Æ e]at O;simp at O
 rw[Ä e,ζ]at O;show A8 _ _ _ f<=s.v
 rw[Az _ _ (λe'=>e e'.symm)];exact h.m f O
def gV (I:k ∉ s.q)(O:s.l fl f≠[]):(s.e fl inc k).a fl inc f=s.a fl inc f/\(s.e fl inc k).l fl f≠[]:=by
 let G:(s.e fl inc k).l fl f=s.l fl f++if fl k=f then[k]else[]:=ŋ s k f ..
 cases E:s.l fl f with
 |nil=>cases O E
 |cons a r=>
  refine⟨?_,by rw[G,E];simp⟩;unfold FQ.a;rw[G,E];show(s.e fl _ k).tag a-inc a=s.tag a-inc a
  have:(s.e fl inc k).tag a=s.tag a:=Az _ _ (λe=>I (by rw[<-e];exact((PK (fl:=fl) (f:=f).1 sL).1)));rw[this]
def FQ.b (s:FQ)(k:Nat):=k∈s.q/\∀i,i∈s.q->s.tag k<=s.tag i
def SI{t}:∀{l:lN}{a},MM t inc (a::l)->(∀k,k∈l->1<=inc k)->∀k,k∈l->t a<t k
 |[],_,_,_=>nofun
 |b::r,a,O,G=>λk E=>by
  let⟨U,I⟩:=O;let V:=G b (ï ..);obtain e|E:=sV.1 E
  rw[e];omega
  have:=SI I (λk E=>G k (Ĥ _ E)) k E;omega
def Vs (h:OP fl inc s)(Y:∀k,k∈s.q->1<=inc k)(U:s.b k):∃r,s.l fl (fl k)=k::r:=by
 let E:k∈s.l fl _:=PK.2 ⟨U.1,J⟩;cases G:s.l fl _ with
 |nil=>rw[G]at E;cases E
 |cons a r=>
  rw[G]at E;obtain e|E:=sV.1 E
  simp_all
  let V:=h.a (fl k);rw[G]at V;let O:∀i,i∈a::r->i∈s.q:=λi I=>(PK (fl:=fl) (f:=fl k).1 (G▸I)).1
  have:=SI V (λi I=>Y i (O i (Ĥ _ I))) k E;have:=U.2 a (O a (ï ..));omega
def mO (s:FQ) k f:(s.h k).l fl f=(s.l fl f).filter λi=>i !=k:=by
 unfold FQ.l FQ.h;simp
 refine B9 λi _=>?_
 cases (fl i==f)<;>cases (i !=k)<;>rfl
def Ji (h:fl k≠f):(s.h k).l fl f=s.l fl f:=by
 rw[mO];refine k4.2 λi E=>?_
 have:i≠k:=λe=>h (e▸(PK.1 E).2)
 simp[this]
def JP (h:OP fl inc s){r:lN}(G:s.l fl (fl k)=k::r):(s.h k).l fl (fl k)=r:=by
 let E:(s.l fl (fl k)).Nodup:=h.b.filter _;rw[G]at E;obtain⟨O,-⟩:=Ť.1 E;rw[mO,G,lE,Ä sm];refine k4.2 λi I=>?_
 have:i≠k:=λe=>O (e▸I)
 simp[this]
def OP.h (h:OP fl inc s)(aa:∀k,k∈s.q->1<=inc k)(O:s.b k):OP fl inc (s.h k):=by
 let⟨r,E⟩:=Vs h aa O;let a:=h.u k O.1;let Z:∀i,i∈(s.h k).q->i∈s.q:=λi U=>(Ρ.1 U).1
 refine⟨h.b.filter _,λi U=>O.2 i (Z i U),λf=>?_,λf=>?_,λf G=>?_,λf G=>?_⟩
 .
  show(s.h k).a fl inc f<=s.tag k
  by_cases e:fl k=f
  .
   subst e;unfold FQ.a;rw[JP h E];cases r with
   |nil=>exact Ā _
   |cons b r=>
    let I:=h.a (fl k);rw[E]at I;show s.tag b-inc b<=s.tag k
    have:=I.1;omega
  let V:=h.v f;unfold FQ.a at V⊢;rw[Ji e];cases Y:s.l fl f with
  |nil=>exact Ā _
  |cons a r=>
   rw[Y]at V;show s.tag a-inc a<=s.tag k
   simp only at V;omega
 .
  by_cases e:fl k=f
  .
   subst e;rw[JP h E];let I:=h.a (fl k);rw[E]at I;cases r with
   |nil=>trivial
   |cons b r=>exact I.2
  rw[Ji e];exact h.a f
 .
  by_cases e:fl k=f
  .
   subst e;rw[JP h E]at G⊢;have:=h.j (fl k) (oj E);rw[E]at this;cases r with
   |nil=>cases G J
   |cons b r=>exact this
  rw[Ji e]at G⊢;exact h.j f G
 show s.last f<=s.tag k
 by_cases e:fl k=f
 subst e;rw[JP h E]at G;subst G;have:=h.j (fl k) (oj E);rw[E]at this;rw[this];exact Ā _
 rw[Ji e]at G;have:=h.m f G;omega
end
def DR (ps:List Pk)(E:lZ)(k:Nat):=Bg ps k*(12/Cb E (Aj ps k))
def Co (ps:List Pk)(E:lZ):Ě FQ where
 e:=λs k=>s.e (Aj ps) (DR ps E) k
 pick:=λs=>s.q.getD (BN s.tag s.q) 0
 h:=λs=>s.h (s.q.getD (BN s.tag s.q) 0)
 rest:=λs=>s.q.length
 m:=FQ.g
def FP:FQ:=⟨[],λ_=>0,0,λ_=>0⟩
def IL (E:lZ):=∀f,1<=Cb E f/\12/Cb E f*Cb E f=12
section
variable {ps:List Pk}{ws:List Int}{per:Int}
def IL.a (h:IL ws) f:1<=12/Cb ws f/\12/Cb ws f<=12:=by
 let⟨G,O⟩:=h f;let I:0<=12/Cb ws f:=Int.ediv_nonneg N N;constructor
 .
  obtain E|E:=j2 (12/Cb ws f) 1
  have:12/Cb ws f=0:=N;simp_all
  exact E
 have:=kh G I;omega
def LQ (E:IL ws)(G:Ar ps) k:1<=DR ps ws k/\DR ps ws k<=18000:=by
 let⟨U,I⟩:=E.a (Aj ps k);let⟨V,O⟩:=CO G k;unfold DR;have Z  := χ V U N N;have Y  := χ O I N N;omega
def Jy{tag}{q:lN}(h:0<q.length):q.getD (BN tag q) 0∈q/\∀i,i∈q->tag (q.getD (BN tag q) 0)<=tag i:=by
 let O:=J8 tag h;refine⟨sL,λi G=>?_⟩;let⟨j,E,e⟩:=j3 G;have:=Kq tag q _ j E;rw[ä (d:=0) E,e]at this;let I:BN tag q=Bi _ q _:=rfl;rw[I];omega
def YQ{q:lN}(h:q.Nodup){k}(E:k∈q):(q.filter λi=>i !=k).length+1=q.length:=by
 have:=h.erase_eq_filter k;rw[<-this,List.length_erase_of_mem E];have  := mX E;omega
structure Ŵ (ps:List Pk)(ws:lZ)(s:St FQ)(H:List (FQ×FQ)):Prop where
 l:OP (Aj ps) (DR ps ws) s.q
 a:s.q.q.Pairwise (·<·)
 len:H.length=s.p.length
 d:∀(i:Nat) x h,s.p[i]? = A x->H[i]? = A h->∃k:Nat,x.d=k/\OP (Aj ps) (DR ps ws) h.1/\h.1.b k/\h.2=h.1.h k/\∀w:Nat,w<ps.length->Ay ps w<=x.b->AA (s.p.take (i+1)) w=ss->w∈h.2.q
 e:∀(i:Nat) h h',H[i]? = A h->H[i+1]? = A h'->∀f,h.2.l (Aj ps) f≠[]->h'.1.a (Aj ps) (DR ps ws) f=h.2.a (Aj ps) (DR ps ws) f
 last:∀h,H[H.length-1]? = A h->0<H.length->∀f,h.2.l (Aj ps) f≠[]->s.q.l (Aj ps) f≠[]/\s.q.a (Aj ps) (DR ps ws) f=h.2.a (Aj ps) (DR ps ws) f
 g:∀x,s.p[s.p.length-1]? = A x->x.a<=s.d/\(x.a=s.d->s.q.v=s.q.tag x.d.toNat)
 r:∀(i:Nat) x y,s.p[i]? = A x->s.p[i+1]? = A y->y.b=x.a->s.q.tag x.d.toNat<=s.q.tag y.d.toNat
 m:∀w,w<s.e->AA s.p w=ss->w∈s.q.q
 p:∀w,w∈s.q.q->w<s.e/\AA s.p w=ss
 t:s.e<=ps.length
 q:∀w:Nat,AA s.p w=sy->w<s.e
 j:∀(i:Nat) x,s.p[i]? = A x->∃k:Nat,x.d=k/\k<s.e
 b:∀(i:Nat) h,H[i]? = A h->∀k,k∈h.1.q->k<ps.length
def Jp{α:Type}{l:List α}{y x i}(h:(l++[y])[i]? = A x):(i<l.length/\l[i]? = A x)\/(i=l.length/\x=y):=by
 let E:=Ap h;rw[ý,Ċ,Ġ]at E;obtain G|G:=nR i l.length
 simp_all
 obtain rfl:i=l.length:=N;simp_all
def ð (G:IL ws)(ap:Ar ps)(bb:1<=per){s}(h:Â (Co ps ws) per ps FP s):∃H,Ŵ ps ws s H:=by
 refine h.d (sd:=λs=>∃H,Ŵ ps ws s H) ?_ ?_ ?_ ?_
 exact⟨[],OP.c ..,List.Pairwise.nil,J,(λi x h E=>oF E),(λi h R E=>oF E),(λh _ O=>oF O),(λx E=>oF E),(λi x y E=>oF E),(λw G=>absurd G (İ _)),(nofun),uD _,(λw G=>by simp[AA]at G),(λi x E=>oF E),λi h I=>oF I⟩
 .
  rintro s p r9 S P⟨H,r⟩;let b:=Ap S;let r9:AA s.p s.e=false:=by
   cases U:AA s.p s.e with
   |false=>rfl
   |true=>have:=r.q _ U;omega
  let V:s.e ∉ s.q.q:=λa=>oe (r.p _ a).1
  let a:=(LQ G ap s.e).1;let p:∀(i:Nat) x,s.p[i]? = A x->((Co ps ws).e s.q s.e).tag x.d.toNat=s.q.tag x.d.toNat:=λi x E=>by
   let⟨k,e,P⟩:=r.j i x E;apply Az ..
   rw[e,C0];omega
  refine⟨H,r.l.e V N,?_,r.len,r.d,r.e,λh I O f Y=>?_,λx E=>?_,λi x y E X sd=>?_,λw G U=>?_,λw G=>?_,b,λw G=>Ų (r.q w G),λi x E=>?_,r.b⟩
  refine List.pairwise_append.2 ⟨r.a,List.pairwise_singleton ..,λa e b sd=>?_⟩;rw[Đ]at sd;have:=(r.p a e).1;omega
  let⟨Z,T⟩:=r.last h I O f Y;let⟨Q,W⟩:=gV (inc:=DR ps ws) V Z;exact⟨W,Q.trans T⟩
  .
   let⟨Q,W⟩:=r.g x E;refine⟨Q,λe=>?_⟩;show s.q.v=_
   rw[p _ x E];exact W e
  .
   show((Co ps ws).e s.q s.e).tag _<=((Co ps ws).e s.q s.e).tag _
   rw[p _ x E,p _ y X];exact r.r i x y E X sd
  .
   show w∈s.q.q++[s.e]
   obtain a|a:=nR w s.e
   exact ĭ.2 (.inl (r.m w a U))
   obtain rfl:w=s.e:=by simp only at G;omega
   exact ĭ.2 (.inr (Đ.2 J))
  .
   let b:=G;obtain a|a:=ĭ.1 b
   let⟨Z,T⟩:=r.p w a;exact⟨Ų Z,T⟩
   rw[Đ]at a;subst a;exact⟨ō _,r9⟩
  let⟨k,e,P⟩:=r.j i x E;exact⟨k,e,Ų P⟩
 .
  rintro s p r9 Q O S⟨H,r⟩;let⟨T,a⟩:=Jy (tag:=s.q.tag) (q:=s.q.q) O;obtain⟨k,V⟩:∃k,k=(Co ps ws).pick s.q:=⟨_,J⟩
  let b:s.q.q.getD (BN s.q.tag s.q.q) 0=k:=V.symm;let e:(Co ps ws).h s.q=s.q.h k:=V▸rfl
  rw[b]at T a;rw[<-V]at S⊢;rw[e];let b:s.q.b k:=⟨T,a⟩
  let f:∀i,i∈s.q.q->1<=DR ps ws i:=λi _=>(LQ G ap i).1
  obtain⟨-,-,a,-,-,-⟩:=Bw (ap.d _ p S).1;let e:=χ bb a N N;let⟨S,a⟩:=r.p k T;let O:∀w,w∈s.q.q->w≠k->w∈(s.q.h k).q:=λw G a=>Ρ.2 ⟨G,oy a⟩
  let r9:∀w:Nat,AA (s.p++[⟨(k:Nat),s.d,s.d+per*p.h⟩]) w=ss->AA s.p w=ss/\w≠k:=by
   intro w G;rw[Dw,Bool.or_eq_false_iff]at G;exact⟨G.1,λe=>Α.1 G.2 e.symm⟩
  refine⟨H++[(s.q,s.q.h k)],r.l.h f b,r.a.filter _,oy r.len,λi x h E I=>?_,λi h R I a f Y=>?_,λh I _ f Y=>?_,λx E=>?_,λi x y E X sd=>?_,λw G U=>?_,λw G=>?_,r.t,λw G=>?_,λi x E=>?_,λi h I=>?_⟩
  .
   obtain⟨R,E⟩|⟨rfl,rfl⟩:=Jp E
   rw[č (r.len▸R)]at I;simp[lL (show i+1<=s.p.length by omega)];exact r.d i x h E I
   rw[Ţ (r.len▸lr),r.len,Ο,aV]at I;have I:=Ö I;subst I;refine⟨k,J,r.l,b,J,λw G P U=>?_⟩;rw[iG sm]at U;let⟨q,p⟩:=r9 w U;refine O w (r.m w ?_ q) p;obtain b|b:=nR w s.e
   exact b
   let p:s.e<ps.length:=N
   let e:=ë p;let p:=Q _ e;let p:=Fg ap b G;rw[AQ e]at p;simp only at P;omega
  .
   let b:=Ap a;simp[ý,Ċ,Ġ]at b;obtain b|b:=nR (i+1) H.length
   rw[č N]at I;rw[č b]at a;exact r.e i h R I a f Y
   let b:i+1=H.length:=N
   rw[č N]at I;rw[Ţ N,b,Ο,aV]at a;have a:=Ö a;subst a;exact(r.last h (show H.length-1=i by omega▸I) N f Y).2
  simp only[ý,Ċ,Ġ,l3]at I;rw[Ţ lr,Ο,aV]at I;have I:=Ö I;subst I;exact⟨Y,J⟩
  .
   simp only[ý,Ċ,Ġ,l3]at E;rw[Ţ lr,Ο,aV]at E;have E:=Ö E;subst E;refine⟨Ā _,λ_=>?_⟩;show s.q.tag k=s.q.tag ((k:Nat):Int).toNat
   rw[C0]
  .
   show s.q.tag _<=s.q.tag _
   obtain⟨R,X⟩|⟨e,rfl⟩:=Jp X
   .
    obtain⟨-,E⟩|⟨e,-⟩:=Jp E
    exact r.r i x y E X sd
    omega
   obtain⟨-,E⟩|⟨e',-⟩:=Jp E
   obtain⟨-,W⟩:=r.g x (show s.p.length-1=i by omega▸E);let a:=W sd.symm;have:=r.l.u k T;simp[C0];omega
   omega
  let⟨q,p⟩:=r9 w U;exact O w (r.m w G q) p
  let⟨a,b⟩:=Ρ.1 (show w∈s.q.q.filter λi=>i !=k from G);let⟨Z,T⟩:=r.p w a;refine⟨Z,?_⟩;rw[Dw,T,mu];exact Α.2 (λe=>(j8.1 b) e.symm)
  .
   rw[Dw,ł]at G;show w<s.e
   obtain G|G:=G
   exact r.q w G
   have:=Ł.1 G;omega
  .
   obtain⟨-,E⟩|⟨-,rfl⟩:=Jp E
   exact r.j i x E
   exact⟨k,J,S⟩
  obtain⟨-,I⟩|⟨-,rfl⟩:=Jp I
  exact r.b i h I
  exact λk V=>rZ (r.p k V).1 r.t
 rintro s p r9 S P O⟨H,r⟩;let a:=Ğ.1 O;refine⟨H,r.l.g a,r.a,r.len,r.d,r.e,λh I O f Y=>?_,λx E=>?_,r.r,r.m,r.p,r.t,r.q,r.j,r.b⟩
 obtain⟨Z,-⟩:=r.last h I O f Y;refine absurd ?_ Z;unfold FQ.l;rw[a];rfl
 obtain⟨Q,-⟩:=r.g x E;refine⟨by simp only;omega,λe=>?_⟩;simp only at e;omega
end
section
variable {ps:List Pk}{ws:List Int}{per:Int}
def LV (O:IL ws)(U:Ar ps)(V:1<=per):MK (Co ps ws) per ps FP where
 none:=rfl
 e:=λs _ _=>by
  show(s.q.q++[s.e]).length=_
  simp[Co]
 h:=λs G I=>by
  let⟨H,r⟩:=ð O U V G;obtain⟨E,-⟩:=Jy (tag:=s.q.tag) (q:=s.q.q) I;exact YQ r.l.b E
 pick:=λs G I=>by
  let⟨H,r⟩:=ð O U V G;obtain⟨E,-⟩:=Jy (tag:=s.q.tag) (q:=s.q.q) I;exact(r.p _ E).1
 m:=λs _ h=>h
def RI (I:IL ws)(O:Ar ps){s}(h:Â (Co ps ws) per ps FP s):(0<=s.q.v/\s.q.v<=18000*(s.e:Int))/\(∀f,0<=s.q.last f/\s.q.last f<=18000*(s.e:Int))/\∀k,0<=s.q.tag k/\s.q.tag k<=18000*(s.e:Int):=by
 refine h.d (sd:=λs:St FQ=>(0<=s.q.v/\s.q.v<=18000*(s.e:Int))/\(∀f,0<=s.q.last f/\s.q.last f<=18000*(s.e:Int))/\∀k,0<=s.q.tag k/\s.q.tag k<=18000*(s.e:Int)) ⟨⟨Ā _,Ā _⟩,λ_=>⟨Ā _,Ā _⟩,λ_=>⟨Ā _,Ā _⟩⟩ ?_ ?_ ?_
 .
  rintro s p G E Y⟨⟨U,a⟩,b,c⟩;let⟨Z,a⟩:=LQ I O s.e;obtain⟨a,a⟩:=b (Aj ps s.e);refine⟨⟨U,?_⟩,λf=>?_,λk=>?_⟩
  .
   show s.q.v<=_
   simp only;omega
  .
   show 0<=A8 s.q.last (Aj ps s.e) (max s.q.v (s.q.last (Aj ps s.e))+DR ps ws s.e) f/\A8 s.q.last (Aj ps s.e) (max s.q.v (s.q.last (Aj ps s.e))+DR ps ws s.e) f<=18000*((s.e+1:Nat):Int)
   by_cases e:f=Aj ps s.e
   rw[e,AX];omega
   rw[Az _ _ e];have:=b f;omega
  show 0<=A8 s.q.tag s.e (max s.q.v (s.q.last (Aj ps s.e))+DR ps ws s.e) k/\A8 s.q.tag s.e (max s.q.v (s.q.last (Aj ps s.e))+DR ps ws s.e) k<=18000*((s.e+1:Nat):Int)
  by_cases e:k=s.e
  rw[e,AX];omega
  rw[Az _ _ e];have:=c k;omega
 rintro s p G ab V E⟨a,b,c⟩;exact⟨c _,b,c⟩
 rintro s p G E Y V⟨a,b,c⟩;exact⟨⟨Ā _,by simp[Co,FQ.g];omega⟩,λf=>⟨Ā _,by simp[Co,FQ.g];omega⟩,c⟩
end
def Gn (per:Int)(ps:List Pk)(E:lZ)(l:List Sn)(G:lZ):=∃s,Â (Co ps E) per ps FP s/\¬s.e<ps.length/\(Co ps E).rest s.q=0/\s.p=l/\(tW ps.length).map s.q.tag=G
def Gn.u{per ps I l m G E}(h:Gn per ps I l G)(k:Gn per ps I m E):l=m/\G=E:=by
 obtain⟨s,Z,Y,s,rfl,rfl⟩:=h;obtain⟨t,O,U,V,rfl,rfl⟩:=k;rw[QH Z O Y s U V];exact⟨J,J⟩
structure Fv (per:Int)(ps:List Pk)(ws:lZ)(s0 s:St FQ)(i:Nat)(first best:Int):Prop where
 k:Â (Co ps ws) per ps FP s
 e:Â (Co ps ws) per ps FP s0
 p:s.p=s0.p
 d:s.d=s0.d
 m:∀j,j<i->Ay ps j<=s.d->j<s.e
 first:(first= -1/\∀j,j<i->AA s.p j=sy)\/∃f:Nat,first=f/\f<i/\AA s.p f=ss/\∀j,j<f->AA s.p j=sy
 a:(best= -1/\∀j,j<i->j ∉ s.q.q)\/∃b:Nat,best=b/\b<i/\b∈s.q.q/\∀j,j<i->j∈s.q.q->s.q.tag b<s.q.tag j\/(s.q.tag b=s.q.tag j/\b<=j)
section
variable {per:Int}{ps:List Pk}{ws:List Int}{s0 s:St FQ}{i:Nat}{first best:Int}
def Fv.c (h:Â (Co ps ws) per ps FP s0):Fv per ps ws s0 s0 0 (-1) (-1):=
 ⟨h,h,J,J,λ_ E=>absurd E (İ _),.inl ⟨J,λ_ E=>absurd E (İ _)⟩,.inl ⟨J,λ_ E=>absurd E (İ _)⟩⟩
def Fv.u (aa:Ar ps)(h:Fv per ps ws s0 s i first best){p}(I:ps[i]? = A p)(ak:¬i<s.e)(V:p.a<=s.d):i=s.e/\Fv per ps ws s0 ⟨s.p,s.d,s.e+1,s.q.e (Aj ps) (DR ps ws) i⟩ i first best:=by
 let e:i=s.e:=by
  obtain U|U:=nR s.e i
  let b:=Fg aa (ŕ U) (Ap I);rw[AQ I]at b;have:=h.m s.e U N;omega
  omega
 refine⟨e,?_⟩;have Z:∀j,j<i->(j∈(s.q.e (Aj ps) (DR ps ws) i).q↔j∈s.q.q):=λj E=>by
  show j∈s.q.q++[i]↔_
  rw[ĭ,Đ];exact⟨λh=>h.elim id (λh=>N),.inl⟩
 have b:∀j,j<i->(s.q.e (Aj ps) (DR ps ws) i).tag j=s.q.tag j:=λj E=>Az _ _ N
 refine⟨?_,h.e,h.p,h.d,λj E V=>by have:=h.m j E V;simp only;omega,h.first,?_⟩
 have:=Â.e s p h.k (e▸I) V;rw[<-e]at this⊢;exact this
 obtain⟨O,G⟩|⟨b,O,G,e,j⟩:=h.a
 exact .inl ⟨O,λj E Y=>G j E ((Z j E).1 Y)⟩
 refine .inr ⟨b,O,G,(Z b G).2 e,λj E Y=>?_⟩;simp_all
def Fv.t (E:IL ws)(I:Ar ps)(G:1<=per)(h:Fv per ps ws s0 s i first best) j:j∈s.q.q↔j<s.e/\AA s.p j=false:=let⟨H,r⟩:=ð E I G h.k;⟨r.p j,λh=>r.m j h.1 h.2⟩
def upto{P:Nat->Prop}{i}(h:∀j,j<i->P j)(G:P i):∀j,j<i+1->P j:=λj I=>by
 obtain E|E:=nR j i
 exact h j E
 obtain rfl:j=i:=N;exact G
def Fv.g (Y:IL ws)(Z:Ar ps)(aa:1<=per)(h:Fv per ps ws s0 s i first best)(ac:Ay ps i<=s.d->i<s.e)(I:AA s.p i=sy):Fv per ps ws s0 s (i+1) first best:=by
 let V:i ∉ s.q.q:=λO=>by rw[((h.t Y Z aa i).1 O).2]at I;cases I
 refine⟨h.k,h.e,h.p,h.d,upto h.m ac,?_,?_⟩
 .
  obtain⟨E,G⟩|⟨f,E,G,U⟩:=h.first
  exact .inl ⟨E,upto G I⟩
  exact .inr ⟨f,E,Ų G,U⟩
 obtain⟨E,G⟩|⟨b,E,G,U,f⟩:=h.a
 exact .inl ⟨E,upto G V⟩
 exact .inr ⟨b,E,Ų G,U,upto f λO=>absurd O V⟩
def Fv.h (h:Fv per ps ws s0 s i first best)(O:AA s.p i=ss){Y}(E:Y=if first<0 then(i:Int)else first):∃f:Nat,Y=f/\f<i+1/\AA s.p f=ss/\∀j,j<f->AA s.p j=true:=by
 obtain⟨G,I⟩|⟨f,G,I,U⟩:=h.first
 rw[G]at E;exact⟨i,E,ō _,O,I⟩
 rw[G]at E;exact⟨f,E,Ų I,U⟩
def Fv.l (aa:IL ws)(ac:Ar ps)(aj:1<=per)(h:Fv per ps ws s0 s i first best)(ai:Ay ps i<=s.d->i<s.e)(Z:AA s.p i=ss){Y}(ab:Y=if first<0 then(i:Int)else first)(ak:¬i<s.e\/∃b:Nat,best=b/\s.q.tag b<=s.q.tag i):Fv per ps ws s0 s (i+1) Y best:=by
 refine⟨h.k,h.e,h.p,h.d,upto h.m ai,.inr (h.h Z ab),?_⟩;obtain E|⟨c,G,G⟩:=ak
 .
  let V:=λI=>E ((h.t aa ac aj i).1 I).1
  obtain⟨E,G⟩|⟨b,E,G,U,O⟩:=h.a
  exact .inl ⟨E,upto G V⟩
  exact .inr ⟨b,E,Ų G,U,upto O λI=>absurd I V⟩
 obtain⟨E,G⟩|⟨b,E,G,U,O⟩:=h.a
 omega
 obtain rfl:c=b:=N;exact .inr ⟨c,E,Ų G,U,upto O λI=>N⟩
def Fv.q (Z:IL ws)(ac:Ar ps)(ai:1<=per)(h:Fv per ps ws s0 s i first best)(O:i<s.e)(E:AA s.p i=ss){Y}(aa:Y=if first<0 then(i:Int)else first)(V:best= -1\/∃b:Nat,best=b/\s.q.tag i<s.q.tag b):Fv per ps ws s0 s (i+1) Y i:=by
 refine⟨h.k,h.e,h.p,h.d,upto h.m λ_=>O,.inr (h.h E aa),.inr ⟨i,J,ō _,(h.t Z ac ai i).2 ⟨O,E⟩,upto (λj I G=>?_) λ_=>.inr ⟨J,lr⟩⟩⟩;obtain⟨c,U⟩|⟨b,c,U,c,X⟩:=h.a
 cases U j I G
 obtain V|⟨c,U,U⟩:=V
 omega
 obtain rfl:c=b:=N;have:=X j I G;omega
def Fv.none (Y:IL ws)(Z:Ar ps)(aa:1<=per)(h:Fv per ps ws s0 s ps.length first best)(aG:best<0)(aI:s.p.length<ps.length):∃p,first=(s.e:Int)/\ps[s.e]? = A p/\Â (Co ps ws) per ps FP ⟨s.p,p.a,s.e,s.q.g⟩/\¬∃p,ps[s0.e]? = A p/\p.a<=s0.d:=by
 let⟨H,r⟩:=ð Y Z aa h.k;let⟨b,W⟩:=ð Y Z aa h.e;let H:∀j,j<ps.length->j ∉ s.q.q:=by
  obtain⟨G,I⟩|⟨b,G,-⟩:=h.a
  exact I
  omega
 let f:s.q.q=[]:=by
  cases e:s.q.q with
  |nil=>rfl
  |cons k t=>
   let b:k∈s.q.q:=e▸ï ..
   have:=(r.p k b).1;have:=r.t;cases H k N b
 let t:(Co ps ws).rest s.q=0:=by show s.q.q.length=0;rw[f];rfl
 let b:=h.k.b (LV Y Z aa);let b:s.e<ps.length:=N;let O:AA s.p s.e=false:=by
  cases E:AA s.p s.e with
  |false=>rfl
  |true=>have:=r.q _ E;omega
 let X:∀j,j<s.e->AA s.p j=true:=λj e=>by
  cases E:AA s.p j with
  |true=>rfl
  |false=>
   have:=r.m j e E;rw[f]at this;cases this
 let e:=ë b;let T:s.d<Ay ps s.e:=by
  obtain V|V:=j2 s.d (Ay ps s.e)
  exact V
  have:=h.m s.e b V;omega
 refine⟨_,?_,e,?_,?_⟩
 .
  obtain⟨G,I⟩|⟨f,G,I,j,k⟩:=h.first
  rw[I s.e b]at O;cases O
  let b:¬s.e<f:=λU=>by rw[k _ U]at O;cases O
  let k:¬f<s.e:=λU=>by rw[X _ U]at j;cases j
  rw[G];omega
 exact Â.m s _ h.k e (AQ e▸T) t
 rintro⟨p,f,j⟩;let e:=Ap f;let b:=h.m s0.e e (AQ f▸h.d▸j);let k:AA s.p s0.e=false:=by
  rw[h.p];cases E:AA _ _ with
  |false=>rfl
  |true=>have:=W.q _ E;omega
 exact H _ e (r.m _ b k)
def Fv.D (an:IL ws)(ao:Ar ps)(ap:1<=per)(h:Fv per ps ws s0 s ps.length first best)(ax:¬best<0):∃(b:Nat)(p:Pk),best=b/\ps[b]? = A p/\AA s.p b=ss/\Â (Co ps ws) per ps FP ⟨s.p++[⟨(b:Nat),s.d,s.d+per*p.h⟩],s.d+per*p.h,s.e,s.q.h b⟩:=by
 let⟨H,r⟩:=ð an ao ap h.k;obtain⟨H,-⟩|⟨b,H,W,I,j⟩:=h.a
 omega
 let U:=mX I;let O:=J8 s.q.tag U;let⟨E,e⟩:=Jy (tag:=s.q.tag) (q:=s.q.q) U;obtain⟨k,X⟩:∃k,k=(Co ps ws).pick s.q:=⟨_,J⟩
 have G:s.q.q.getD (BN s.q.tag s.q.q) 0=k:=X.symm;have Y:k=b:=by
  let e:k∈s.q.q:=G▸E
  let q:=j k (oi (r.p k e).1 r.t) e;let⟨j,Z,e⟩:=j3 I;let E:=Kq s.q.tag s.q.q s.q.q.length j Z;let j:Bi s.q.tag s.q.q s.q.q.length=BN s.q.tag s.q.q:=rfl;rw[j,G,ä (d:=0) Z,e]at E;let Y:k<=b\/s.q.tag k<s.q.tag b:=by
   obtain E|⟨-,E⟩:=E
   exact .inr E
   refine .inl ?_
   rw[<-G,ä (d:=0) O,<-e];obtain V|V:=Nat.lt_or_eq_of_le E
   exact ŕ (ŷ.1 r.a _ _ O Z V)
   simp only[V];exact lr
  omega
 let d:=W;let e:=ë d;refine⟨b,_,H,e,(r.p b I).2,?_⟩;have:=Â.v s ps[b] h.k (λq d=>by
  obtain O|O:=j2 s.d q.a
  exact O
  have:=h.m s.e (Ap d) (AQ d▸O);omega) U (by rw[<-X,Y];exact e)
 let d:(Co ps ws).h s.q=s.q.h b:=Y▸G▸rfl
 simp_all
end
end Go.Proofs.YtaoikkhlnhfkfaaGreatDoor
