import Derived.Test.YtaoikkhlnhfkfaaGreatDoorU00
import Derived.Test.YtaoikkhlnhfkfaaGreatDoorU02
set_option linter.defProp false
set_option linter.unusedSimpArgs false
set_option linter.unusedVariables false
namespace Go.Proofs.YtaoikkhlnhfkfaaGreatDoor
open Bool renaming false->ss,true->sy
open Option renaming none->sA,some->A
open List renaming any_eq_true->I3,pairwise_append->Hd,range->tW,pairwise_cons->B2
def AA (out:List Sn)(i:Nat):=out.any λx=>x.d==(i:Int)
def YM{out i}:AA out i=ss↔∀x∈out,x.d≠(i:Int):=by simp[AA]
def Dw out b i f t:AA (out++[⟨b,f,t⟩]) i=(AA out i ||b==i):=by
 simp[AA]
 let e:((b:Int)==i)=(b==i):=by
  by_cases h:b=i
  simp_all
  rw[Α.2 N,Α.2 h]
 rw[e]
def BS{n out i}:De n out i↔i<n/\AA out i=false:=by simp[De,YM]
def å (ps:List Pk)(E:lZ)(out:List Sn)(t:Int)
 |0=>sA
 |i+1=>if AA out i=sy then å ps E out t i else if Ay ps i<=t/\(∀b,å ps E out t i=A b->E.getD i 0<E.getD b 0)then A i else å ps E out t i
def Dc (out:List Sn)
 |0=>sA
 |i+1=>if AA out i=sy then Dc out i else match Dc out i with|some f=>A f|none=>A i
def CV:Option Nat->Int
 |none=>-1
 |some k=>k
def Ry{ps E out t}:∀(i)(b),å ps E out t i=A b->b<i/\AA out b=ss/\Ay ps b<=t/\∀k,k<i->AA out k=ss->Ay ps k<=t->E.getD b 0<E.getD k 0\/(E.getD b 0=E.getD k 0/\b<=k):=by
 intro i;induction i with
 |zero=>intro b h;simp[å]at h
 |succ i W=>
  intro b h;simp only[å]at h;by_cases V:AA out i=sy
  .
   rw[Æ V]at h;let⟨R,S,Z,T⟩:=W b h;refine⟨N,S,Z,λk X G Y=>?_⟩;obtain I|I:=nR k i
   exact T k I G Y
   obtain rfl:k=i:=N;rw[V]at G;cases G
  rw[Ä V]at h;let c:AA out i=false:=sx V
  by_cases U:Ay ps i<=t/\(∀b,å ps E out t i=A b->E.getD i 0<E.getD b 0)
  .
   rw[Æ U]at h;obtain rfl:=Ö h;refine⟨N,c,U.1,λk X G Y=>?_⟩;obtain I|I:=nR k i
   .
    cases aj:å ps E out t i with
    |none=>
     exact absurd Y (Int.not_le.2 (by
      have:∀i,å ps E out t i=sA->∀k,k<i->AA out k=ss->t<Ay ps k:=by
       intro i;induction i with
       |zero=>intro _ k X;omega
       |succ i S=>
        intro O k X G;simp only[å]at O;by_cases V:AA out i=sy
        .
         rw[Æ V]at O;obtain c|c:=nR k i
         exact S O k c G
         obtain rfl:k=i:=N;rw[V]at G;cases G
        rw[Ä V]at O;by_cases U:Ay ps i<=t/\(∀b,å ps E out t i=A b->E.getD i 0<E.getD b 0)
        rw[Æ U]at O;cases O
        rw[Ä U]at O;obtain c|c:=nR k i
        exact S O k c G
        obtain rfl:k=i:=N;obtain Z|Z:=j2 t (Ay ps k)
        exact Z
        cases U ⟨Z,λb c=>by rw[O]at c;cases c⟩
      exact this i aj k I G))
    |some c=>
     let O:=U.2 c aj;let O:=(W c aj).2.2.2 k I G Y;exact .inl N
   obtain rfl:k=i:=N;exact .inr ⟨J,lr⟩
  rw[Ä U]at h;let⟨R,S,Z,T⟩:=W b h;refine⟨N,S,Z,λk X G Y=>?_⟩;obtain I|I:=nR k i
  exact T k I G Y
  obtain rfl:k=i:=N;obtain O|O:=j2 (E.getD k 0) (E.getD b 0)
  cases U ⟨Y,λc c=>sL⟩
  omega
def oZ{ps O out t}:∀i,å ps O out t i=sA->∀k,k<i->AA out k=ss->t<Ay ps k:=by
 intro i;induction i with
 |zero=>intro _ k Y;omega
 |succ i V=>
  intro E k Y I;simp only[å]at E;by_cases U:AA out i=sy
  .
   rw[Æ U]at E;obtain G|G:=nR k i
   exact V E k G I
   obtain rfl:k=i:=N;rw[U]at I;cases I
  rw[Ä U]at E;by_cases Z:Ay ps i<=t/\(∀b,å ps O out t i=A b->O.getD i 0<O.getD b 0)
  simp_all
  rw[Ä Z]at E;obtain G|G:=nR k i
  exact V E k G I
  obtain rfl:k=i:=N;simp_all
def Vy{out}:∀i f,Dc out i=A f->f<i/\AA out f=ss/\∀k,k<i->AA out k=ss->f<=k:=by
 intro i;induction i with
 |zero=>intro f h;simp[Dc]at h
 |succ i I=>
  intro f h;simp[Dc]at h;by_cases G:AA out i=sy
  .
   rw[Æ G]at h;let⟨X,Y,Z⟩:=I f h;refine⟨N,Y,λk U O=>?_⟩;obtain E|E:=nR k i
   exact Z k E O
   omega
  rw[Ä G]at h;cases V:Dc out i with
  |some g=>
   rw[V]at h;obtain rfl:=Ö h;let⟨X,Y,Z⟩:=I g V;refine⟨N,Y,λk U O=>?_⟩;obtain E|E:=nR k i
   exact Z k E O
   omega
  |none=>
   rw[V]at h;obtain rfl:=Ö h;refine⟨N,sx G,λk U O=>?_⟩;obtain E|E:=nR k i
   .
    exact absurd O (by
     have:∀i,Dc out i=sA->∀k,k<i->AA out k=true:=by
      intro i;induction i with
      |zero=>intro _ k U;omega
      |succ i h=>
       intro I k U;simp[Dc]at I;by_cases G:AA out i=sy
       .
        rw[Æ G]at I;obtain g|g:=nR k i
        exact h I k g
        obtain rfl:k=i:=N;exact G
       rw[Ä G]at I;split at I<;>cases I
     rw[this i V k E];simp)
   omega
def kG{out}:∀i,Dc out i=sA->∀k,k<i->AA out k=true:=by
 intro i;induction i with
 |zero=>omega
 |succ i O=>
  intro E k U;simp[Dc]at E
  by_cases G:AA out i=sy
  .
   rw[Æ G]at E;obtain I|I:=nR k i
   exact O E k I
   obtain rfl:k=i:=N;exact G
  rw[Ä G]at E;split at E<;>cases E
def uU:∀(n)(out),(∀i,i<n->AA out i=sy)->n<=out.length:=by
 intro n;induction n with
 |zero=>intro _ _;exact uD _
 |succ n E=>
  intro out h;let U:=E (out.filter λx=>!(x.d==(n:Int))) (λi V=>by
   have:=h i N;simp only[AA,I3,Ł]at this⊢;let⟨x,I,G⟩:=this;exact⟨x,Ρ.2 ⟨I,so⟩,G⟩)
  let O:(out.filter λx=>!(x.d==(n:Int))).length<out.length:=by
   have:=h n N;simp[AA,I3]at this;simp_all
  omega
structure OY (per:Int)(ps:List Pk)(keys:lZ)(out:List Sn)(t:Int)(f:Nat):Prop where
 b:FD per ps keys out
 len:out.length<=ps.length
 a:(f=1/\t=EH out)\/(f=0/\(∀i,De ps.length out i->EH out<Ay ps i)/\∃i,De ps.length out i/\t=Ay ps i/\∀k,De ps.length out k->Ay ps i<=Ay ps k)
 u:0<=t
 g:t<=1099511627776+1500000*out.length
section
variable {per:Int}{ps:List Pk}{keys:List Int}{out:List Sn}{t:Int}{f:Nat}
def OY.v (h:OY per ps keys out t f)(ab:Ar ps)(am:1<=per)(al:per<=1000){b}(Y:å ps keys out t ps.length=A b){p}(I:ps[b]? = A p)(an:out.length<ps.length):OY per ps keys (out++[⟨b,t,t+per*p.h⟩]) (t+per*p.h) 1:=by
 let⟨U,i,E,e⟩:=Ry _ _ Y;let G:rW ps keys out t b:=⟨BS.2 ⟨U,i⟩,E,λi O V=>e i (BS.1 O).1 (BS.1 O).2 V⟩
 let i:Ź ps out t:=by
  obtain⟨-,e⟩|⟨-,U,O⟩:=h.a
  exact .inl ⟨e,b,G.h,E⟩
  exact .inr ⟨U,O⟩
 obtain⟨-,-,e,Z,-,-⟩:=Bw (ab.d _ p I).1;let e:0<=per*p.h:=Ŗ N N;let e:per*p.h<=1000*1500:=χ N Z N N;let e:=h.u;let e:=h.g;refine⟨h.b.b ⟨t,b,i,G,K9 I▸rfl⟩,so,.inl ⟨J,oB JR⟩,N,?_⟩;simp[ý,Ċ];omega
def OY.m (h:OY per ps keys out t f)(U:Ar ps)(ai:å ps keys out t ps.length=sA)(ak:out.length<ps.length):f=1/\∃k p,Dc out ps.length=A k/\ps[k]? = A p/\OY per ps keys out p.a 0:=by
 let Y:=oZ _ ai;let O:f=1/\t=EH out:=by
  obtain e|⟨-,-,i,V,E,-⟩:=h.a
  exact e
  have:=Y i (BS.1 V).1 (BS.1 V).2;omega
 refine⟨O.1,?_⟩;cases I:Dc out ps.length with
 |none=>
  have:=uU ps.length out (kG _ I);omega
 |some k=>
  let⟨G,X,V⟩:=Vy _ _ I;let e:=ë G;obtain⟨-,-,-,-,Z,i⟩:=Bw (U.d _ _ e).1;refine⟨k,ps[k],J,e,h.b,h.len,.inr ⟨J,λi E=>?_,k,BS.2 ⟨G,X⟩,(AQ e).symm,λi E=>?_⟩,Z,N⟩
  rw[<-O.2];exact Y i (BS.1 E).1 (BS.1 E).2
  exact Fg U (V i (BS.1 E).1 (BS.1 E).2) (BS.1 E).1
end
variable {O:Type}{per:Int}{ps:List Pk}
structure TV{σ:Type}(Q:Ě σ)(keys:lZ)(q0:σ)(ok:σ->Prop)(items:σ->lN):Prop where
 c:ok q0/\items q0=[]
 rest:∀q,ok q->Q.rest q=(items q).length
 e:∀q k,ok q->(∀i,i∈items q->i<k)->ok (Q.e q k)/\(items (Q.e q k)).length=(items q).length+1/\∀i,i∈items (Q.e q k)↔i∈items q\/i=k
 m:∀q,ok q->Q.rest q=0->ok (Q.m q)/\items (Q.m q)=items q
 h:∀q,ok q->0<(items q).length->ok (Q.h q)/\(items (Q.h q)).length+1=(items q).length/\∀i,i∈items (Q.h q)↔i∈items q/\i≠Q.pick q
 pick:∀q,ok q->0<(items q).length->Q.pick q∈items q/\∀i,i∈items q->keys.getD (Q.pick q) 0<keys.getD i 0\/(keys.getD (Q.pick q) 0=keys.getD i 0/\Q.pick q<=i)
structure wU{σ:Type}(ok:σ->Prop)(items:σ->lN)(per:Int)(ps:List Pk)(keys:lZ)(s:St σ):Prop where
 g:ok s.q
 b:FD per ps keys s.p
 m:∀i,i∈items s.q↔i<s.e/\AA s.p i=ss
 j:∀i:Nat,AA s.p i=sy->i<s.e
 e:∀i,i<s.e->Ay ps i<=s.d
 t:s.e<=ps.length
 d:s.d=EH s.p\/((∀i,De ps.length s.p i->EH s.p<Ay ps i)/\∃i,De ps.length s.p i/\s.d=Ay ps i/\∀k,De ps.length s.p k->Ay ps i<=Ay ps k)
def Si{Q:Ě O}{aa ak ok items s}(V:TV Q aa ak ok items)(aL:0<=per)(aj:Ar ps)(h:Â Q per ps ak s):wU ok items per ps aa s:=by
 refine h.d (sd:=λs=>wU ok items per ps aa s) ?_ ?_ ?_ ?_
 .
  refine⟨V.c.1,FD.nil _ _ _,λi=>?_,λi h=>?_,λi h=>?_,uD _,.inl J⟩
  .
   simp only[V.c.2];constructor
   intro h;cases h
   rintro⟨h,-⟩;cases İ _ h
  simp[AA]at h
  cases İ _ h
 .
  intro s p _ U Z E;let b:∀i,i∈items s.q->i<s.e:=λi a=>((E.m _).1 a).1
  obtain⟨a,-,c⟩:=V.e s.q s.e E.g b;let b:=Ap U;refine⟨a,E.b,λi=>?_,λi G=>Ų (E.j i G),λi G=>?_,b,E.d⟩
  .
   rw[c,E.m];simp only;constructor
   .
    rintro(⟨a,b⟩|rfl)
    exact⟨N,b⟩
    refine⟨N,?_⟩;cases ab:AA s.p s.e with
    |false=>rfl
    |true=>have:=E.j _ ab;omega
   rintro⟨a,b⟩;obtain I|I:=nR i s.e
   exact .inl ⟨I,b⟩
   exact .inr N
  simp only at G⊢;obtain I|I:=nR i s.e
  exact E.e i I
  obtain rfl:i=s.e:=N;rw[AQ U];exact Z
 .
  intro s p _ T Y U E;rw[V.rest _ E.g]at Y;obtain⟨b,-,W⟩:=V.h s.q E.g Y;let⟨a,X⟩:=V.pick s.q E.g Y;let⟨k,Y⟩:=(E.m _).1 a;let a:=E.t;let c:∀i,De ps.length s.p i->Ay ps i<=s.d->i∈items s.q:=by
   intro i G Z;let⟨sd,a⟩:=BS.1 G;refine(E.m i).2 ⟨?_,a⟩;obtain I|I:=nR i s.e
   exact I
   let a:s.e<ps.length:=N;let e:=ë a;let a:=T _ e;let a:=Fg aj I sd;rw[AQ e]at a;omega
  let a:rW ps aa s.p s.d (Q.pick s.q):=⟨BS.2 ⟨N,Y⟩,E.e _ k,λi G Z=>X i (c i G Z)⟩
  let c:Ź ps s.p s.d:=by
   obtain e|⟨i,k⟩:=E.d
   exact .inl ⟨e,_,a.h,a.e⟩
   exact .inr ⟨i,k⟩
  let e:0<=per*p.h:=Ŗ aL (oe (Bw (aj.d _ p U).1));refine⟨b,E.b.b ⟨s.d,Q.pick s.q,c,a,K9 U▸rfl⟩,λi=>?_,λi G=>?_,λi G=>?_,E.t,.inl (oB JR)⟩
  .
   rw[W,E.m];simp only;rw[Dw];constructor
   rintro⟨⟨a,b⟩,c⟩;refine⟨a,?_⟩;rw[b,mu];exact Α.2 (λe=>c e.symm)
   rintro⟨a,b⟩;rw[Bool.or_eq_false_iff]at b;exact⟨⟨a,b.1⟩,λe=>Α.1 b.2 e.symm⟩
  .
   simp only at G⊢;rw[Dw,ł]at G;obtain G|G:=G
   exact E.j i G
   have:=Ł.1 G;omega
  have:=E.e i G;simp only;omega
 intro s p _ U Z Y E;rw[V.rest _ E.g]at Y;let a:=Ğ.1 Y;let b:∀i,De ps.length s.p i->s.e<=i:=by
  intro i G;obtain I|I:=nR i s.e
  have:=(E.m i).2 ⟨I,(BS.1 G).2⟩;rw[a]at this;cases this
  exact I
 let a:∀i,De ps.length s.p i->p.a<=Ay ps i:=by
  intro i G;have:=Fg aj (b i G) (BS.1 G).1;rwa[AQ U]at this
 let b:s.d=EH s.p:=by
  obtain e|⟨-,i,G,e,-⟩:=E.d
  exact e
  have:=a i G;omega
 let c:De ps.length s.p s.e:=by
  refine BS.2 ⟨Ap U,?_⟩;cases ab:AA s.p s.e with
  |false=>rfl
  |true=>have:=E.j _ ab;omega
 let⟨b,e⟩:=V.m s.q E.g (V.rest _ E.g▸Y);refine⟨b,E.b,λi=>e▸E.m i,E.j,λi G=>?_,E.t,.inr ⟨λi G=>?_,s.e,c,(AQ U).symm,λk b=>?_⟩⟩
 have:=E.e i G;simp only;omega
 .
  have:=a i G;show EH s.p<_
  omega
 rw[AQ U];exact a k b
def Wj{Q:Ě O}{ak V ok items}(E:TV Q ak V ok items)(U:0<=per)(I:Ar ps):MK Q per ps V where
 none:=E.rest _ E.c.1▸E.c.2▸rfl
 e:=λs G _=>by
  let r:=Si E U I G;let G:∀i,i∈items s.q->i<s.e:=λi h=>((r.m _).1 h).1
  obtain⟨h,Z,-⟩:=E.e s.q s.e r.g G;rw[E.rest _ h,E.rest _ r.g,Z]
 h:=λs G h=>by
  let r:=Si E U I G;rw[E.rest _ r.g]at h⊢;obtain⟨G,i,-⟩:=E.h s.q r.g h;rw[E.rest _ G,i]
 pick:=λs G h=>by
  let r:=Si E U I G;rw[E.rest _ r.g]at h;exact((r.m _).1 (E.pick s.q r.g h).1).1
 m:=λs G h=>by
  let r:=Si E U I G;let⟨Y,i⟩:=E.m s.q r.g h;rw[E.rest _ Y,i,<-E.rest _ r.g];exact h
def ky{Q:Ě O}{U G ok items s}(V:TV Q U G ok items)(I:0<=per)(E:Ar ps)(h:Â Q per ps G s)(aa:¬s.e<ps.length)(Y:Q.rest s.q=0):FD per ps U s.p/\s.p.length=ps.length:=by
 let r:=Si V I E h;let Z:=h.b (Wj V I E);have:=r.t;exact⟨r.b,N⟩
def ü (f:Nat->Int):lN->Int
 |[]=>0
 |a::r=>f a+ü f r
def QS{f}(E:∀i,0<=f i):∀l,0<=ü f l
 |[]=>Ā _
 |a::r=>by
  have:=QS E r;have:=E a;simp[ü]
  omega
def aF{f a}:∀{l},a∈l->ü f l=f a+ü f (l.erase a):=by
 intro l;induction l with
 |nil=>intro h;cases h
 |cons x r E=>
  intro h;by_cases e:x=a
  subst e;simp[ü]
  let G:a∈r:=by
   obtain h|h:=sV.1 h
   cases e h.symm
   exact h
  rw[(List.erase_cons_tail (sx e))];simp[ü,E G]
  omega
def wF{f}(I:∀i,0<=f i):∀(r8 B),r8.Nodup->(∀a,a∈r8->a∈B)->ü f r8<=ü f B:=by
 intro r8;induction r8 with
 |nil=>intro B _ _;exact QS I B
 |cons a r O=>
  intro B Y E;let⟨V,U⟩:=Ť.1 Y;rw[aF (E a (ï ..))];have:=O (B.erase a) U (λx G=>(List.mem_erase_of_ne (λe  =>V (ri e G))).2 (E x (Ĥ _ G)));simp[ü]
  omega
def Bi (key:Nat->Int)(q:lN)
 |0=>0
 |i+1=>if key (q.getD i 0)<key (q.getD (Bi key q i) 0)then i else Bi key q i
def Ll key q:∀i,Bi key q i<=i-1
 |0=>lr
 |i+1=>by
  have:=Ll key q i;simp[Bi]
  split<;>omega
def Gr key{q i}(h:0<q.length)(E:i<=q.length):Bi key q i<q.length:=by
 have:=Ll key q i;omega
def Kq key q:∀i j,j<i->key (q.getD (Bi key q i) 0)<key (q.getD j 0)\/(key (q.getD (Bi key q i) 0)=key (q.getD j 0)/\Bi key q i<=j):=by
 intro i;induction i with
 |zero=>intro j I;omega
 |succ i G=>
  intro j I;let O:=Ll key q i;simp only[Bi];by_cases E:key (q.getD i 0)<key (q.getD (Bi key q i) 0)
  .
   rw[Æ E];obtain h|h:=nR j i
   have:=G j h;omega
   obtain rfl:j=i:=N;exact .inr ⟨J,lr⟩
  rw[Ä E];obtain h|h:=nR j i
  exact G j h
  obtain rfl:j=i:=N;omega
def BN (key:Nat->Int)(q:lN):=Bi key q q.length
def ņ (key:Nat->Int):Ě (lN) where
 e:=λq k=>q++[k]
 pick:=λq=>q.getD (BN key q) 0
 h:=λq=>q.eraseIdx (BN key q)
 rest:=List.length
def ä{α:Type}{l:List α}{j d} h:l.getD j d=l[j]:=oy (ë h)
def jg{q:lN}(h:q.Pairwise (·<·)){i j} G(E:j<q.length)(e:q[i]=q[j]):i=j:=by
 let I:=ŷ.1 h i j G E;let O:=ŷ.1 h j i E G;omega
def J8 key{q}(h:0<q.length):BN key q<q.length:=Gr _ h lr
def ol E:TV (ņ λi=>E.getD i 0) E [] (λq=>q.Pairwise (·<·)) (λq=>q) where
 c:=⟨List.Pairwise.nil,J⟩
 rest:=λq _=>J
 m:=λq h _=>⟨h,J⟩
 e:=λq k h e=>by
  refine⟨Hd.2 ⟨h,List.pairwise_singleton ..,λa h b b=>?_⟩,by simp[ņ],λi=>by simp[ņ]⟩;rw[Đ]at b;subst b;exact e a h
 h:=λq h Z=>by
  let I:=J8 (λi=>E.getD i 0) Z;refine⟨List.Pairwise.sublist (List.eraseIdx_sublist ..) h,?_,λi=>?_⟩
  .
   show(q.eraseIdx (BN _ q)).length+1=_
   rw[l6,Æ I];omega
  show i∈q.eraseIdx (BN _ q)↔i∈q/\i≠q.getD (BN _ q) 0
  let U:q.getD (BN (λi=>E.getD i 0) q) 0=q[BN (λi=>E.getD i 0) q]'I:=ä I;rw[U,List.mem_eraseIdx_iff_getElem];constructor
  rintro⟨j,O,Y,rfl⟩;exact⟨Ζ _,λe=>Y (jg h _ _ e)⟩
  rintro⟨G,Y⟩;obtain⟨j,O,rfl⟩:=j3 G;exact⟨j,O,λe=>Y (by subst e;rfl),J⟩
 pick:=λq h Z=>by
  let I:=J8 (λi=>E.getD i 0) Z;let U:q.getD (BN (λi=>E.getD i 0) q) 0=q[BN (λi=>E.getD i 0) q]'I:=ä I;refine⟨?_,λi a=>?_⟩
  .
   show q.getD (BN _ q) 0∈q
   rw[U];exact Ζ _
  obtain⟨j,O,rfl⟩:=j3 a;show E.getD (q.getD (BN _ q) 0) 0<_\/(E.getD (q.getD (BN _ q) 0) 0=_/\q.getD (BN _ q) 0<=_)
  let G:=Kq (λi=>E.getD i 0) q q.length j O;let a:q.getD j 0=q[j]:=ä O;simp only[a]at G;obtain G|⟨G,a⟩:=G
  exact .inl G
  refine .inr ⟨G,?_⟩;rw[U];obtain V|V:=Nat.lt_or_eq_of_le a
  exact ŕ (ŷ.1 h _ _ _ O V)
  have e:BN _ q=j:=V;simp_all
def Aj (ps:List Pk)(j:Nat):Nat:=match ps[j]? with|some p=>p.b.toNat|none=>0
def G8{ps j p}(h:ps[j]? = A p):Aj ps j=p.b.toNat:=by simp[Aj,h]
def Gi (ps:List Pk)(E:lZ)(j:Nat):=E.getD (Aj ps j) 0
def BM (ps:List Pk)(E:lZ):lZ:=(tW ps.length).map (Gi ps E)
def Cm (ps:List Pk)(E:lZ):lZ:=(tW ps.length).map λi=>Ay ps i+Gi ps E i
def Ej ps E:(BM ps E).length=ps.length:=by simp[BM]
def EL ps E:(Cm ps E).length=ps.length:=by simp[Cm]
def Qz{ps E i}(h:i<ps.length):(BM ps E).getD i 0=Gi ps E i:=by
 rw[ä (rj Ej h)];simp[BM]
def SH{ps E i}(h:i<ps.length):(Cm ps E).getD i 0=Ay ps i+Gi ps E i:=by
 rw[ä (rj EL h)];simp[Cm]
section
variable {per:Int}{ps:List Pk}{l:List Sn}{keys:List Int}
def af:∀L,ü (λ_=>1) L=L.length
 |[]=>J
 |a::L=>by
  have:=af L;simp[ü,Ċ];omega
def xN{r8 B:lN}(E:r8.Nodup)(h:∀a,a∈r8->a∈B):r8.length<=B.length:=by
 have:=wF (f:=λ_=>1) (λ_=>N) r8 B E h;rw[af,af]at this;omega
end
def â (E:Nat->Int)(a b:Nat):=E a<E b\/(E a=E b/\a<b)
structure BD (at_:Nat->Int)(n:Nat)(L:lN):Prop where
 a:L.Pairwise (â at_)
 d:∀j,j∈L↔j<n
section
variable {at_ bt:Nat->Int}{n:Nat}{L se:List Nat}
def â.h{a b}(h:â at_ a b):a≠b:=λe=>by subst e;obtain h|⟨-,h⟩:=h<;>omega
def â.a{a b}(h:â at_ a b):¬â at_ b a:=λk=>by unfold â at h k;omega
def Tg:∀{L se:lN},L.Pairwise (â at_)->se.Pairwise (â at_)->(∀j,j∈L↔j∈se)->L=se
 |[],[],_,_,_=>J
 |[],b::se,_,_,h=>by have:=(h b).2 (ï ..);cases this
 |a::L,[],_,_,h=>by have:=(h a).1 (ï ..);cases this
 |a::L,b::se,E,e,h=>by
  let⟨O,G⟩:=B2.1 E;let⟨U,Y⟩:=B2.1 e;have V:a=b:=by
   by_cases e:a=b
   exact e
   let I:a∈se:=by
    obtain E|E:=sV.1 ((h a).1 (ï ..))
    cases e E
    exact E
   let Z:b∈L:=by
    obtain E|E:=sV.1 ((h b).2 (ï ..))
    cases e E.symm
    exact E
   cases (U a I).a (O b Z)
  subst V;let V:=λI=>(O a I).h J
  let b:=λI=>(U a I).h J
  have:=Tg G Y (λj=>⟨λG=>by
   obtain e|e:=sV.1 ((h j).1 (Ĥ _ G))
   cases V (e▸G)
   exact e,λG=>by
   obtain e|e:=sV.1 ((h j).2 (Ĥ _ G))
   cases b (e▸G)
   exact e⟩)
  rw[this]
def BD.u (h:BD at_ n L)(k:BD at_ n se):L=se:=Tg h.a k.a λj=>by rw[h.d,k.d]
def BD.b (h:BD at_ n L):L.Nodup:=by
 refine ŷ.2 λi j G E I=>(ŷ.1 h.a i j G E I).h
def BD.length (h:BD at_ n L):L.length=n:=by
 let G:=xN (B:=tW n) h.b (λa E=>ρ.2 ((h.d a).1 E));let I:=xN (r8:=tW n) (B:=L) List.nodup_range (λa E=>(h.d a).2 (ρ.1 E));simp[List.length_range]at G I;omega
def BD.c E:BD E 0 []:=⟨List.Pairwise.nil,λj=>⟨(nofun),λh=>absurd h (İ _)⟩⟩
def BD.K (h:BD at_ n L){k}(ai:∀(i) a,i<k->L[i]? = A a->at_ a<=at_ n)(aj:∀(i) a,k<=i->L[i]? = A a->at_ n<at_ a):BD at_ (n+1) (L.take k++n::L.drop k):=by
 let U:=λa E=>(h.d a).1 E
 let Z:∀a,a∈L.take k->at_ a<=at_ n/\a<n:=λa E=>by
  let⟨i,V,e⟩:=j3 E;let O:=V;rw[Ε]at O;refine⟨ai i a N ?_,U a (List.mem_of_mem_take E)⟩;rw[<-e,List.getElem_take];exact ë N
 let Y:∀a,a∈L.drop k->at_ n<at_ a:=λa E=>by
  let⟨i,V,e⟩:=j3 E;let O:=V;rw[ld]at O;apply aj (k+i) a (Nat.le_add_right ..)
  rw[<-e,List.getElem_drop];exact ë N
 refine⟨Hd.2 ⟨h.a.sublist (List.take_sublist ..),B2.2 ⟨λb I=>.inl (Y b I),h.a.sublist (List.drop_sublist ..)⟩,λa E b I=>?_⟩,λj=>?_⟩
 .
  obtain⟨e,e⟩:=Z a E;obtain e|I:=sV.1 I
  rw[e];unfold â;omega
  have:=Y b I;exact .inl N
 rw[ĭ,sV];let b:j∈L↔j∈L.take k\/j∈L.drop k:=by rw[<-ĭ,List.take_append_drop]
 constructor
 .
  rintro(G|G|G)
  have:=(Z j G).2;omega
  omega
  have:=U j (List.mem_of_mem_drop G);omega
 intro G;obtain Z|Z:=nR j n
 .
  obtain U|U:=b.1 ((h.d j).2 Z)
  exact .inl U
  exact .inr (.inr U)
 exact .inr (.inl N)
end
variable {n:Int}{ps:List Pk}{ls:lI}
def gQ{α:Type}{P:List α->Prop}(E:P [])(G:∀l a,P l->P (l++[a])):∀l,P l:=by
 let h:∀l:List α,P l.reverse:=by
  intro l;induction l with
  |nil=>exact E
  |cons a r I=>simp_all
 intro l;have:=h l.reverse;rwa[List.reverse_reverse]at this
def OC (E:List Bk)(T n:Int):=∀b,b∈E->n*1000<=b.e T
def En:List Bk->Int->Int->Option Int
 |[],t,_=>A t
 |b::r,t,n=>match b.i t n with|none=>sA|some u=>En r u n
def M3:∀(G)(t T),(∀b,b∈G->b.r)->t<=1099511627776->En G t n=A T->t<=T/\T<=1099511627776/\OC G T n/\∀s,t<=s->s<T->¬OC G s n:=by
 intro G;induction G with
 |nil=>intro t T _ O e;cases e;exact⟨Ā _,O,(nofun),λs c V=>N⟩
 |cons b r E=>
  intro t T U O e;unfold En at e;split at e
  cases e
  rename_i u r
  let I:=U b (ï ..);obtain⟨c,V,c,X⟩:=b.a I O r;let⟨W,Z,O,r⟩:=E u T (λc E=>U c (Ĥ _ E)) V e;refine⟨N,Z,λc E=>?_,λs e U Y=>?_⟩
  .
   obtain rfl|E:=sV.1 E
   have:=Bk.b I.r0 W;omega
   exact O c E
  by_cases c:s<u
  have:=X s e c;have:=Y b (ï ..);omega
  exact r s N U (λc E=>Y c (Ĥ _ E))
def jS:∀(E)(t),(∀b,b∈E->b.r)->t<=1099511627776->En E t n=sA->∀s,t<=s->s<=1099511627776->¬OC E s n:=by
 intro E;induction E with
 |nil=>intro t _ _ e;cases e
 |cons b r Z=>
  intro t G Y e s V U O;unfold En at e;split at e
  .
   rename_i c
   have:=b.l (G b (ï ..)) c s V U;have:=O b (ï ..);omega
  rename_i u c
  let I:=G b (ï ..);obtain⟨r,r,X,X⟩:=b.a I Y c;by_cases c:s<u
  have:=X s V c;have:=O b (ï ..);omega
  exact Z u (λc I=>G c (Ĥ _ I)) r e s N U (λc I=>O c (Ĥ _ I))
def wL{t T E}(I:∀b,b∈E->b.r)(O:t<=T)(Z:T<=1099511627776)(h:OC E T n)(U:∀s,t<=s->s<T->¬OC E s n):En E t n=A T:=by
 cases e:En E t n with
 |none=>cases jS E t I N e T O Z h
 |some G=>
  obtain⟨W,V,V,X⟩:=M3 E t G I N e;by_cases Y:G<T
  cases U G W Y V
  by_cases V:T<G
  cases X T O V h
  rw[show G=T by omega]
structure Sh where
 a:List Bk
 h:Int
 p:List Pk
def Dn (s:Sh)(p:Pk):Option Sh:=match En s.a (max p.a s.h) p.h with
 |none=>sA
 |some T=>A ⟨s.a.map λb=>b.g T p.h,T,s.p++[⟨p.b,p.h,T⟩]⟩
def shape (ls:lI)(ps:List Pk):=ps.foldl (λs p=>s.bind λs=>Dn s p) (A ⟨ls.map Js,0,[]⟩)
def ME ls ps p:shape ls (ps++[p])=(shape ls ps).bind λs=>Dn s p:=by simp[shape]
def Jf ps p i(h:i<=ps.length):Ò (ps++[p]) i=Ò ps i:=by
 cases i with
 |zero=>rfl
 |succ i=>simp[Ò];rw[č N]
def NF ps p:Ò (ps++[p]) (ps.length+1)=p.a:=by unfold Ò;simp
def PL ps p:Ar (ps++[p])↔Ar ps/\ps.length<300/\Lm p=sy/\Ò ps ps.length<=p.a:=by
 constructor
 .
  rintro⟨O,G⟩;simp at O
  refine⟨⟨N,λi q E=>?_⟩,N,?_,?_⟩
  .
   let I:i<ps.length:=by
    obtain h|h:=nR i ps.length
    exact h
    simp[ą h]at E
   have:=G i q (č I▸E);rwa[Jf _ _ _ N]at this
  exact(G ps.length p sm).1
  have:=(G ps.length p sm).2;rwa[Jf _ _ _ N]at this
 rintro⟨⟨O,G⟩,Z,V,Y⟩;refine⟨so,λi q E=>?_⟩;by_cases I:i<ps.length
 rw[č I]at E;rw[Jf _ _ _ N];exact G i q E
 have U:i=ps.length:=by
  obtain h|h:=nR ps.length i
  rw[ą so]at E;cases E
  omega
 subst U;simp at E
 subst E;rw[Jf _ _ _ N];exact⟨V,Y⟩
def Ar.a (h:Ar ps):0<=Ò ps ps.length/\Ò ps ps.length<=1099511627776:=by
 cases G:ps.length with
 |zero=>simp[Ò]
 |succ n=>
  let E:ps[n]? = A ps[n]:=sm;have:=Bw (h.d n _ E).1;simp[Ò]
  simp_all
structure MQ (ls:lI)(ps:List Pk)(s:Sh):Prop where
 j:s.a.length=ls.length
 y:∀b,b∈s.a->b.r/\b.last=s.h
 g:∀(i:Nat) q b,ls[i]? = A q->s.a[i]? = A b->Ĝ q s.p b
 h:s.h=Ò s.p s.p.length
 a:Ar s.p
 len:s.p.length=ps.length
 d:∀(i:Nat) p q,ps[i]? = A p->s.p[i]? = A q->q.b=p.b/\q.h=p.h/\p.a<=q.a
 l:UA ls s.p=sy
def cu (h:Bq ls):MQ ls [] ⟨ls.map Js,0,[]⟩:=by
 refine⟨sm,λb G=>?_,λi q b E G=>?_,J,Ku,J,λi p q I=>oF I,J⟩
 .
  obtain⟨q,E,rfl⟩:=Ő.1 G;exact⟨(by
    let⟨a,b,c,d⟩:=BJ ((h.2.2 q E));constructor<;>simp[Js]<;>omega),J⟩
 simp[E]at G
 subst G;exact (by
   refine⟨J,J,λt v U=>?_⟩;have:=Ŗ ((BJ (h.2.2 q (ĵ E))).2.2.1) (show 0<=t-0 by simpa[Js]using U);simp[Bk.e,Js]at*
   constructor
   intro V;exact⟨N,nofun⟩
   omega)
def MQ.e{s}(h:MQ ls ps s)(Y:Bq ls) p(U:s.h<=p.a):OC s.a p.a p.h↔Gt ls s.p p:=by
 rw[V9 ls Y.1];constructor
 .
  intro H q O;let⟨i,E⟩:=υ.1 O;let I:i<s.a.length:=by
   rw[h.j];obtain h|h:=nR i ls.length
   exact h
   simp[ą h]at E
  let G:s.a[i]? = A s.a[i]:=oy I
  let V:=Ζ I;exact((h.g i q _ E G).l p ((h.y _ V).2▸U)).1 (H _ V)
 intro H b G;let⟨i,E⟩:=υ.1 G;let I:i<ls.length:=by
  rw[<-h.j];obtain h|h:=nR i _
  exact h
  simp[ą h]at E
 let O:ls[i]? = A ls[i]:=sm;exact((h.g i _ b O E).l p ((h.y _ G).2▸U)).2 (H _ (Ζ _))
def MQ.u{s s' p}(h:MQ ls ps s)(aj:Bq ls)(ac:Lm p=sy)(an:ps.length<300)(e:Dn s p=A s'):MQ ls (ps++[p]) s':=by
 let a:=h.a.a;rw[<-h.h]at a;let V:=Bw ac;unfold Dn at e;split at e
 cases e
 rename_i T a
 cases e
 obtain⟨b,Z,X,-⟩:=M3 s.a _ T (λb G=>(h.y b G).1) N a;let U:s.h<=T:=N;let S:0<=T:=N;refine⟨sx h.j,λb G=>?_,λi q b W G=>?_,?_,?_,oy h.len,λi a b E I=>?_,?_⟩
 obtain⟨c,O,rfl⟩:=Ő.1 G;exact⟨(h.y c O).1.take ((h.y c O).2▸U) Z N,Bk.m ..⟩
 simp[τ,ė]at G;obtain⟨c,O,rfl⟩:=G;let Y:=ĵ O;exact(h.g i q c W O).g (h.y c Y).1.r0 ⟨p.b,p.h,T⟩ ((h.y c Y).2▸U) (X c Y)
 .
  show T=Ò (s.p++[_]) (s.p++[_]).length
  rw[ý,List.length_singleton,NF]
 rw[PL];refine⟨h.a,h.len▸an,(ď ⟨V.1,V.2.1,V.2.2.1,V.2.2.2.1,S,Z⟩),h.h▸U⟩
 .
  by_cases c:i<ps.length
  rw[č c]at E;rw[č (h.len▸c)]at I;exact h.d i a b E I
  have a:i=ps.length:=by
   obtain h|h:=nR ps.length i
   rw[ą so]at E;cases E
   omega
  subst a;simp at E
  subst E;rw[<-h.len]at I;simp at I
  subst I;exact⟨J,J,by show p.a<=T;omega⟩
 rw[jJ];exact⟨h.l,(h.e aj ⟨_,_,T⟩ U).1 X⟩
def I4 (E:Bq ls):∀(ps)(s),Ar ps->shape ls ps=A s->MQ ls ps s:=by
 refine gQ (λs _ e=>?_) (λps p O s G e=>?_)
 cases e;exact cu E
 rw[ME]at e;let⟨X,V,U⟩:=lk.1 e;obtain⟨Z,Y,I,-⟩:=(PL ps p).1 G;exact(O X Z V).u E I Y U
variable {f k i:Nat}{p:Pk}
section
variable (ps:List Pk)
def Bv (f k:Nat):=(ps.take k).filter λp=>p.b==(f:Int)
def A9 (f k:Nat):lN:=(tW k).filter λi=>Aj ps i==f
def Km (i:Nat):=(A9 ps (Aj ps i) i).length
variable {ps}
def MG f k:A9 ps f (k+1)=if Aj ps k=f then A9 ps f k++[k]else A9 ps f k:=by
 unfold A9;rw[lj];by_cases h:Aj ps k=f
 simp_all
 simp_all
def PR (E:ps[k]? = A p):Bv ps f (k+1)=if p.b=(f:Int)then Bv ps f k++[p]else Bv ps f k:=by
 unfold Bv;rw[Δ];by_cases h:p.b=f
 simp_all
 simp_all
def TP (G:Ar ps)(E:ps[k]? = A p)(f:Nat):p.b=(f:Int)↔Aj ps k=f:=by
 have:=Bw (G.d _ p E).1;rw[G8 E];omega
def Fz (O:Ar ps) f:∀k,k<=ps.length->(Bv ps f k).length=(A9 ps f k).length/\∀(r i),(A9 ps f k)[r]? = A i->i<k/\Aj ps i=f/\Km ps i=r/\(Bv ps f k)[r]? = ps[i]?
 |0,_=>⟨J,λr i h=>by simp[A9]at h⟩
 |k+1,e=>by
  let⟨V,Y⟩:=Fz O f k N;let e:ps[k]? = A ps[k]:=ë N;rw[MG,PR e];by_cases h:Aj ps k=f
  .
   rw[Æ h,Æ ((TP O e f).2 h)];refine⟨oy V,λr i E=>?_⟩;obtain U|U:=nR r (A9 ps f k).length
   rw[č U]at E;let⟨X,G,I,Z⟩:=Y r i E;exact⟨N,G,I,by rw[č N];exact Z⟩
   rw[Ţ U]at E;have G:r=(A9 ps f k).length:=by
    obtain I|I:=Ģ (r-(A9 ps f k).length)
    omega
    rw[ą so]at E;cases E
   subst G;rw[Ο]at E;obtain rfl:=sx E
   refine⟨N,h,by unfold Km;rw[h],?_⟩;rw[Ţ N,V,Ο,e];rfl
  rw[Ä h,Ä (λI=>h ((TP O e f).1 I))];exact⟨V,λr i E=>let⟨X,G⟩:=Y r i E;⟨N,G⟩⟩
def Yc f k:(A9 ps f k).Pairwise (·<·):=List.pairwise_lt_range.filter _
def OE:i∈A9 ps f k↔i<k/\Aj ps i=f:=by
 unfold A9;rw[Ρ,ρ,Ł]
def Us (I:Ar ps)(U:i<k)(G:k<=ps.length):(A9 ps (Aj ps i) k)[Km ps i]? = A i:=by
 obtain⟨r,O,e⟩:=j3 (OE.2 ⟨U,J⟩);let E:(A9 ps (Aj ps i) k)[r]? = A i:=by rw[ë O,e]
 have:=((Fz I _ k G).2 r i E).2.2.1;rw[this];exact E
def Sd (E:Ar ps) f:∀k,k<=ps.length->Ar (Bv ps f k)/\Ò (Bv ps f k) (Bv ps f k).length<=Ò ps k/\(Bv ps f k).length<=k
 |0,_=>⟨Ku,Ā _,lr⟩
 |k+1,U=>by
  let⟨G,V,Z⟩:=Sd E f k N;let e:ps[k]? = A ps[k]:=ë N;let⟨O,h⟩:=E.d k _ e;let I:Ò ps (k+1)=ps[k].a:=by simp[Ò,e]
  let Y:=E.j;rw[PR e,I];by_cases h:ps[k].b=(f:Int)
  rw[Æ h];refine⟨(PL ..).2 ⟨G,N,O,N⟩,?_,so⟩;rw[ý,Ċ,Ġ,NF];exact Ā _
  rw[Ä h];exact⟨G,N,N⟩
end
def Dy (cs:Nat->lI)(ps:List Pk)(f:Nat):=if cs f=[]then A (Bv ps f ps.length)else(shape (cs f) (Bv ps f ps.length)).map Sh.p
def è (cs:Nat->lI)(ps:List Pk)(E:Nat->Int):=∀f,f<8->∃out,Dy cs ps f=A out/\∀(r i:Nat),(A9 ps f ps.length)[r]? = A i->E i=Ay out r
def LU (cs:Nat->lI):=∀f,f<8->cs f=[]\/Bq (cs f)
def I7 (ps:List Pk)(E:Nat->Int)(i:Nat):Pk:=match ps[i]? with|some p=>⟨p.b,p.h,E i⟩|none=>⟨0,1,0⟩
def Aq (ps:List Pk)(E:Nat->Int)(L:lN):=L.map (I7 ps E)
def FN{ps I i p}(h:ps[i]? = A p):I7 ps I i=⟨p.b,p.h,I i⟩:=by simp[I7,h]
section
variable {cs:Nat->List (Int×Int)}{ps:List Pk}{at_:Nat->Int}{L:List Nat}
structure zX (own out:List Pk):Prop where
 len:out.length=own.length
 d:∀(i:Nat) p q,own[i]? = A p->out[i]? = A q->q.b=p.b/\q.h=p.h/\p.a<=q.a
 y:Ar out
def YR (Y:Ar ps)(Z:LU cs){f}(V:f<8){out}(h:Dy cs ps f=A out):zX (Bv ps f ps.length) out/\(cs f≠[]->UA (cs f) out=sy):=by
 let O:=(Sd Y f ps.length lr).1;unfold Dy at h;by_cases E:cs f=[]
 rw[Æ E]at h;obtain rfl:=Ö h;refine⟨⟨J,λi p q g g=>?_,O⟩,λg=>absurd E g⟩;simp_all
 rw[Ä E]at h;let U:Bq (cs f):=by
  obtain G|G:=Z f V
  cases E G
  exact G
 cases I:shape _ (Bv ps f _)with
 |none=>rw[I]at h;cases h
 |some s=>
  rw[I]at h;obtain rfl:=Ö h;let g:=I4 U _ s O I;exact⟨⟨g.len,g.d,g.a⟩,λ_=>g.l⟩
def Kn (G:Ar ps){i}(E:i<ps.length):Aj ps i<8:=by
 have e  := ë E;have:=Bw (G.d _ _ e).1;rw[G8 e];omega
def è.B (E:Ar ps)(ai:LU cs)(h:è cs ps at_){i}(U:i<ps.length):∃out q p,Dy cs ps (Aj ps i)=A out/\zX (Bv ps (Aj ps i) ps.length) out/\ps[i]? = A p/\out[Km ps i]? = A q/\q=⟨p.b,p.h,at_ i⟩/\p.a<=at_ i/\Lm q=true:=by
 let V:=Kn E U;let⟨out,Y,X⟩:=h _ V;let I:=(YR E ai V Y).1;let V:=Us E U lr;let e:=ë U;let G:=Fz E (Aj ps i) ps.length lr;let O:=(G.2 _ _ V).2.2.2;rw[e]at O;let G:Km ps i<out.length:=by
  rw[I.len];exact(ŭ.1 O).1
 let G:out[Km ps i]? = A out[Km ps i]:=ë _;let W:=I.d _ _ _ O G;let Z:=X _ _ V;rw[AQ G]at Z;refine⟨_,_,_,Y,I,e,G,?_,N,(I.y.d _ _ G).1⟩;let⟨e,G,I⟩:=W;rw[Z,<-e,<-G]
def è.y (U:Ar ps)(ak:LU cs)(h:è cs ps at_)(I:BD at_ ps.length L):Ar (Aq ps at_ L):=by
 let p:=I.length;let key:∀(r:Nat)(E:r<L.length),(Aq ps at_ L)[r]? = A (I7 ps at_ L[r])/\Lm (I7 ps at_ L[r])=sy/\(I7 ps at_ L[r]).a=at_ L[r]:=λr E=>by
  let Z:=(I.d _).1 (Ζ E);obtain⟨out,q,p,-,-,V,-,p,-,q⟩:=h.B U ak Z;refine⟨by simp[Aq,E],?_,?_⟩
  rw[FN V,<-p];exact q
  rw[FN V]
 refine⟨by simp[Aq];have:=U.j;omega,λr p G=>?_⟩;have E:r<L.length:=by
  have:=(ŭ.1 G).1;simpa[Aq]using this
 let⟨Y,O,p⟩:=key r E;rw[Y]at G;obtain rfl:=Ö G;refine⟨O,?_⟩;rw[p];cases r with
 |zero=>
  have:=Bw O;show 0<=_
  omega
 |succ r=>
  obtain⟨q,-,p⟩:=key r N;simp[Ò,q];rw[p];have:=ŷ.1 I.a r _ N E N;unfold â at this;omega
end
end Go.Proofs.YtaoikkhlnhfkfaaGreatDoor
