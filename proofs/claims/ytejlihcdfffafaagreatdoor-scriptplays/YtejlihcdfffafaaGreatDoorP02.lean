import Derived.Test.YtejlihcdfffafaaGreatDoorP01
namespace Go.Proofs.YtejlihcdfffafaaGreatDoor
def Ay (out:List Sn)(i:Nat):Bool:=out.any fun x=>x.num==(i:Int)
theorem Te {out:List Sn}{i:Nat}:Ay out i=false↔∀ x∈out,x.num≠(i:Int):=by simp[Ay]
theorem Da (out:List Sn)(b i:Nat)(f t:Int):Ay (out++[⟨b,f,t⟩]) i=(Ay out i || b==i):=by
 simp only[Ay,List.any_append,List.any_cons,List.any_nil,Bool.or_false];have e:((b:Int)==(i:Int))=(b==i):=by
  by_cases h:b=i
  · subst h;rw[beq_self_eq_true,beq_self_eq_true]
  have z:(b:Int)≠(i:Int):=by omega
  rw[beq_eq_false_iff_ne.2 z,beq_eq_false_iff_ne.2 h]
 rw[e]
theorem BC {n:Nat}{out:List Sn}{i:Nat}:CE n out i↔i<n/\Ay out i=false:=by simp[CE,Te]
def scan (ps:List Pk)(h:List Int)(out:List Sn)(t:Int):Nat->Option Nat
 | 0=>none
 | i+1=>if Ay out i=true then scan ps h out t i else if Ar ps i<=t/\(∀ b,scan ps h out t i=some b->h.getD i 0<h.getD b 0)then some i else scan ps h out t i
def CK (out:List Sn):Nat->Option Nat
 | 0=>none
 | i+1=>if Ay out i=true then CK out i else match CK out i with | some f=>some f | none=>some i
def Cw:Option Nat->Int
 | none=>-1
 | some k=>k
theorem NQ {ps:List Pk}{h:List Int}{out:List Sn}{t:Int}:∀(i:Nat)(b:Nat),scan ps h out t i=some b->b<i/\Ay out b=false/\Ar ps b<=t/\∀ k,k<i->Ay out k=false->Ar ps k<=t->h.getD b 0<h.getD k 0\/(h.getD b 0=h.getD k 0/\b<=k):=by
 intro i;induction i with
 | zero=>intro b D;simp[scan]at D
 | succ i Z=>
  intro b D;simp only[scan]at D;by_cases J:Ay out i=true
  ·
   rw[if_pos J]at D;obtain⟨aj,Y,K,W⟩:=Z b D;refine⟨by omega,Y,K,fun k Q z N=>?_⟩;rcases qC k i with H|H
   · exact W k H z N
   obtain rfl:k=i:=by omega
   rw[J]at z;cases z
  rw[if_neg J]at D;have ai:Ay out i=false:=by simpa using J
  by_cases E:Ar ps i<=t/\(∀ b,scan ps h out t i=some b->h.getD i 0<h.getD b 0)
  ·
   rw[if_pos E]at D;obtain rfl:=Option.some.inj D;refine⟨by omega,ai,E.1,fun k Q z N=>?_⟩;rcases qC k i with H|H
   ·
    cases V:scan ps h out t i with
    | none=>
     exact absurd N (Int.not_le.2 (by
      have:∀ i,scan ps h out t i=none->∀ k,k<i->Ay out k=false->t<Ar ps k:=by
       intro i;induction i with
       | zero=>intro _ k Q;omega
       | succ i ad=>
        intro I k Q z;simp only[scan]at I;by_cases J:Ay out i=true
        ·
         rw[if_pos J]at I;rcases qC k i with O|O
         · exact ad I k O z
         obtain rfl:k=i:=by omega
         rw[J]at z;cases z
        rw[if_neg J]at I;by_cases E:Ar ps i<=t/\(∀ b,scan ps h out t i=some b->h.getD i 0<h.getD b 0)
        · rw[if_pos E]at I;cases I
        rw[if_neg E]at I;rcases qC k i with O|O
        · exact ad I k O z
        obtain rfl:k=i:=by omega
        rcases vV t (Ar ps k)with K|K
        · exact K
        exact absurd ⟨K,fun b ab=>by rw[I]at ab;cases ab⟩ E
      exact this i V k H z))
    | some c=>
     have U:=E.2 c V;have al:=(Z c V).2.2.2 k H z N;exact .inl (by omega)
   obtain rfl:k=i:=by omega
   exact .inr ⟨rfl,lr⟩
  rw[if_neg E]at D;obtain⟨aj,Y,K,W⟩:=Z b D;refine⟨by omega,Y,K,fun k Q z N=>?_⟩;rcases qC k i with H|H
  · exact W k H z N
  obtain rfl:k=i:=by omega
  rcases vV (h.getD k 0) (h.getD b 0)with U|U
  · exact absurd ⟨N,fun c ac=>by rw[D]at ac;obtain rfl:=Option.some.inj ac;exact U⟩ E
  omega
theorem ZH {ps:List Pk}{E:List Int}{out:List Sn}{t:Int}:∀ i,scan ps E out t i=none->∀ k,k<i->Ay out k=false->t<Ar ps k:=by
 intro i;induction i with
 | zero=>intro _ k O;omega
 | succ i N=>
  intro h k O D;simp only[scan]at h;by_cases I:Ay out i=true
  ·
   rw[if_pos I]at h;rcases qC k i with z|z
   · exact N h k z D
   obtain rfl:k=i:=by omega
   rw[I]at D;cases D
  rw[if_neg I]at h;by_cases H:Ar ps i<=t/\(∀ b,scan ps E out t i=some b->E.getD i 0<E.getD b 0)
  · rw[if_pos H]at h;cases h
  rw[if_neg H]at h;rcases qC k i with z|z
  · exact N h k z D
  obtain rfl:k=i:=by omega
  rcases vV t (Ar ps k)with J|J
  · exact J
  exact absurd ⟨J,fun b K=>by rw[h]at K;cases K⟩ H
theorem PV {out:List Sn}:∀ i f,CK out i=some f->f<i/\Ay out f=false/\∀ k,k<i->Ay out k=false->f<=k:=by
 intro i;induction i with
 | zero=>intro f h;simp[CK]at h
 | succ i Q=>
  intro f h;simp only[CK]at h;by_cases D:Ay out i=true
  ·
   rw[if_pos D]at h;obtain⟨V,K,N⟩:=Q f h;refine⟨by omega,K,fun k I H=>?_⟩;rcases qC k i with z|z
   · exact N k z H
   omega
  rw[if_neg D]at h;cases J:CK out i with
  | some g=>
   rw[J]at h;obtain rfl:=Option.some.inj h;obtain⟨V,K,N⟩:=Q g J;refine⟨by omega,K,fun k I H=>?_⟩;rcases qC k i with z|z
   · exact N k z H
   omega
  | none=>
   rw[J]at h;obtain rfl:=Option.some.inj h;refine⟨by omega,by simpa using D,fun k I H=>?_⟩;rcases qC k i with z|z
   ·
    exact absurd H (by
     have:∀ i,CK out i=none->∀ k,k<i->Ay out k=true:=by
      intro i;induction i with
      | zero=>intro _ k I;omega
      | succ i U=>
       intro E k I;simp only[CK]at E;by_cases D:Ay out i=true
       ·
        rw[if_pos D]at E;rcases qC k i with O|O
        · exact U E k O
        obtain rfl:k=i:=by omega
        exact D
       rw[if_neg D]at E;split at E <;> cases E
     rw[this i J k z];simp)
   omega
theorem Xx {out:List Sn}:∀ i,CK out i=none->∀ k,k<i->Ay out k=true:=by
 intro i;induction i with
 | zero=>intro _ k E;omega
 | succ i H=>
  intro h k E;simp only[CK]at h;by_cases z:Ay out i=true
  ·
   rw[if_pos z]at h;rcases qC k i with D|D
   · exact H h k D
   obtain rfl:k=i:=by omega
   exact z
  rw[if_neg z]at h;split at h <;> cases h
theorem dB:∀(n:Nat)(out:List Sn),(∀ i,i<n->Ay out i=true)->n<=out.length:=by
 intro n;induction n with
 | zero=>intro _ _;exact qR _
 | succ n E=>
  intro out D;have I:=E (out.filter fun x=>!(x.num == (n:Int))) (fun i J=>by
   have:=D i (by omega);simp only[Ay,List.any_eq_true,yZ]at this ⊢;obtain⟨x,z,h⟩:=this;exact ⟨x,List.mem_filter.2 ⟨z,by simp [h];omega⟩,h⟩)
  have H:(out.filter fun x=>!(x.num==(n:Int))).length<out.length:=by
   have:=D n (by omega);simp only[Ay,List.any_eq_true,yZ]at this;obtain⟨x,z,h⟩:=this;exact List.length_filter_lt_length_iff_exists.2 ⟨x,z,by simp[h]⟩
  omega
structure LU (per:Int)(ps:List Pk)(keys:List Int)(out:List Sn)(t:Int)(f:Nat):Prop where
 sched:EE per ps keys out
 len:out.length<=ps.length
 tick:(f=1/\t=De out)\/(f=0/\(∀ i,CE ps.length out i->De out<Ar ps i)/\∃ i,CE ps.length out i/\t=Ar ps i/\∀ k,CE ps.length out k->Ar ps i<=Ar ps k)
 low:0<=t
 high:t<=1099511627776+1500000*out.length
theorem UT (per:Int)(ps:List Pk)(h:List Int):LU per ps h [] 0 1:=⟨EE.nil _ _ _,qR _,.inl ⟨rfl,rfl⟩,q8 _,by simp⟩
section
variable {per:Int} {ps:List Pk} {keys:List Int} {out:List Sn} {t:Int} {f:Nat}
theorem LU.send (h:LU per ps keys out t f)(O:Al ps)(ad:1<=per)(aj:per<=1000){b:Nat}(J:scan ps keys out t ps.length=some b){p:Pk}(H:ps[b]? = some p)(ab:out.length<ps.length):LU per ps keys (out++[⟨b,t,t+per*p.size⟩]) (t+per*p.size) 1:=by
 obtain⟨K,N,z,I⟩:=NQ _ _ J;have E:af ps keys out t b:=⟨BC.2 ⟨K,N⟩,z,fun i D Y=>I i (BC.1 D).1 (BC.1 D).2 Y⟩
 have W:Tick ps out t:=by
  rcases h.tick with⟨-,e⟩|⟨-,V,U⟩
  · exact .inl ⟨e,b,E.undone,z⟩
  exact .inr ⟨V,U⟩
 obtain⟨-,-,s1,Q,-,-⟩:=A7 (O.each _ p H).1;have ai:0<=per*p.size:=vG (by omega) (by omega);have Z:per*p.size<=1000*1500:=yD (by omega) Q (by omega) (by omega);have ac:=h.low;have al:=h.high;refine⟨h.sched.snoc ⟨t,b,W,E,by rw[Ht H]⟩,by simp;omega,.inl ⟨rfl,by rw[Gh]⟩,by omega,?_⟩;simp only[qJ,vH,vU];omega
theorem LU.idle (z:LU per ps keys out t f)(E:Al ps)(O:scan ps keys out t ps.length=none)(W:out.length<ps.length):f=1/\∃ k p,CK out ps.length=some k/\ps[k]? = some p/\LU per ps keys out p.tick 0:=by
 have D:=ZH _ O;have K:f=1/\t=De out:=by
  rcases z.tick with Q|⟨-,-,i,I,Z,-⟩
  · exact Q
  have:=D i (BC.1 I).1 (BC.1 I).2;omega
 refine⟨K.1,?_⟩;cases H:CK out ps.length with
 | none=>
  have:=dB ps.length out (Xx _ H);omega
 | some k=>
  obtain⟨J,N,U⟩:=PV _ _ H;have e:ps[k]? = some ps[k]:=qE J;obtain⟨-,-,-,-,V,Y⟩:=A7 (E.each _ _ e).1;refine⟨k,ps[k],rfl,e,z.sched,z.len,.inr ⟨rfl,fun i h=>?_,k,BC.2 ⟨J,N⟩,(Av e).symm,fun i h=>?_⟩,V,by omega⟩
  · rw[<- K.2];exact D i (BC.1 h).1 (BC.1 h).2
  exact Eh E (U i (BC.1 h).1 (BC.1 h).2) (BC.1 h).1
end
structure Pi {σ:Type}(Q:Que σ)(keys:List Int)(q0:σ)(ok:σ->Prop)(items:σ->List Nat):Prop where
 start:ok q0/\items q0=[]
 rest:∀ q,ok q->Q.rest q=(items q).length
 come:∀ q k,ok q->(∀ i,i∈items q->i<k)->ok (Q.come q k)/\(items (Q.come q k)).length=(items q).length+1/\∀ i,i∈items (Q.come q k)↔i∈items q\/i=k
 idle:∀ q,ok q->Q.rest q=0->ok (Q.idle q)/\items (Q.idle q)=items q
 left:∀ q,ok q->0<(items q).length->ok (Q.left q)/\(items (Q.left q)).length+1=(items q).length/\∀ i,i∈items (Q.left q)↔i∈items q/\i≠Q.pick q
 pick:∀ q,ok q->0<(items q).length->Q.pick q∈items q/\∀ i,i∈items q->keys.getD (Q.pick q) 0<keys.getD i 0\/(keys.getD (Q.pick q) 0=keys.getD i 0/\Q.pick q<=i)
structure dE {σ:Type}(ok:σ->Prop)(items:σ->List Nat)(per:Int)(ps:List Pk)(keys:List Int)(s:St σ):Prop where
 good:ok s.q
 sched:EE per ps keys s.out
 wait:∀ i,i∈items s.q↔i<s.next/\Ay s.out i=false
 sent:∀ i:Nat,Ay s.out i=true->i<s.next
 came:∀ i,i<s.next->Ar ps i<=s.now
 le:s.next<=ps.length
 now:s.now=De s.out\/((∀ i,CE ps.length s.out i->De s.out<Ar ps i)/\∃ i,CE ps.length s.out i/\s.now=Ar ps i/\∀ k,CE ps.length s.out k->Ar ps i<=Ar ps k)
theorem NP {O:Type}{U:Que O}{Q:List Int}{ab:O}{ok:O->Prop}{K:O->List Nat}{per:Int}{ps:List Pk}{s:St O}(H:Pi U Q ab ok K)(ap:0<=per)(Y:Al ps)(I:Reaches U per ps ab s):dE ok K per ps Q s:=by
 refine I.by_steps (C:=fun s=>dE ok K per ps Q s) ?_ ?_ ?_ ?_
 ·
  refine⟨H.start.1,EE.nil _ _ _,fun i=>?_,fun i I=>?_,fun i I=>?_,qR _,.inl rfl⟩
  ·
   simp only[H.start.2];constructor
   · intro I;cases I
   rintro⟨I,-⟩;exact absurd I (vR _)
  · simp[Ay]at I
  exact absurd I (vR _)
 ·
  intro s p _ E N h;have aS:∀ i,i∈K s.q->i<s.next:=fun i a0=>((h.wait _).1 a0).1
  obtain⟨ac,-,aq⟩:=H.come s.q s.next h.good aS;have a7:=Af E;refine⟨ac,h.sched,fun i=>?_,fun i z=>xS (h.sent i z),fun i z=>?_,a7,h.now⟩
  ·
   rw[aq,h.wait];simp only;constructor
   ·
    rintro(⟨a,b⟩|rfl)
    · exact⟨by omega,b⟩
    refine⟨by omega,?_⟩;cases W:Ay s.out s.next with
    | false=>rfl
    | true=>have:=h.sent _ W;omega
   rintro⟨a,b⟩;rcases qC i s.next with D|D
   · exact .inl ⟨D,b⟩
   exact .inr (by omega)
  simp only at z ⊢;rcases qC i s.next with D|D
  · exact h.came i D
  obtain rfl:i=s.next:=by omega
  rw[Av E];exact N
 ·
  intro s p _ a3 J E h;rw[H.rest _ h.good]at J;obtain⟨am,-,ad⟩:=H.left s.q h.good J;obtain⟨a2,ao⟩:=H.pick s.q h.good J;obtain⟨av,an⟩:=(h.wait _).1 a2;have a8:=h.le;have aB:∀ i,CE ps.length s.out i->Ar ps i<=s.now->i∈K s.q:=by
   intro i z N;obtain⟨u1,u2⟩:=BC.1 z;refine(h.wait i).2 ⟨?_,u2⟩;rcases qC i s.next with D|D
   · exact D
   have a4:s.next<ps.length:=by omega
   have e:ps[s.next]? = some ps[s.next]:=qE a4;have a':=a3 _ e;have ai:=Eh Y D u1;rw[Av e]at ai;omega
  have Z:af ps Q s.out s.now (U.pick s.q):=⟨BC.2 ⟨by omega,an⟩,h.came _ av,fun i z N=>ao i (aB i z N)⟩
  have a6:Tick ps s.out s.now:=by
   rcases h.now with e|⟨a5,aw⟩
   · exact .inl ⟨e,_,Z.undone,Z.came⟩
   exact .inr ⟨a5,aw⟩
  have bb:0<=per*p.size:=vG ap (by have:=A7 (Y.each _ p E).1;omega);refine⟨am,h.sched.snoc ⟨s.now,U.pick s.q,a6,Z,by rw[Ht E]⟩,fun i=>?_,fun i z=>?_,fun i z=>?_,h.le,.inl (by rw[Gh])⟩
  ·
   rw[ad,h.wait];simp only;rw[Da];constructor
   · rintro⟨⟨a,b⟩,c⟩;refine⟨a,?_⟩;rw[b,Bool.false_or];exact beq_eq_false_iff_ne.2 (fun e=>c e.symm)
   rintro⟨a,b⟩;rw[Bool.or_eq_false_iff]at b;exact⟨⟨a,b.1⟩,fun e=>beq_eq_false_iff_ne.1 b.2 e.symm⟩
  ·
   simp only at z ⊢;rw[Da,Bool.or_eq_true]at z;rcases z with z|z
   · exact h.sent i z
   have:=yZ.1 z;omega
  have:=h.came i z;simp only;omega
 intro s p _ E N J h;rw[H.rest _ h.good]at J;have al:K s.q=[]:=qN.1 J;have aE:∀ i,CE ps.length s.out i->s.next<=i:=by
  intro i z;rcases qC i s.next with D|D
  · have:=(h.wait i).2 ⟨D,(BC.1 z).2⟩;rw[al]at this;cases this
  exact D
 have V:∀ i,CE ps.length s.out i->p.tick<=Ar ps i:=by
  intro i z;have:=Eh Y (aE i z) (BC.1 z).1;rwa[Av E]at this
 have a9:s.now=De s.out:=by
  rcases h.now with e|⟨-,i,z,e,-⟩
  · exact e
  have:=V i z;omega
 have aN:CE ps.length s.out s.next:=by
  refine BC.2 ⟨Af E,?_⟩;cases W:Ay s.out s.next with
  | false=>rfl
  | true=>have:=h.sent _ W;omega
 obtain⟨aj,a1⟩:=H.idle s.q h.good (by rw[H.rest _ h.good];exact J);refine⟨aj,h.sched,fun i=>by rw[a1];exact h.wait i,h.sent,fun i z=>?_,h.le,.inr ⟨fun i z=>?_,s.next,aN,(Av E).symm,fun k ar=>?_⟩⟩
 · have:=h.came i z;simp only;omega
 ·
  have:=V i z;show De s.out<_
  omega
 rw[Av E];exact V k ar
theorem Qf {H:Type}{J:Que H}{Z:List Int}{N:H}{ok:H->Prop}{K:H->List Nat}{per:Int}{ps:List Pk}(h:Pi J Z N ok K)(I:0<=per)(E:Al ps):Kh J per ps N where
 none:=by rw[h.rest _ h.start.1,h.start.2];rfl
 come:=fun s D _=>by
  have r:=NP h I E D;have O:∀ i,i∈K s.q->i<s.next:=fun i U=>((r.wait _).1 U).1
  obtain⟨Q,Y,-⟩:=h.come s.q s.next r.good O;rw[h.rest _ Q,h.rest _ r.good,Y]
 left:=fun s D z=>by
  have r:=NP h I E D;rw[h.rest _ r.good]at z ⊢;obtain⟨W,ab,-⟩:=h.left s.q r.good z;rw[h.rest _ W,ab]
 pick:=fun s D z=>by
  have r:=NP h I E D;rw[h.rest _ r.good]at z;exact((r.wait _).1 (h.pick s.q r.good z).1).1
 idle:=fun s D z=>by
  have r:=NP h I E D;obtain⟨ac,V⟩:=h.idle s.q r.good z;rw[h.rest _ ac,V,<- h.rest _ r.good];exact z
theorem Xa {h:Type}{z:Que h}{H:List Int}{I:h}{ok:h->Prop}{N:h->List Nat}{per:Int}{ps:List Pk}{s:St h}(E:Pi z H I ok N)(J:0<=per)(D:Al ps)(K:Reaches z per ps I s)(O:¬s.next<ps.length)(U:z.rest s.q=0):EE per ps H s.out/\s.out.length=ps.length:=by
 have r:=NP E J D K;have Q:=K.count (Qf E J D);have:=r.le;exact⟨r.sched,by omega⟩
def sumOf (f:Nat->Int):List Nat->Int
 | []=>0
 | a::r=>f a+sumOf f r
theorem M8 {f:Nat->Int}(h:∀ i,0<=f i):∀ l,0<=sumOf f l
 | []=>q8 _
 | a::r=>by
  have:=M8 h r;have:=h a;simp only[sumOf];omega
theorem U7 {f:Nat->Int}{a:Nat}:∀{l:List Nat},a∈l->sumOf f l=f a+sumOf f (l.erase a):=by
 intro l;induction l with
 | nil=>intro h;cases h
 | cons x r D=>
  intro h;by_cases e:x=a
  · subst e;simp[sumOf]
  have z:a∈r:=by
   rcases qS.1 h with h|h
   · exact absurd h.symm e
   exact h
  have E:(x::r).erase a=x::r.erase a:=List.erase_cons_tail (by simpa using e);rw[E];simp only[sumOf,D z];omega
theorem gX {f:Nat->Int}(J:∀ i,0<=f i):∀(A B:List Nat),A.Nodup->(∀ a,a∈A->a∈B)->sumOf f A<=sumOf f B:=by
 intro A;induction A with
 | nil=>intro B _ _;exact M8 J B
 | cons a r K=>
  intro B D z;obtain⟨I,H⟩:=yA.1 D;have E:=z a (qA ..);rw[U7 E];have:=K (B.erase a) H (fun x h=>(List.mem_erase_of_ne (fun e:x=a=>I (by rw[<- e];exact h))).2 (z x (qG _ h)));simp only[sumOf];omega
def AY (key:Nat->Int)(q:List Nat):Nat->Nat
 | 0=>0
 | i+1=>if key (q.getD i 0)<key (q.getD (AY key q i) 0)then i else AY key q i
theorem Jg (key:Nat->Int)(q:List Nat):∀ i,AY key q i<=i-1
 | 0=>lr
 | i+1=>by
  have:=Jg key q i;simp only[AY];split <;> omega
theorem Fe (key:Nat->Int){q:List Nat}{i:Nat}(h:0<q.length)(z:i<=q.length):AY key q i<q.length:=by
 have:=Jg key q i;omega
theorem IG (key:Nat->Int)(q:List Nat):∀ i j,j<i->key (q.getD (AY key q i) 0)<key (q.getD j 0)\/(key (q.getD (AY key q i) 0)=key (q.getD j 0)/\AY key q i<=j):=by
 intro i;induction i with
 | zero=>intro j E;omega
 | succ i D=>
  intro j E;have H:=Jg key q i;simp only[AY];by_cases z:key (q.getD i 0)<key (q.getD (AY key q i) 0)
  ·
   rw[if_pos z];rcases qC j i with h|h
   · have:=D j h;omega
   obtain rfl:j=i:=by omega
   exact .inr ⟨rfl,lr⟩
  rw[if_neg z];rcases qC j i with h|h
  · exact D j h
  obtain rfl:j=i:=by omega
  omega
def BA (key:Nat->Int)(q:List Nat):Nat:=AY key q q.length
def waits (key:Nat->Int):Que (List Nat) where
 come:=fun q k=>q++[k]
 pick:=fun q=>q.getD (BA key q) 0
 left:=fun q=>q.eraseIdx (BA key q)
 rest:=List.length
theorem getD_lt {h:Type}{l:List h}{j:Nat}{d:h}(z:j<l.length):l.getD j d=l[j]:=by simp[List.getD,qE z]
theorem YE {q:List Nat}(z:q.Pairwise (·<·)){i j:Nat}(D:i<q.length)(h:j<q.length)(e:q[i]=q[j]):i=j:=by
 have H:=xC.1 z i j D h;have E:=xC.1 z j i h D;omega
theorem Iw (key:Nat->Int){q:List Nat}(h:0<q.length):BA key q<q.length:=Fe key h lr
theorem Zo (h:List Int):Pi (waits fun i=>h.getD i 0) h [] (fun q=>q.Pairwise (·<·)) (fun q=>q) where
 start:=⟨List.Pairwise.nil,rfl⟩
 rest:=fun q _=>rfl
 idle:=fun q D _=>⟨D,rfl⟩
 come:=fun q k D Q=>by
  refine⟨List.pairwise_append.2 ⟨D,List.pairwise_singleton _ _,fun a V b O=>?_⟩,by simp[waits],fun i=>by simp[waits]⟩;rw[vJ]at O;subst O;exact Q a V
 left:=fun q D J=>by
  have E:=Iw (fun i=>h.getD i 0) J;refine⟨List.Pairwise.sublist (List.eraseIdx_sublist ..) D,?_,fun i=>?_⟩
  ·
   show(q.eraseIdx (BA _ q)).length+1=_
   rw[List.length_eraseIdx,if_pos E];omega
  show i∈q.eraseIdx (BA _ q)↔i∈q/\i≠q.getD (BA _ q) 0
  have I:q.getD (BA (fun i=>h.getD i 0) q) 0=q[BA (fun i=>h.getD i 0) q]'E:=getD_lt E;rw[I,List.mem_eraseIdx_iff_getElem];constructor
  · rintro⟨j,H,K,rfl⟩;exact⟨xQ _,fun e=>K (YE D _ _ e)⟩
  rintro⟨z,K⟩;obtain⟨j,H,rfl⟩:=yP z;exact⟨j,H,fun e=>K (by subst e;rfl),rfl⟩
 pick:=fun q D J=>by
  have E:=Iw (fun i=>h.getD i 0) J;have I:q.getD (BA (fun i=>h.getD i 0) q) 0=q[BA (fun i=>h.getD i 0) q]'E:=getD_lt E;refine⟨?_,fun i Y=>?_⟩
  ·
   show q.getD (BA _ q) 0∈q
   rw[I];exact xQ _
  obtain⟨j,H,rfl⟩:=yP Y;show h.getD (q.getD (BA _ q) 0) 0<_\/(h.getD (q.getD (BA _ q) 0) 0=_/\q.getD (BA _ q) 0<=_)
  have z:=IG (fun i=>h.getD i 0) q q.length j H;have W:q.getD j 0=q[j]:=getD_lt H;simp only[W]at z;rcases z with z|⟨z,U⟩
  · exact .inl z
  refine .inr ⟨z,?_⟩;rw[I];rcases Nat.lt_or_eq_of_le U with N|N
  · exact x9 (xC.1 D _ _ E H N)
  have e:BA (fun i=>h.getD i 0) q=j:=N;simp only[e];exact lr
def Ag (ps:List Pk)(j:Nat):Nat:=match ps[j]? with | some p=>p.flow.toNat | none=>0
theorem FI {ps:List Pk}{j:Nat}{p:Pk}(h:ps[j]? = some p):Ag ps j=p.flow.toNat:=by simp[Ag,h]
def E9 (ps:List Pk)(ns:List Int)(j:Nat):Int:=ns.getD (Ag ps j) 0
def Bz (ps:List Pk)(ns:List Int):List Int:=(List.range ps.length).map (E9 ps ns)
def BP (ps:List Pk)(ns:List Int):List Int:=(List.range ps.length).map fun i=>Ar ps i+E9 ps ns i
theorem DI (ps:List Pk)(ns:List Int):(Bz ps ns).length=ps.length:=by simp[Bz]
theorem Ed (ps:List Pk)(ns:List Int):(BP ps ns).length=ps.length:=by simp[BP]
theorem Nw {ps:List Pk}{ns:List Int}{i:Nat}(h:i<ps.length):(Bz ps ns).getD i 0=E9 ps ns i:=by
 rw[getD_lt (by rw[DI];exact h)];simp[Bz]
theorem Od {ps:List Pk}{ns:List Int}{i:Nat}(h:i<ps.length):(BP ps ns).getD i 0=Ar ps i+E9 ps ns i:=by
 rw[getD_lt (by rw[Ed];exact h)];simp[BP]
def Conv (per:Int)(ps:List Pk)(l:List Sn):Prop:=∀(k:Nat) x,l[k]? = some x->∃ t b,Tick ps (l.take k) t/\CE ps.length (l.take k) b/\Ar ps b<=t/\x=⟨(b:Nat),t,t+per*bytesOf ps b⟩
def Oy (ps:List Pk)(l:List Sn):Prop:=∀(k:Nat) x,l[k]? = some x->∀ j,j<x.num.toNat->Ag ps j=Ag ps x.num.toNat->¬CE ps.length (l.take k) j
section
variable {per:Int} {ps:List Pk} {l:List Sn} {keys:List Int}
theorem EE.conv (z:EE per ps keys l):Conv per ps l:=fun k x D=>by
 obtain⟨t,b,E,h,e⟩:=z k x D;exact⟨t,b,E,h.undone,h.came,e⟩
theorem EE.turns (H:Al ps)(J:∀ i j,i<j->j<ps.length->Ag ps i=Ag ps j->keys.getD i 0<=keys.getD j 0)(O:EE per ps keys l):Oy ps l:=fun k x K j z E N=>by
 obtain⟨t,b,U,h,e⟩:=O k x K;have I:x.num.toNat=b:=by rw[e];simp
 rw[I]at z E;have D:=h.undone.1;have c:=Eh H (x9 z) D;have Q:=h.least j N (by have:=h.came;omega);have V:=J j b z D E;omega
theorem Ui:∀ L:List Nat,sumOf (fun _=>1) L=L.length
 | []=>rfl
 | a::L=>by
  have:=Ui L;simp only[sumOf,vH];omega
theorem dH {A B:List Nat}(z:A.Nodup)(h:∀ a,a∈A->a∈B):A.length<=B.length:=by
 have:=gX (f:=fun _=>1) (fun _=>by omega) A B z h;rw[Ui,Ui]at this;omega
theorem UB {k:Nat}{x:Sn}(h:l[k]? = some x):De (l.take (k+1))=x.fin:=by
 rw[vF,h];exact Gh _ _
theorem XI (h:Al ps){ns:List Int}(H:EE per ps (Bz ps ns) l):Oy ps l:=by
 refine H.turns h fun i j I D E=>?_
 have e:∀ k,k<ps.length->(Bz ps ns).getD k 0=E9 ps ns k:=fun k z=>by simp[Bz,List.getD,z]
 rw[e i (by omega),e j D];unfold E9;rw[E];exact q8 _
theorem ZB (h:Al ps){ns:List Int}(H:EE per ps (BP ps ns) l):Oy ps l:=by
 refine H.turns h fun i j I z E=>?_
 have e:∀ k,k<ps.length->(BP ps ns).getD k 0=Ar ps k+E9 ps ns k:=fun k D=>by simp[BP,List.getD,D]
 rw[e i (by omega),e j z];have:=Eh h (x9 I) z;unfold E9;rw[E];omega
theorem VF (h:Al ps):Conv per ps (BZ per ps ps.length)/\Oy ps (BZ per ps ps.length):=by
 have z:=Qe (per:=per) h [] (fun _=>rfl);exact⟨z.conv,z.turns h fun _ _ _ _ _=>q8 _⟩
end
def Ahead (h:Nat->Int)(a b:Nat):Prop:=h a<h b\/(h a=h b/\a<b)
structure Be (at_:Nat->Int)(n:Nat)(L:List Nat):Prop where
 sorted:L.Pairwise (Ahead at_)
 mem:∀ j,j∈L↔j<n
section
variable {at_ bt:Nat → Int} {n:Nat} {L M:List Nat}
theorem Ahead.ne {a b:Nat}(h:Ahead at_ a b):a≠b:=fun e=>by subst e;rcases h with h|⟨-,h⟩ <;> omega
theorem Ahead.not {a b:Nat}(h:Ahead at_ a b):¬Ahead at_ b a:=fun k=>by unfold Ahead at h k;omega
theorem Oo:∀{L M:List Nat},L.Pairwise (Ahead at_)->M.Pairwise (Ahead at_)->(∀ j,j∈L↔j∈M)->L=M
 | [],[],_,_,_=>rfl
 | [],b::M,_,_,h=>by have:=(h b).2 (qA ..);cases this
 | a::L,[],_,_,h=>by have:=(h a).1 (qA ..);cases this
 | a::L,b::M,W,K,h=>by
  obtain⟨H,Q⟩:=vN.1 W;obtain⟨I,U⟩:=vN.1 K;have Y:a=b:=by
   by_cases e:a=b
   · exact e
   have V:a∈M:=by
    rcases qS.1 ((h a).1 (qA ..))with z|z
    · exact absurd z e
    exact z
   have O:b∈L:=by
    rcases qS.1 ((h b).2 (qA ..))with z|z
    · exact absurd z.symm e
    exact z
   exact absurd (H b O) (I a V).not
  subst Y;have N:a ∉ L:=fun E=>(H a E).ne rfl
  have J:a ∉ M:=fun E=>(I a E).ne rfl
  have:=Oo Q U (fun j=>⟨fun D=>by
   rcases qS.1 ((h j).1 (qG _ D))with e|e
   · exact absurd (by rw[<- e];exact D) N
   · exact e,fun D=>by
   rcases qS.1 ((h j).2 (qG _ D))with e|e
   · exact absurd (by rw[<- e];exact D) J
   exact e⟩)
  rw[this]
theorem Be.same (h:Be at_ n L)(k:Be at_ n M):L=M:=Oo h.sorted k.sorted fun j=>by rw[h.mem,k.mem]
theorem Be.nodup (h:Be at_ n L):L.Nodup:=by
 refine xC.2 fun i j E D z=>(xC.1 h.sorted i j E D z).ne
theorem Be.length (h:Be at_ n L):L.length=n:=by
 have E:=dH (B:=List.range n) h.nodup (fun a z=>List.mem_range.2 ((h.mem a).1 z));have D:=dH (A:=List.range n) (B:=L) List.nodup_range (fun a z=>(h.mem a).2 (List.mem_range.1 z));simp only[List.length_range]at E D;omega
theorem Be.start (z:Nat->Int):Be z 0 []:=⟨List.Pairwise.nil,fun j=>⟨(fun h=>by cases h),fun h=>absurd h (vR _)⟩⟩
theorem Be.put (E:Be at_ n L){k:Nat}(V:∀(i:Nat) a,i<k->L[i]? = some a->at_ a<=at_ n)(U:∀(i:Nat) a,k<=i->L[i]? = some a->at_ n<at_ a):Be at_ (n+1) (L.take k++n::L.drop k):=by
 have O:∀ a,a∈L->a<n:=fun a h=>(E.mem a).1 h
 have K:∀ a,a∈L.take k->at_ a<=at_ n/\a<n:=fun a h=>by
  obtain⟨i,J,e⟩:=yP h;have H:=J;rw[vO]at H;refine⟨V i a (by omega) ?_,O a (yM h)⟩;rw[<- e,List.getElem_take];exact qE (by omega)
 have N:∀ a,a∈L.drop k->at_ n<at_ a:=fun a h=>by
  obtain⟨i,J,e⟩:=yP h;have H:=J;rw[yK]at H;refine U (k+i) a (Nat.le_add_right _ _) ?_
  rw[<- e,List.getElem_drop];exact qE (by omega)
 refine⟨List.pairwise_append.2 ⟨E.sorted.sublist (List.take_sublist _ _),vN.2 ⟨fun b z=>.inl (N b z),E.sorted.sublist (List.drop_sublist _ _)⟩,fun a h b z=>?_⟩,fun j=>?_⟩
 ·
  obtain⟨Z,Y⟩:=K a h;rcases qS.1 z with e|z
  · rw[e];unfold Ahead;omega
  have:=N b z;exact .inl (by omega)
 rw[vI,qS];have W:j∈L↔j∈L.take k\/j∈L.drop k:=by rw[<- vI,List.take_append_drop]
 constructor
 ·
  rintro(D|D|D)
  · have:=(K j D).2;omega
  · omega
  have:=O j (List.mem_of_mem_drop D);omega
 intro D;rcases qC j n with Q|Q
 ·
  rcases W.1 ((E.mem j).2 Q)with I|I
  · exact .inl I
  exact .inr (.inr I)
 exact .inr (.inl (by omega))
theorem Be.range (z:∀ i j,i<j->j<n->at_ i<=at_ j):Be at_ n (List.range n):=by
 refine⟨xC.2 fun i j E h D=>?_,fun j=>List.mem_range⟩;rw[List.length_range]at E h;rw[List.getElem_range,List.getElem_range];have:=z i j D h;unfold Ahead;omega
end
theorem Vp {h:Type}{P:List h->Prop}(z:P [])(H:∀ l a,P l->P (l++[a])):∀ l,P l:=by
 have E:∀ l:List h,P l.reverse:=by
  intro l;induction l with
  | nil=>exact z
  | cons a r D=>rw[List.reverse_cons];exact H _ _ D
 intro l;have:=E l.reverse;rwa[List.reverse_reverse]at this
def LG (h:List Bk)(T n:Int):Prop:=∀ b,b∈h->n*1000<=b.lev T
def DN:List Bk->Int->Int->Option Int
 | [],t,_=>some t
 | b::r,t,n=>match b.when t n with | none=>none | some u=>DN r u n
theorem JS {n:Int}:∀(z:List Bk)(t T:Int),(∀ b,b∈z->b.Ok)->t<=1099511627776->DN z t n=some T->t<=T/\T<=1099511627776/\LG z T n/\∀ s,t<=s->s<T->¬LG z s n:=by
 intro z;induction z with
 | nil=>intro t T _ E e;cases e;exact⟨q8 _,E,(fun b D=>by cases D),fun s V H=>by omega⟩
 | cons b r W=>
  intro t T I E e;unfold DN at e;split at e
  · cases e
  rename_i u hu
  have D:=I b (qA ..);obtain⟨V,H,ac,Y⟩:=b.when_some D E hu;obtain⟨N,O,Z,Q⟩:=W u T (fun c h=>I c (qG _ h)) H e;refine⟨by omega,O,fun c h=>?_,fun s K ab J=>?_⟩
  ·
   rcases qS.1 h with rfl|h
   · have:=Bk.lev_mono D.r0 N;omega
   exact Z c h
  by_cases U:s<u
  · have:=Y s K U;have:=J b (qA ..);omega
  exact Q s (by omega) ab (fun c h=>J c (qG _ h))
theorem Xl {n:Int}:∀(h:List Bk)(t:Int),(∀ b,b∈h->b.Ok)->t<=1099511627776->DN h t n=none->∀ s,t<=s->s<=1099511627776->¬LG h s n:=by
 intro h;induction h with
 | nil=>intro t _ _ e;cases e
 | cons b r O=>
  intro t D K e s H s1 E;unfold DN at e;split at e
  ·
   rename_i hu
   have:=b.when_none (D b (qA ..)) hu s H s1;have:=E b (qA ..);omega
  rename_i u hu
  have I:=D b (qA ..);obtain⟨U,J,V,Q⟩:=b.when_some I K hu;by_cases N:s<u
  · have:=Q s H N;have:=E b (qA ..);omega
  exact O u (fun c z=>D c (qG _ z)) J e s (by omega) s1 (fun c z=>E c (qG _ z))
theorem eB {n t T:Int}{h:List Bk}(D:∀ b,b∈h->b.Ok)(E:t<=T)(Q:T<=1099511627776)(H:LG h T n)(J:∀ s,t<=s->s<T->¬LG h s n):DN h t n=some T:=by
 cases e:DN h t n with
 | none=>exact absurd H (Xl h t D (by omega) e T E Q)
 | some z=>
  obtain⟨N,U,K,O⟩:=JS h t z D (by omega) e;by_cases I:z<T
  · exact absurd K (J z N I)
  by_cases hgt:T<z
  · exact absurd H (O T E hgt)
  rw[show z=T by omega]
structure Sh where
 bs:List Bk
 left:Int
 out:List Pk
def CR (s:Sh)(p:Pk):Option Sh:=match DN s.bs (max p.tick s.left) p.size with
 | none=>none
 | some T=>some ⟨s.bs.map fun b=>b.take T p.size,T,s.out++[⟨p.flow,p.size,T⟩]⟩
def shape (ls:lI)(ps:List Pk):Option Sh:=ps.foldl (fun s p=>s.bind fun s=>CR s p) (some ⟨ls.map He,0,[]⟩)
theorem Ko (ls:lI)(ps:List Pk)(p:Pk):shape ls (ps++[p])=(shape ls ps).bind fun s=>CR s p:=by simp[shape,List.foldl_append]
theorem G8 (ps:List Pk)(p:Pk)(i:Nat)(h:i<=ps.length):ahead (ps++[p]) i=ahead ps i:=by
 cases i with
 | zero=>rfl
 | succ i=>simp only[ahead];rw[qU (by omega)]
theorem Lj (ps:List Pk)(p:Pk):ahead (ps++[p]) (ps.length+1)=p.tick:=by
 unfold ahead;simp
theorem ME (ps:List Pk)(p:Pk):Al (ps++[p])↔Al ps/\ps.length<300/\Jk p=true/\ahead ps ps.length<=p.tick:=by
 constructor
 ·
  rintro⟨H,z⟩;simp at H
  refine⟨⟨by omega,fun i q h=>?_⟩,by omega,?_,?_⟩
  ·
   have E:i<ps.length:=by
    rcases qC i ps.length with D|D
    · exact D
    simp[qH D]at h
   have:=z i q (by rw[qU E];exact h);rwa[G8 _ _ _ (by omega)]at this
  · exact(z ps.length p (by simp)).1
  have:=(z ps.length p (by simp)).2;rwa[G8 _ _ _ (by omega)]at this
 rintro⟨⟨H,z⟩,N,K,J⟩;refine⟨by simp;omega,fun i q h=>?_⟩;by_cases E:i<ps.length
 · rw[qU E]at h;rw[G8 _ _ _ (by omega)];exact z i q h
 have I:i=ps.length:=by
  rcases qC ps.length i with D|D
  · rw[qH (by simp;omega)]at h;cases h
  omega
 subst I;simp at h
 subst h;rw[G8 _ _ _ (by omega)];exact⟨K,J⟩
theorem Al.final {ps:List Pk}(D:Al ps):0<=ahead ps ps.length/\ahead ps ps.length<=1099511627776:=by
 cases z:ps.length with
 | zero=>simp[ahead]
 | succ n=>
  have h:ps[n]? = some ps[n]:=by simp[z]
  have:=A7 (D.each n _ h).1;simp only[ahead];rw[h];exact⟨this.2.2.2.2.1,this.2.2.2.2.2⟩
structure Kj (ls:lI)(ps:List Pk)(s:Sh):Prop where
 few:s.bs.length=ls.length
 ok:∀ b,b∈s.bs->b.Ok/\b.last=s.left
 pass:∀(i:Nat) q b,ls[i]? = some q->s.bs[i]? = some b->Passed q s.out b
 left:s.left=ahead s.out s.out.length
 okOut:Al s.out
 len:s.out.length=ps.length
 each:∀(i:Nat) p q,ps[i]? = some p->s.out[i]? = some q->q.flow=p.flow/\q.size=p.size/\p.tick<=q.tick
 fits:PL ls s.out=true
theorem VN {ls:lI}(D:Ak ls):Kj ls [] ⟨ls.map He,0,[]⟩:=by
 refine⟨by simp,fun b z=>?_,fun i q b h z=>?_,rfl,FD,rfl,fun i p q E=>by simp at E,rfl⟩
 · obtain⟨q,h,rfl⟩:=List.mem_map.1 z;exact⟨il (D.2.2 q h),rfl⟩
 simp[h]at z
 subst z;exact UX q (AA (D.2.2 q (q9 h))).2.2.1
theorem Kj.have_fits {ls:lI}{ps:List Pk}{s:Sh}(h:Kj ls ps s)(N:Ak ls)(p:Pk)(K:s.left<=p.tick):LG s.bs p.tick p.size↔Fj ls s.out p:=by
 rw[QX ls N.1];constructor
 ·
  intro I q H;obtain⟨i,D⟩:=xN.1 H;have z:i<s.bs.length:=by
   rw[h.few];rcases qC i ls.length with h|h
   · exact h
   simp[qH h]at D
  have E:s.bs[i]? = some s.bs[i]:=by simp[z]
  have J:s.bs[i]∈s.bs:=xQ z;exact((h.pass i q _ D E).fits p (by rw[(h.ok _ J).2];exact K)).1 (I _ J)
 intro I b E;obtain⟨i,D⟩:=xN.1 E;have z:i<ls.length:=by
  rw[<- h.few];rcases qC i s.bs.length with h|h
  · exact h
  simp[qH h]at D
 have H:ls[i]? = some ls[i]:=by simp[z]
 exact((h.pass i _ b H D).fits p (by rw[(h.ok _ E).2];exact K)).2 (I _ (xQ z))
theorem Kj.step {ls:lI}{ps:List Pk}{s s':Sh}{p:Pk}(h:Kj ls ps s)(U:Ak ls)(Y:Jk p=true)(Q:ps.length<300)(e:CR s p=some s'):Kj ls (ps++[p]) s':=by
 have Z:=h.okOut.final;rw[<- h.left]at Z;have hpk:=A7 Y;unfold CR at e;split at e
 · cases e
 rename_i T hT
 cases e
 obtain⟨ac,K,N,-⟩:=JS s.bs _ T (fun b z=>(h.ok b z).1) (by omega) hT;have I:s.left<=T:=by omega
 have W:0<=T:=by omega
 refine⟨by simpa using h.few,fun b z=>?_,fun i q b ab z=>?_,?_,?_,by simp[h.len],fun i a b D H=>?_,?_⟩
 · obtain⟨c,E,rfl⟩:=List.mem_map.1 z;exact⟨(h.ok c E).1.take (by rw[(h.ok c E).2];exact I) K (by omega),Bk.take_last ..⟩
 · simp only[xM,xD]at z;obtain⟨c,E,rfl⟩:=z;have J:=q9 E;exact(h.pass i q c ab E).pass (h.ok c J).1.r0 ⟨p.flow,p.size,T⟩ (by rw[(h.ok c J).2];exact I) (N c J)
 ·
  show T=ahead (s.out++[_]) (s.out++[_]).length
  rw[qJ,List.length_singleton,Lj]
 · rw[ME];refine⟨h.okOut,by rw[h.len];exact Q,iM ⟨hpk.1,hpk.2.1,hpk.2.2.1,hpk.2.2.2.1,W,K⟩,by rw[<- h.left];exact I⟩
 ·
  by_cases O:i<ps.length
  · rw[qU O]at D;rw[qU (by rw[h.len];exact O)]at H;exact h.each i a b D H
  have V:i=ps.length:=by
   rcases qC ps.length i with h|h
   · rw[qH (by simp;omega)]at D;cases D
   omega
  subst V;simp at D
  subst D;rw[<- h.len]at H;simp at H
  subst H;exact⟨rfl,rfl,by show p.tick<=T;omega⟩
 rw[WZ];exact⟨h.fits,(h.have_fits U ⟨p.flow,p.size,T⟩ I).1 N⟩
theorem GG {ls:lI}(h:Ak ls):∀(ps:List Pk)(s:Sh),Al ps->shape ls ps=some s->Kj ls ps s:=by
 refine Vp (fun s _ e=>?_) (fun ps p J s z e=>?_)
 · cases e;exact VN h
 rw[Ko]at e;obtain⟨N,D,H⟩:=Option.bind_eq_some_iff.1 e;obtain⟨I,K,E,-⟩:=(ME ps p).1 z;exact(J N I D).step h E K H
section
variable (ps:List Pk)
def Bi (f k:Nat):List Pk:=(ps.take k).filter fun p=>p.flow==(f:Int)
def AO (f k:Nat):List Nat:=(List.range k).filter fun i=>Ag ps i==f
def IP (i:Nat):Nat:=(AO ps (Ag ps i) i).length
variable {ps}
theorem Kb (f k:Nat):AO ps f (k+1)=if Ag ps k=f then AO ps f k++[k]else AO ps f k:=by
 unfold AO;rw[List.range_succ,zA];by_cases h:Ag ps k=f
 · rw[if_pos h,yF,if_pos (by rw[yZ];exact h)];rfl
 rw[if_neg h,yF,if_neg (by rw[yZ];exact h)];exact x6 _
theorem ML {f k:Nat}{p:Pk}(z:ps[k]? = some p):Bi ps f (k+1)=if p.flow=(f:Int)then Bi ps f k++[p]else Bi ps f k:=by
 unfold Bi;rw[vF,z,zA];by_cases h:p.flow=(f:Int)
 ·
  rw[if_pos h]
  congr 1
  show List.filter _ [p]=_
  rw[yF,if_pos (by rw[yZ];exact h)];rfl
 rw[if_neg h];show _++List.filter _ [p]=_
 rw[yF,if_neg (by rw[yZ];exact h)];exact x6 _
theorem Pf (z:Al ps){k:Nat}{p:Pk}(h:ps[k]? = some p)(f:Nat):p.flow=(f:Int)↔Ag ps k=f:=by
 have:=A7 (z.each _ p h).1;rw[FI h];omega
theorem Es (D:Al ps)(f:Nat):∀ k,k<=ps.length->(Bi ps f k).length=(AO ps f k).length/\∀(r i:Nat),(AO ps f k)[r]? = some i->i<k/\Ag ps i=f/\IP ps i=r/\(Bi ps f k)[r]? = ps[i]?
 | 0,_=>⟨rfl,fun r i z=>by simp[AO]at z⟩
 | k+1,V=>by
  obtain⟨J,K⟩:=Es D f k (by omega);have e:ps[k]? = some ps[k]:=qE (by omega);rw[Kb,ML e];by_cases z:Ag ps k=f
  ·
   rw[if_pos z,if_pos ((Pf D e f).2 z)];refine⟨by simp[J],fun r i h=>?_⟩;rcases qC r (AO ps f k).length with H|H
   · rw[qU H]at h;obtain⟨U,I,O,Q⟩:=K r i h;exact⟨by omega,I,O,by rw[qU (by omega)];exact Q⟩
   rw[vW H]at h;have N:r=(AO ps f k).length:=by
    rcases xP (r-(AO ps f k).length)with E|E
    · omega
    rw[qH (by simp;omega)]at h;cases h
   subst N;rw[yT]at h;obtain rfl:k=i:=by simpa using h
   refine⟨by omega,z,by unfold IP;rw[z],?_⟩;rw[vW (by omega),J,yT,e];rfl
  rw[if_neg z,if_neg (fun E=>z ((Pf D e f).1 E))];exact⟨J,fun r i h=>by obtain⟨U,I⟩:=K r i h;exact⟨by omega,I⟩⟩
theorem Si (f k:Nat):(AO ps f k).Pairwise (·<·):=List.pairwise_lt_range.filter _
theorem Lx {f k i:Nat}:i∈AO ps f k↔i<k/\Ag ps i=f:=by
 unfold AO;rw[List.mem_filter,List.mem_range,yZ]
theorem QD (z:Al ps){i k:Nat}(I:i<k)(E:k<=ps.length):(AO ps (Ag ps i) k)[IP ps i]? = some i:=by
 have D:i∈AO ps (Ag ps i) k:=Lx.2 ⟨I,rfl⟩;obtain⟨r,H,e⟩:=yP D;have h:(AO ps (Ag ps i) k)[r]? = some i:=by rw[qE H,e]
 have:=((Es z (Ag ps i) k E).2 r i h).2.2.1;rw[this];exact h
theorem N7 (h:Al ps)(f:Nat):∀ k,k<=ps.length->Al (Bi ps f k)/\ahead (Bi ps f k) (Bi ps f k).length<=ahead ps k/\(Bi ps f k).length<=k
 | 0,_=>⟨FD,q8 _,lr⟩
 | k+1,I=>by
  obtain⟨z,J,N⟩:=N7 h f k (by omega);have e:ps[k]? = some ps[k]:=qE (by omega);obtain⟨H,O⟩:=h.each k _ e;have E:ahead ps (k+1)=ps[k].tick:=by simp only[ahead,e]
  have K:=h.few;rw[ML e,E];by_cases D:ps[k].flow=(f:Int)
  · rw[if_pos D];refine⟨(ME _ _).2 ⟨z,by omega,H,by omega⟩,?_,by simp;omega⟩;rw[qJ,vH,vU,Lj];exact q8 _
  rw[if_neg D];exact⟨z,by omega,by omega⟩
end
def CY (cs:Nat->lI)(ps:List Pk)(f:Nat):Option (List Pk):=if cs f=[]then some (Bi ps f ps.length)else(shape (cs f) (Bi ps f ps.length)).map Sh.out
def Shaped (cs:Nat->lI)(ps:List Pk)(h:Nat->Int):Prop:=∀ f,f<8->∃ out,CY cs ps f=some out/\∀(r i:Nat),(AO ps f ps.length)[r]? = some i->h i=Ar out r
def Dm (cs:Nat->lI):Prop:=∀ f,f<8->cs f=[]\/Ak (cs f)
def Gz (ps:List Pk)(h:Nat->Int)(i:Nat):Pk:=match ps[i]? with | some p=>⟨p.flow,p.size,h i⟩ | none=>⟨0,1,0⟩
def Aj (ps:List Pk)(h:Nat->Int)(L:List Nat):List Pk:=L.map (Gz ps h)
theorem Ep {ps:List Pk}{h:Nat->Int}{i:Nat}{p:Pk}(z:ps[i]? = some p):Gz ps h i=⟨p.flow,p.size,h i⟩:=by simp[Gz,z]
section
variable {cs:Nat → List (Int × Int)} {ps:List Pk} {at_:Nat → Int} {L:List Nat}
structure jl (own out:List Pk):Prop where
 len:out.length=own.length
 each:∀(i:Nat) p q,own[i]? = some p->out[i]? = some q->q.flow=p.flow/\q.size=p.size/\p.tick<=q.tick
 ok:Al out
theorem Tt (K:Al ps)(N:Dm cs){f:Nat}(U:f<8){out:List Pk}(h:CY cs ps f=some out):jl (Bi ps f ps.length) out/\(cs f≠[]->PL (cs f) out=true):=by
 have H:=(N7 K f ps.length lr).1;unfold CY at h;by_cases z:cs f=[]
 · rw[if_pos z]at h;obtain rfl:=Option.some.inj h;refine⟨⟨rfl,fun i p q Q I=>?_,H⟩,fun J=>absurd z J⟩;rw[Q]at I;obtain rfl:=Option.some.inj I;exact⟨rfl,rfl,q8 _⟩
 rw[if_neg z]at h;have O:Ak (cs f):=by
  rcases N f U with D|D
  · exact absurd D z
  exact D
 cases E:shape (cs f) (Bi ps f ps.length)with
 | none=>rw[E]at h;cases h
 | some s=>
  rw[E]at h;obtain rfl:=Option.some.inj h;have g:=GG O _ s H E;exact⟨⟨g.len,g.each,g.okOut⟩,fun _=>g.fits⟩
theorem IM (h:Al ps){i:Nat}(z:i<ps.length):Ag ps i<8:=by
 have e:ps[i]? = some ps[i]:=qE z;have:=A7 (h.each _ _ e).1;rw[FI e];omega
theorem Shaped.at (h:Al ps)(Q:Dm cs)(W:Shaped cs ps at_){i:Nat}(E:i<ps.length):∃ out q p,CY cs ps (Ag ps i)=some out/\jl (Bi ps (Ag ps i) ps.length) out/\ps[i]? = some p/\out[IP ps i]? = some q/\q=⟨p.flow,p.size,at_ i⟩/\p.tick<=at_ i/\Jk q=true:=by
 have N:=IM h E;obtain⟨out,K,V⟩:=W _ N;have z:=(Tt h Q N K).1;have J:=QD h E lr;have e:ps[i]? = some ps[i]:=qE E;have O:=Es h (Ag ps i) ps.length lr;have H:=(O.2 _ _ J).2.2.2;rw[e]at H;have ab:IP ps i<out.length:=by
  rw[z.len];exact(vK.1 H).1
 have D:out[IP ps i]? = some out[IP ps i]:=qE ab;have U:=z.each _ _ _ H D;have I:=V _ _ J;rw[Av D]at I;refine⟨out,_,ps[i],K,z,e,D,?_,by omega,(z.ok.each _ _ D).1⟩;obtain⟨Y,Z,ac⟩:=U;rw[I,<- Y,<- Z]
theorem Shaped.ok (H:Al ps)(J:Dm cs)(W:Shaped cs ps at_)(z:Be at_ ps.length L):Al (Aj ps at_ L):=by
 have Z:=z.length;have key:∀(r:Nat)(h:r<L.length),(Aj ps at_ L)[r]? = some (Gz ps at_ L[r])/\Jk (Gz ps at_ L[r])=true/\(Gz ps at_ L[r]).tick=at_ L[r]:=fun r h=>by
  have K:=(z.mem _).1 (xQ h);obtain⟨out,q,p,-,-,I,-,N,-,V⟩:=W.at H J K;refine⟨by simp[Aj,h],?_,?_⟩
  · rw[Ep I,<- N];exact V
  rw[Ep I]
 refine⟨by simp[Aj];have:=H.few;omega,fun r p D=>?_⟩;have h:r<L.length:=by
  have:=(vK.1 D).1;simpa[Aj]using this
 obtain⟨O,E,Q⟩:=key r h;rw[O]at D;obtain rfl:=Option.some.inj D;refine⟨E,?_⟩;rw[Q];cases r with
 | zero=>
  have:=A7 E;show 0<=_
  omega
 | succ r=>
  obtain⟨U,-,Y⟩:=key r (by omega);simp only[ahead,U];rw[Y];have:=xC.1 z.sorted r (r+1) (by omega) h (by omega);unfold Ahead at this;omega
end
theorem ZI {ps:List Pk}(z:Al ps):Shaped (fun _=>[]) ps (Ar ps)/\Be (Ar ps) ps.length (List.range ps.length)/\Aj ps (Ar ps) (List.range ps.length)=ps:=by
 refine⟨fun f _=>⟨_,if_pos rfl,fun r i D=>?_⟩,Be.range fun i j H E=>Eh z (x9 H) E,?_⟩
 · have:=((Es z f ps.length lr).2 r i D).2.2.2;unfold Ar;rw[this]
 apply List.ext_getElem?;intro r;unfold Aj;rw[xM];rcases qC r ps.length with h|h
 · have e:ps[r]? = some ps[r]:=qE h;rw[qE (by simpa using h),List.getElem_range,Option.map_some,Ep e,e,Av e]
 rw[qH (by simpa using h),qH h];rfl
end Go.Proofs.YtejlihcdfffafaaGreatDoor
