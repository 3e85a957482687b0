import Derived.Test.YtejlihcdfffafaaGreatDoorP04
import Derived.Deep.LoopGhost
import Derived.Test.YtejlihcdfffafaaGreatDoorChecked
import Derived.LaidEql
import Derived.Stop.Asserts
import Derived.RowKitTokens
set_option maxHeartbeats 400000
namespace Go.Proofs.YtejlihcdfffafaaGreatDoor
def Ff (per:Int)(ps:List Pk)(ws:List Int)(l:List Sn)(h:List Int):Prop:=∃ s,Reaches (BR ps ws) per ps EK s/\¬s.next<ps.length/\(BR ps ws).rest s.q=0/\s.out=l/\(List.range ps.length).map s.q.tag=h
theorem Ff.same {per:Int}{ps:List Pk}{ws:List Int}{l m:List Sn}{z h:List Int}(N:Ff per ps ws l z)(k:Ff per ps ws m h):l=m/\z=h:=by
 obtain⟨s,J,E,I,rfl,rfl⟩:=N;obtain⟨t,H,D,K,rfl,rfl⟩:=k;rw[MP J H E I D K];exact⟨rfl,rfl⟩
section
variable {per:Int} {ps:List Pk} {ws:List Int} {l:List Sn} {ts:List Int}
theorem Ff.length (H:Gw ws)(z:Al ps)(D:1<=per)(E:Ff per ps ws l ts):l.length=ps.length/\ts.length=ps.length:=by
 obtain⟨s,h,I,J,rfl,rfl⟩:=E;have:=h.count (JI H z D);have:=h.next_le;exact⟨by omega,by simp⟩
end
structure Ez (per:Int)(ps:List Pk)(ws:List Int)(s0 s:St FQ)(i:Nat)(first best:Int):Prop where
 reach:Reaches (BR ps ws) per ps EK s
 from_:Reaches (BR ps ws) per ps EK s0
 out:s.out=s0.out
 now:s.now=s0.now
 seen:∀ j,j<i->Ar ps j<=s.now->j<s.next
 first:(first = -1/\∀ j,j<i->Ay s.out j=true)\/∃ f:Nat,first=f/\f<i/\Ay s.out f=false/\∀ j,j<f->Ay s.out j=true
 best:(best = -1/\∀ j,j<i->j ∉ s.q.q)\/∃ b:Nat,best=b/\b<i/\b∈s.q.q/\∀ j,j<i->j∈s.q.q->s.q.tag b<s.q.tag j\/(s.q.tag b=s.q.tag j/\b<=j)
section
variable {per:Int} {ps:List Pk} {ws:List Int} {s0 s:St FQ} {i:Nat} {first best:Int}
theorem Ez.start (z:Reaches (BR ps ws) per ps EK s0):Ez per ps ws s0 s0 0 (-1) (-1):=
 ⟨z,z,rfl,rfl,fun _ h=>absurd h (vR _),.inl ⟨rfl,fun _ h=>absurd h (vR _)⟩,.inl ⟨rfl,fun _ h=>absurd h (vR _)⟩⟩
theorem Ez.comes (U:Al ps)(h:Ez per ps ws s0 s i first best){p:Pk}(J:ps[i]? = some p)(Y:¬i<s.next)(N:p.tick<=s.now):i=s.next/\Ez per ps ws s0 ⟨s.out,s.now,s.next+1,s.q.come (Ag ps) (Dn ps ws) i⟩ i first best:=by
 have e:i=s.next:=by
  rcases qC s.next i with K|K
  · have V:=Eh U (x9 K) (Af J);rw[Av J]at V;have:=h.seen s.next K (by omega);omega
  omega
 refine⟨e,?_⟩;have I:∀ j,j<i->(j∈(s.q.come (Ag ps) (Dn ps ws) i).q↔j∈s.q.q):=fun j z=>by
  show j∈s.q.q++[i]↔_
  rw[vI,vJ];exact⟨fun h=>h.elim id (fun h=>by omega),.inl⟩
 have O:∀ j,j<i->(s.q.come (Ag ps) (Dn ps ws) i).tag j=s.q.tag j:=fun j z=>Au _ _ (by omega)
 refine⟨?_,h.from_,h.out,h.now,fun j z N=>by have:=h.seen j z N;simp only;omega,h.first,?_⟩
 · have:=Reaches.come s p h.reach (by rw[<- e];exact J) N;rw[<- e]at this ⊢;exact this
 rcases h.best with⟨H,D⟩|⟨b,H,D,W,Q⟩
 · exact .inl ⟨H,fun j z E=>D j z ((I j z).1 E)⟩
 refine .inr ⟨b,H,D,(I b D).2 W,fun j z E=>?_⟩;show(s.q.come (Ag ps) (Dn ps ws) i).tag b<(s.q.come (Ag ps) (Dn ps ws) i).tag j\/((s.q.come (Ag ps) (Dn ps ws) i).tag b=(s.q.come (Ag ps) (Dn ps ws) i).tag j/\b<=j)
 rw[O b D,O j z];exact Q j z ((I j z).1 E)
theorem Ez.waits (E:Gw ws)(z:Al ps)(D:1<=per)(h:Ez per ps ws s0 s i first best)(j:Nat):j∈s.q.q↔j<s.next/\Ay s.out j=false:=by
 obtain⟨H,r⟩:=fair_run E z D h.reach;exact⟨r.only j,fun h=>r.wait j h.1 h.2⟩
theorem upto {P:Nat->Prop}{i:Nat}(z:∀ j,j<i->P j)(D:P i):∀ j,j<i+1->P j:=fun j E=>by
 rcases qC j i with h|h
 · exact z j h
 obtain rfl:j=i:=by omega
 exact D
theorem Ez.pass (Q:Gw ws)(N:Al ps)(O:1<=per)(h:Ez per ps ws s0 s i first best)(U:Ar ps i<=s.now->i<s.next)(H:Ay s.out i=true):Ez per ps ws s0 s (i+1) first best:=by
 have J:i ∉ s.q.q:=fun E=>by rw[((h.waits Q N O i).1 E).2]at H;cases H
 refine⟨h.reach,h.from_,h.out,h.now,upto h.seen U,?_,?_⟩
 ·
  rcases h.first with⟨D,z⟩ | ⟨f,D,z,I⟩
  · exact .inl ⟨D,upto z H⟩
  exact .inr ⟨f,D,xS z,I⟩
 rcases h.best with⟨D,z⟩|⟨b,D,z,I,K⟩
 · exact .inl ⟨D,upto z J⟩
 exact .inr ⟨b,D,xS z,I,upto K fun E=>absurd E J⟩
theorem Ez.first_is (H:Ez per ps ws s0 s i first best)(I:Ay s.out i=false){E:Int}(h:E=if first<0 then(i:Int)else first):∃ f:Nat,E=f/\f<i+1/\Ay s.out f=false/\∀ j,j<f->Ay s.out j=true:=by
 rcases H.first with⟨D,z⟩ | ⟨f,D,z,J⟩
 · rw[D,if_pos (by omega)]at h;exact⟨i,h,yV _,I,z⟩
 rw[D,if_neg (by omega)]at h;exact⟨f,h,xS z,J⟩
theorem Ez.keeps (Y:Gw ws)(N:Al ps)(V:1<=per)(h:Ez per ps ws s0 s i first best)(Z:Ar ps i<=s.now->i<s.next)(U:Ay s.out i=false){J:Int}(W:J=if first<0 then(i:Int)else first)(Q:¬i<s.next\/∃ b:Nat,best=b/\s.q.tag b<=s.q.tag i):Ez per ps ws s0 s (i+1) J best:=by
 refine⟨h.reach,h.from_,h.out,h.now,upto h.seen Z,.inr (h.first_is U W),?_⟩;rcases Q with O|⟨c,ac,ab⟩
 ·
  have K:i ∉ s.q.q:=fun E=>O ((h.waits Y N V i).1 E).1
  rcases h.best with⟨D,z⟩|⟨b,D,z,I,H⟩
  · exact .inl ⟨D,upto z K⟩
  exact .inr ⟨b,D,xS z,I,upto H fun E=>absurd E K⟩
 rcases h.best with⟨D,z⟩|⟨b,D,z,I,H⟩
 · omega
 obtain rfl:c=b:=by omega
 exact .inr ⟨c,D,xS z,I,upto H fun E=>by omega⟩
theorem Ez.takes (W:Gw ws)(O:Al ps)(U:1<=per)(h:Ez per ps ws s0 s i first best)(K:i<s.next)(H:Ay s.out i=false){J:Int}(V:J=if first<0 then(i:Int)else first)(E:best = -1\/∃ b:Nat,best=b/\s.q.tag i<s.q.tag b):Ez per ps ws s0 s (i+1) J i:=by
 refine⟨h.reach,h.from_,h.out,h.now,upto h.seen fun _=>K,.inr (h.first_is H V),.inr ⟨i,rfl,yV _,(h.waits W O U i).2 ⟨K,H⟩,upto (fun j I D=>?_) fun _=>.inr ⟨rfl,lr⟩⟩⟩;rcases h.best with⟨Q,z⟩|⟨b,Q,z,Z,N⟩
 · exact absurd D (z j I)
 rcases E with E|⟨c,ab,Y⟩
 · omega
 obtain rfl:c=b:=by omega
 have:=N j I D;omega
theorem Ez.none (O:Gw ws)(K:Al ps)(J:1<=per)(h:Ez per ps ws s0 s ps.length first best)(ap:best<0)(ar:s.out.length<ps.length):∃ p,first=(s.next:Int)/\ps[s.next]? = some p/\Reaches (BR ps ws) per ps EK ⟨s.out,p.tick,s.next,s.q.rests⟩/\¬ ∃ p,ps[s0.next]? = some p/\p.tick<=s0.now:=by
 obtain⟨aw,r⟩:=fair_run O K J h.reach;obtain⟨av,am⟩:=fair_run O K J h.from_;have ab:∀ j,j<ps.length->j ∉ s.q.q:=by
  rcases h.best with⟨D,E⟩|⟨b,D,-⟩
  · exact E
  omega
 have W:s.q.q=[]:=by
  cases e:s.q.q with
  | nil=>rfl
  | cons k t=>
   have Z:k∈s.q.q:=by rw[e];exact qA ..
   have:=(r.only k Z).1;have:=r.le;exact absurd Z (ab k (by omega))
 have al:(BR ps ws).rest s.q=0:=by show s.q.q.length=0;rw[W];rfl
 have aq:=h.reach.count (JI O K J);have Q:s.next<ps.length:=by omega
 have H:Ay s.out s.next=false:=by
  cases z:Ay s.out s.next with
  | false=>rfl
  | true=>have:=r.gone _ z;omega
 have ai:∀ j,j<s.next->Ay s.out j=true:=fun j aj=>by
  cases z:Ay s.out j with
  | true=>rfl
  | false=>
   have:=r.wait j aj z;rw[W]at this;cases this
 have e:ps[s.next]? = some ps[s.next]:=qE Q;have an:s.now<Ar ps s.next:=by
  rcases vV s.now (Ar ps s.next)with N|N
  · exact N
  have:=h.seen s.next Q N;omega
 refine⟨_,?_,e,?_,?_⟩
 ·
  rcases h.first with⟨D,E⟩ | ⟨f,D,E,U,ad⟩
  · rw[E s.next Q]at H;cases H
  have V:¬s.next<f:=fun I=>by rw[ad _ I]at H;cases H
  have Y:¬f<s.next:=fun I=>by rw[ai _ I]at U;cases U
  rw[D];omega
 · exact Reaches.idle s _ h.reach e (by rw[<- Av e];exact an) al
 rintro⟨p,ac,ao⟩;have hl0:=Af ac;have V:=h.seen s0.next hl0 (by rw[Av ac,h.now];exact ao);have Y:Ay s.out s0.next=false:=by
  rw[h.out];cases z:Ay s0.out s0.next with
  | false=>rfl
  | true=>have:=am.gone _ z;omega
 exact ab _ hl0 (r.wait _ V Y)
theorem Ez.one (al:Gw ws)(ai:Al ps)(ad:1<=per)(D:Ez per ps ws s0 s ps.length first best)(ap:¬best<0):∃(b:Nat)(p:Pk),best=b/\ps[b]? = some p/\Ay s.out b=false/\Reaches (BR ps ws) per ps EK ⟨s.out++[⟨(b:Nat),s.now,s.now+per*p.size⟩],s.now+per*p.size,s.next,s.q.left b⟩:=by
 obtain⟨aq,r⟩:=fair_run al ai ad D.reach;rcases D.best with⟨Q,-⟩|⟨b,Q,ab,H,Z⟩
 · omega
 have I:0<s.q.q.length:=List.length_pos_of_mem H;have Y:=Iw s.q.tag I;obtain⟨ac,ar⟩:=Ho (tag:=s.q.tag) (q:=s.q.q) I;obtain⟨k,N⟩:∃ k,k=(BR ps ws).pick s.q:=⟨_,rfl⟩
 have z:s.q.q.getD (BA s.q.tag s.q.q) 0=k:=N.symm;have E:k=b:=by
  have V:k∈s.q.q:=by rw[<- z];exact ac
  have ao:=Z k (by have:=(r.only k V).1;have:=r.le;omega) V;obtain⟨j,J,U⟩:=yP H;have h:=IG s.q.tag s.q.q s.q.q.length j J;have aj:AY s.q.tag s.q.q s.q.q.length=BA s.q.tag s.q.q:=rfl;rw[aj,z,getD_lt (d:=0) J,U]at h;have E:k<=b\/s.q.tag k<s.q.tag b:=by
   rcases h with h|⟨-,h⟩
   · exact .inr h
   refine .inl ?_
   rw[<- z,getD_lt (d:=0) Y,<- U];rcases Nat.lt_or_eq_of_le h with K|K
   · exact x9 (xC.1 r.rises _ _ Y J K)
   simp only[K];exact lr
  omega
 have an:b<ps.length:=ab;have e:ps[b]? = some ps[b]:=qE an;refine⟨b,_,Q,e,(r.only b H).2,?_⟩;have:=Reaches.send s ps[b] D.reach (fun q W=>by
  rcases vV s.now q.tick with O|O
  · exact O
  have:=D.seen s.next (Af W) (by rw[Av W];exact O);omega) I (by rw [<- N,E];exact e)
 have am:(BR ps ws).left s.q=s.q.left b:=by rw[<- E,<- z];rfl
 rw[<- N,E,am]at this;exact this
end
structure Yn {σ:Type}(Q:Que σ)(per:Int)(ps:List Pk)(q0:σ):Prop where
 law:Kh Q per ps q0
 pick:∀ s,Reaches Q per ps q0 s->0<Q.rest s.q->Ay s.out (Q.pick s.q)=false/\∀ j,j<Q.pick s.q->Ag ps j=Ag ps (Q.pick s.q)->Ay s.out j=true
 none:∀ s,Reaches Q per ps q0 s->Q.rest s.q=0->∀ i,i<s.next->Ay s.out i=true
structure dx {σ:Type}(per:Int)(ps:List Pk)(s:St σ):Prop where
 conv:Conv per ps s.out
 turns:Oy ps s.out
 gone:∀ i:Nat,Ay s.out i=true->i<s.next
 came:∀ i,i<s.next->Ar ps i<=s.now
 now:s.now=De s.out\/((∀ i,CE ps.length s.out i->De s.out<Ar ps i)/\∃ i,CE ps.length s.out i/\s.now=Ar ps i/\∀ k,CE ps.length s.out k->Ar ps i<=Ar ps k)
theorem Zi {V:Type}{W:Que V}{per:Int}{ps:List Pk}{al:V}{s:St V}(K:Yn W per ps al)(ao:0<=per)(ac:Al ps)(an:Reaches W per ps al s):dx per ps s:=by
 refine an.by_steps (C:=fun s=>dx per ps s) ⟨fun k x z=>by simp at z,fun k x z=>by simp at z,(fun i h=>by simp[Ay]at h),fun i h=>absurd h (vR _),.inl rfl⟩ ?_ ?_ ?_
 ·
  rintro s p H D Z r;refine⟨r.conv,r.turns,fun i h=>xS (r.gone i h),fun i h=>?_,r.now⟩;rcases qC i s.next with E|E
  · exact r.came i E
  obtain rfl:i=s.next:=by simp only at h;omega
  rw[Av D];exact Z
 ·
  rintro s p H aN I D r;obtain⟨ai,ab⟩:=K.pick s H I;have ad:=K.law.pick s H I;obtain⟨k,U⟩:∃ k,k=W.pick s.q:=⟨_,rfl⟩
  rw[<- U]at ai ab ad D ⊢;have aj:CE ps.length s.out k:=BC.2 ⟨Af D,ai⟩;have Y:=r.came k ad;have av:Tick ps s.out s.now:=by
   rcases r.now with e|e
   · exact .inl ⟨e,k,aj,Y⟩
   exact .inr e
  obtain⟨-,-,aw,-,-,-⟩:=A7 (ac.each _ p D).1;have aE:0<=per*p.size:=vG ao (by omega);have J:∀(i:Nat),i<=s.out.length->(s.out++[(⟨(k:Nat),s.now,s.now+per*p.size⟩:Sn)]).take i=s.out.take i:=fun i h=>yG h
  refine⟨fun i x z=>?_,fun i x z j O Q=>?_,fun i h=>?_,fun i h=>?_,.inl (by rw[Gh])⟩
  ·
   rcases Hm z with⟨E,z⟩|⟨rfl,rfl⟩
   · simp only[J i (by omega)];exact r.conv i x z
   simp only[J _ lr,xA];exact⟨s.now,k,av,aj,Y,by rw[Ht D]⟩
  ·
   rcases Hm z with⟨E,z⟩|⟨rfl,rfl⟩
   · simp only[J i (by omega)];exact r.turns i x z j O Q
   simp only[J _ lr,xA];simp only[yB]at O Q;intro ap;have:=ab j O Q;rw[(BC.1 ap).2]at this;cases this
  ·
   rw[Da,Bool.or_eq_true]at h;show i<s.next
   rcases h with h|h
   · exact r.gone i h
   have:=yZ.1 h;omega
  have:=r.came i h;simp only;omega
 rintro s p H D Z I r;have aq:∀ i,CE ps.length s.out i->s.next<=i:=fun i h=>by
  rcases qC i s.next with E|E
  · have:=K.none s H I i E;rw[(BC.1 h).2]at this;cases this
  exact E
 have N:∀ i,CE ps.length s.out i->p.tick<=Ar ps i:=fun i h=>by
  have:=Eh ac (aq i h) (BC.1 h).1;rwa[Av D]at this
 have aB:s.now=De s.out:=by
  rcases r.now with e|⟨-,i,h,e,-⟩
  · exact e
  have:=N i h;omega
 have ar:CE ps.length s.out s.next:=by
  refine BC.2 ⟨Af D,?_⟩;cases am:Ay s.out s.next with
  | false=>rfl
  | true=>have:=r.gone _ am;omega
 refine⟨r.conv,r.turns,r.gone,fun i h=>?_,.inr ⟨fun i h=>?_,s.next,ar,(Av D).symm,fun k U=>?_⟩⟩
 · have:=r.came i h;simp only;omega
 ·
  have:=N i h;show De s.out<_
  omega
 rw[Av D];exact N k U
section
variable {ps:List Pk} {ws ns:List Int} {per:Int} {l:List Sn} {ts:List Int}
theorem dP (E:Gw ws)(D:Al ps)(K:1<=per):Yn (BR ps ws) per ps EK where
 law:=JI E D K
 pick:=fun s I J=>by
  obtain⟨Z,r⟩:=fair_run E D K I;obtain⟨z,Q⟩:=Ho (tag:=s.q.tag) (q:=s.q.q) J;obtain⟨k,N⟩:∃ k,k=(BR ps ws).pick s.q:=⟨_,rfl⟩
  have U:s.q.q.getD (BA s.q.tag s.q.q) 0=k:=N.symm;rw[U]at z Q;rw[<- N];refine⟨(r.only k z).2,fun j ad W=>?_⟩;cases H:Ay s.out j with
  | true=>rfl
  | false=>
   have ab:=r.wait j (by have:=(r.only k z).1;omega) H;obtain⟨t,ac⟩:=Pz r.state (fun i _=>(Jt E D i).1) ⟨z,Q⟩;have O:(s.q.of (Ag ps) (Ag ps k)).Pairwise (·<·):=r.rises.filter _;have h:j∈s.q.of (Ag ps) (Ag ps k):=MB.2 ⟨ab,W⟩;rw[ac]at O h;rcases qS.1 h with e|h
   · omega
   have:=(vN.1 O).1 j h;omega
 none:=fun s I J i V=>by
  obtain⟨Z,r⟩:=fair_run E D K I;have Y:s.q.q=[]:=qN.1 J;cases H:Ay s.out i with
  | true=>rfl
  | false=>
   have:=r.wait i V H;rw[Y]at this;cases this
theorem Ff.may (E:Gw ws)(h:Al ps)(z:1<=per)(D:Ff per ps ws l ts):Conv per ps l/\Oy ps l/\l.length=ps.length:=by
 have H:=(D.length E h z).1;obtain⟨s,I,J,K,rfl,rfl⟩:=D;have r:=Zi (dP E h z) (by omega) h I;exact⟨r.conv,r.turns,H⟩
theorem ZX (z:Al ps)(D:∀ f,1<=BI ns f)(W:1<=per):Yn (Bc ps ns) per ps Ec where
 law:=GI z D
 pick:=fun s E I=>by
  obtain⟨ab,r⟩:=FO (M:=1500) z D (by omega) (fun k=>(Co z k).2) E;obtain⟨k,e,ad,ac,aj,f,t,c,N⟩:=r.good.picks D I;obtain⟨-,Q⟩:=Jd z D W E;rw[ac];have K:s.q.d.qs f=k::t:=by rw[<- N.same];exact N.head
  have J:k∈s.q.d.qs f:=by rw[K];exact qA ..
  have Z:=(r.state.size f k J).1;refine⟨(r.only f k J).2,fun j ai Y=>?_⟩;cases H:Ay s.out j with
  | true=>rfl
  | false=>
   have h:=r.wait j (by have:=(r.only f k J).1;omega) H;rw[Y,Z]at h;have O:(s.q.d.qs f).Pairwise (·<·):=by
    rw[Q f];exact List.pairwise_lt_range.filter _
   rw[K]at O h;rcases qS.1 h with e|h
   · omega
   have:=(vN.1 O).1 j h;omega
 none:=fun s E I i V=>by
  obtain⟨ab,r⟩:=FO (M:=1500) z D (by omega) (fun k=>(Co z k).2) E;cases H:Ay s.out i with
  | true=>rfl
  | false=>
   have h:=r.wait i V H;have U:=r.good.line.1 I;have:=(r.state.active (Ag ps i)).2 (by intro e;rw[e]at h;cases h);rw[U]at this;cases this
theorem Ej.may (h:Al ps)(z:∀ f,1<=BI ns f)(I:1<=per)(D:Ej per ps ns l):Conv per ps l/\Oy ps l/\l.length=ps.length:=by
 have E:=D.length h z;obtain⟨s,H,J,K,rfl⟩:=D;have r:=Zi (ZX h z I) (by omega) h H;exact⟨r.conv,r.turns,E⟩
end
open Go.RowKit
structure DF (lo hi:Int)(ns:List Int):Prop where
 len:ns.length=8
 each:∀(i:Nat) x,ns[i]? = some x->lo<=x/\x<=hi
def gz (h z:Int)(ns:List Int)(j:Nat):Prop:=ns.length=8/\(∃ x,ns[j]? = some x/\¬(h<=x/\x<=z))/\∀(i:Nat) y,i<j->ns[i]? = some y->h<=y/\y<=z
def Bt (h z:Int)(ns:List Int)(c:Nat):Prop:=(c=3/\ns.length≠8)\/(c=2/\∃ j,gz h z ns j)\/(c=0/\DF h z ns)
theorem CW (E H:Int)(ns:List Int):∃ c,Bt E H ns c:=by
 by_cases I:ns.length=8
 ·
  have key:∀ k,k<=ns.length->(∀(i:Nat) y,i<k->ns[i]? = some y->E<=y/\y<=H)\/∃ j,gz E H ns j:=by
   intro k;induction k with
   | zero=>intro _;exact .inl fun i y h=>by omega
   | succ k N=>
    intro Q;rcases N (by omega)with h|h
    ·
     obtain⟨x,D,-⟩:=Ab ns k (by omega);by_cases J:E<=x/\x<=H
     ·
      refine .inl fun i y O K=>?_
      rcases qC i k with z|z
      · exact h i y z K
      obtain rfl:i=k:=by omega
      obtain rfl:=Option.some.inj (D.symm.trans K);exact J
     exact .inr ⟨k,I,⟨x,D,J⟩,h⟩
    exact .inr h
  rcases key ns.length lr with h|h
  ·
   exact ⟨0,.inr (.inr ⟨rfl,I,fun i x D=>h i x (by
    rcases qC i ns.length with z|z
    · exact z
    simp [qH z] at D) D⟩)⟩
  exact⟨2,.inr (.inl ⟨rfl,h⟩)⟩
 exact⟨3,.inl ⟨rfl,I⟩⟩
def KT (x:Int):Prop:=1<=x/\12%x=0
theorem Y8 {x:Int}(h:KT x):x<=12:=Int.le_of_dvd (by decide) (Int.dvd_of_emod_eq_zero h.2)
structure Gd (ns:List Int):Prop where
 len:ns.length=8
 each:∀(i:Nat) x,ns[i]? = some x->KT x
def jk (ns:List Int)(j:Nat):Prop:=ns.length=8/\(∃ x,ns[j]? = some x/\¬KT x)/\∀(i:Nat) y,i<j->ns[i]? = some y->KT y
def Ee (ns:List Int)(c:Nat):Prop:=(c=3/\ns.length≠8)\/(c=2/\∃ j,jk ns j)\/(c=0/\Gd ns)
theorem KP (ns:List Int):∃ c,Ee ns c:=by
 by_cases D:ns.length=8
 ·
  have key:∀ k,k<=ns.length->(∀(i:Nat) y,i<k->ns[i]? = some y->KT y)\/∃ j,jk ns j:=by
   intro k;induction k with
   | zero=>intro _;exact .inl fun i y h=>by omega
   | succ k J=>
    intro N;rcases J (by omega)with h|h
    ·
     obtain⟨x,z,-⟩:=Ab ns k (by omega);by_cases E:KT x
     ·
      refine .inl fun i y K H=>?_
      rcases qC i k with I|I
      · exact h i y I H
      obtain rfl:i=k:=by omega
      obtain rfl:=Option.some.inj (z.symm.trans H);exact E
     exact .inr ⟨k,D,⟨x,z,E⟩,h⟩
    exact .inr h
  rcases key ns.length lr with h|h
  · exact⟨0,.inr (.inr ⟨rfl,D,fun i x z=>h i x (Af z) z⟩)⟩
  exact⟨2,.inr (.inl ⟨rfl,h⟩)⟩
 exact⟨3,.inl ⟨rfl,D⟩⟩
theorem Gd.nums {ns:List Int}(h:Gd ns):DF 1 12 ns:=⟨h.len,fun i x z=>⟨(h.each i x z).1,Y8 (h.each i x z)⟩⟩
theorem Gd.ok {ns:List Int}(z:Gd ns):Gw ns:=fun f=>by
 cases h:ns[f]? with
 | some x=>
  rw[IZ h];have:=z.each f x h;exact⟨this.1,Int.ediv_mul_cancel (Int.dvd_of_emod_eq_zero this.2)⟩
 | none=>
  have:BI ns f=1:=by simp[BI,h]
  rw[this];exact⟨q8 _,by decide⟩
theorem dL {x h:Int}(D:KT x)(E:0<=h):(h*12).tdiv x=h*(12/x):=by
 have z:=Int.dvd_of_emod_eq_zero D.2;rw[Int.tdiv_eq_ediv_of_nonneg (by omega),Int.mul_ediv_assoc _ z]
theorem MN:∀(q:List Nat)(i:Nat),q.Nodup->i<q.length->q.eraseIdx i=q.filter fun j=>j != q.getD i 0
 | [],i,_,D=>absurd D (vR _)
 | a::q,0,h,_=>by
  obtain⟨z,-⟩:=yA.1 h;have e:(a::q).getD 0 0=a:=rfl;rw[e,yF,if_neg (by simp)];refine(yQ.2 fun j I=>?_).symm;have:j≠a:=fun e=>z (by rw[<- e];exact I)
  simp[this]
 | a::q,i+1,h,D=>by
  obtain⟨z,H⟩:=yA.1 h;have E:i<q.length:=by simpa using D
  have e:(a::q).getD (i+1) 0=q.getD i 0:=by simp[List.getD]
  have K:a≠q.getD i 0:=fun J=>z (by rw[J,getD_lt E];exact xQ E)
  rw[e,yF,if_pos (bne_iff_ne.2 K),<- MN q i H E];rfl
theorem Kk (x y:Int)(w:World)(h:BM x y=true):Calls Tryz.prog 84 #[.agg #[.int .i64 x,.int .i64 y]] w fun e w'=>e=.returned (.bool true)/\w'=w.alloc (.cells #[.int .i64 x,.int .i64 y] 66):=by
 obtain⟨E,z,D,H⟩:=AA h;clear h;go_in
 go_wp2
 go_ret;exact⟨rfl,rfl⟩
theorem Sq (x y:Int)(w:World)(D:BM x y=false):Calls Tryz.prog 84 #[.agg #[.int .i64 x,.int .i64 y]] w fun e w'=>e=.returned (.bool false)/\w'=w.alloc (.cells #[.int .i64 x,.int .i64 y] 66):=by
 have h:=xE D;clear D;by_cases I:1<=x
 ·
  by_cases E:x<=20000
  ·
   by_cases H:0<=y
   ·
    have z:¬y<=100000:=fun z=>h ⟨I,E,H,z⟩
    clear h;go_in
    go_wp2
    go_ret;exact⟨rfl,rfl⟩
   clear h;go_in
   go_wp2
   go_ret;exact⟨rfl,rfl⟩
  clear h;go_in
  go_wp2
  go_ret;exact⟨rfl,rfl⟩
 clear h;go_in
 go_wp2
 go_ret;exact⟨rfl,rfl⟩
def AQ (w:World)(a:oA)(ls:lI):Prop:=
 ls=[]\/∃ b h,a=some ⟨b,h,none⟩/\b<w.heap.size/\∀ i x y,ls[i]? = some (x,y)->w.cell? ⟨b,h+i*2,none⟩=some (.int .i64 x)/\w.cell? ⟨b,h+i*2+1,none⟩=some (.int .i64 y)
theorem AQ.some {w:World}{a:oA}{ls:lI}(h:AQ w a ls)(D:1<=ls.length):∃ b z,a=some ⟨b,z,none⟩/\b<w.heap.size/\∀ i x y,ls[i]? = some (x,y)->w.cell? ⟨b,z+i*2,none⟩=some (.int .i64 x)/\w.cell? ⟨b,z+i*2+1,none⟩=some (.int .i64 y):=by
 rcases h with rfl|h
 · simp at D
 exact h
theorem AQ.below {w w':World}{a:oA}{ls:lI}(I:AQ w a ls)(z:zW w w'):AQ w' a ls:=by
 rcases I with rfl|⟨b,h,rfl,D,E⟩
 · exact .inl rfl
 refine .inr ⟨b,h,rfl,qD D z.size,fun i x y H=>?_⟩;have:=E i x y H;exact⟨by rw[z.cell (p:=⟨b,h+i*2,none⟩) D];exact this.1,by rw[z.cell (p:=⟨b,h+i*2+1,none⟩) D];exact this.2⟩
theorem Gl (a:oA)(cap:Nat)(ls:lI)(w:World)(H:AQ w a ls)(U:Ak ls):Calls Tryz.prog 61 #[.slice a ls.length cap] w fun e w'=>e=.returned .nilIface/\zW w w':=by
 obtain⟨Y,ad,I⟩:=U;obtain⟨b,z,rfl,O,D⟩:=H.some Y;clear H;generalize K:ls.length=n at *;have Z:=(show Hid (ls.length=n)from K)
 clear K;go_in
 go_wp2
 go_loopw [16] (fun i wr=>∃ k:Nat,k<=n/\i=.int .i64 k/\zW w wr) (fun i _=>n-(intOf i).toNat)
 case atStart=>exact⟨0,qR _,rfl,br⟩
 case round=>
  obtain⟨k,ac,rfl,h⟩:=hrel;by_cases W:k<n
  ·
   obtain⟨⟨x,y⟩,E,N⟩:=Ab ls k (by rw[Z.o];exact W);have ab:wr.cell? ⟨b,z+k*2,none⟩=some (.int .i64 x):=by rw[h.cell (p:=⟨b,z+k*2,none⟩) O];exact(D k x y E).1
   have ai:wr.cell? ⟨b,z+k*2+1,none⟩=some (.int .i64 y):=by rw[h.cell (p:=⟨b,z+k*2+1,none⟩) O];exact(D k x y E).2
   have J:=I _ N;clear D I E N;have Q:=(show Hid (BM x y=true)from J)
   clear J;go_wp2_with (go_at_call 84;refine(Kk x y _ Q.o).mono ?_;rintro e w' ⟨rfl,rfl⟩)
   have V:=h.size;go_roundw
   case rel=>exact⟨k+1,by omega,by go_num,(h.alloc V _).alloc (by simp;omega) _⟩
   case measure=>simp[intOf];omega
  go_wp2
  go_ret;exact⟨rfl,h⟩
theorem OP (a:oA)(n cap:Nat)(w:World)(z:Value)(E:w.cell? ⟨3,0,none⟩=some z)(D:n<=maxLen)(h:n<1\/6<n):Calls Tryz.prog 61 #[.slice a n cap] w fun e w'=>e=.returned z/\w'=w:=by
 unfold maxLen at D;rcases h with h|h
 ·
  obtain rfl:n=0:=by omega
  go_in
  go_wp2
  go_ret;exact⟨rfl,rfl⟩
 have H:¬n<1:=by omega
 go_in
 go_wp2
 go_ret;exact⟨rfl,rfl⟩
theorem R3 (a:oA)(cap:Nat)(ls:lI)(w:World)(H:Addr)(E:w.cell? ⟨0,0,none⟩=some (.iface 308 (.pointer (some H))))(V:AQ w a ls)(ad:1<=ls.length)(ap:ls.length<=6)
  (j:Nat) (al:j<ls.length) (K:∀ i x y,i<j->ls[i]? = some (x,y)->BM x y=true) (U:∀ x y,ls[j]? = some (x,y)->BM x y=false) :
  Calls Tryz.prog 61 #[.slice a ls.length cap] w fun e w'=>zW w w'/\∃ B,e=.returned (.iface 135 (.pointer (some ⟨B,0,none⟩)))/\w.heap.size<=B/\B<w'.heap.size/\w'.cell? ⟨B,0,none⟩=some (.int .i64 j)/\w'.cell? ⟨B,1,none⟩=some (.iface 308 (.pointer (some H))):=by
 obtain⟨b,I,rfl,ab,D⟩:=V.some ad;clear V;generalize W:ls.length=n at *;have ai:=(show Hid (ls.length=n)from W)
 clear W;go_in
 go_wp2
 go_loopw [16] (fun i wr=>∃ k:Nat,k<=j/\i=.int .i64 k/\zW w wr) (fun i _=>n-(intOf i).toNat)
 case atStart=>exact⟨0,qR _,rfl,br⟩
 case round=>
  obtain⟨k,an,rfl,h⟩:=hrel;have Q:=h.size;have ac:k<n:=by omega
  obtain⟨⟨x,y⟩,z,Y⟩:=Ab ls k (by rw[ai.o];exact ac);have am:wr.cell? ⟨b,I+k*2,none⟩=some (.int .i64 x):=by rw[h.cell (p:=⟨b,I+k*2,none⟩) ab];exact(D k x y z).1
  have aq:wr.cell? ⟨b,I+k*2+1,none⟩=some (.int .i64 y):=by rw[h.cell (p:=⟨b,I+k*2+1,none⟩) ab];exact(D k x y z).2
  have N:0<w.heap.size:=by
   rcases qC 0 w.heap.size with O|O
   · exact O
   simp[World.cell?,vX O]at E
  have Z:wr.cell? ⟨0,0,none⟩=some (.iface 308 (.pointer (some H))):=by rw[h.cell (p:=⟨0,0,none⟩) N];exact E
  by_cases aj:k<j
  ·
   have J:=(show Hid (BM x y=true)from K k x y aj z)
   clear D K z Y U E Z;go_wp2_with (go_at_call 84;refine(Kk x y _ J.o).mono ?_;rintro e w' ⟨rfl,rfl⟩)
   go_roundw
   case rel=>exact⟨k+1,by omega,by go_num,(h.alloc Q _).alloc (by simp;omega) _⟩
   case measure=>simp[intOf];omega
  obtain rfl:k=j:=by omega
  have J:=(show Hid (BM x y=false)from U x y z)
  clear D K z Y U E;have ao:((wr.alloc (.cells #[.int .i64 x,.int .i64 y] 66)).alloc (.cells #[.int .i64 x,.int .i64 y] 66)).cell? ⟨0,0,none⟩=some (.iface 308 (.pointer (some H))):=by
   rw[xB _ _ ⟨0,0,none⟩ (qD N (by simp;omega)),xB _ _ ⟨0,0,none⟩ (qD N Q)];exact Z
  go_wp2_with (go_at_call 84;refine(Sq x y _ J.o).mono ?_;rintro e w' ⟨rfl,rfl⟩)
  go_ret;refine⟨((h.alloc Q _).alloc (by simp;omega) _).alloc (by simp;omega) _,_,rfl,?_,?_,?_,?_⟩
  · omega
  · simp
  · rw[qO _ _ _ _ (by simp)];rfl
  rw[qO _ _ _ _ (by simp)];rfl
theorem QF (a:oA)(cap:Nat)(ls:lI)(t:Int)(w:World)(ad:AQ w a ls)(aE:Ak ls)(am:ls.length<=cap)(a5:cap<=maxLen)(O:0<=t)(I:t<=1099511627776):Calls Tryz.prog 43 #[.slice a ls.length cap,.int .i64 t] w fun e w'=>e=.returned (.int .i64 (Bu t ls))/\zW w w':=by
 obtain⟨W,an,V⟩:=aE;obtain⟨b,D,rfl,av,Q⟩:=ad.some W;clear ad;unfold maxLen at a5;obtain⟨h,z,r,rfl⟩:∃ x y r,ls=(x,y)::r:=by
  cases ls with
  | nil=>simp at W
  | cons p r=>exact⟨p.1,p.2,r,rfl⟩
 obtain⟨n,ab⟩:=ex r.length;have N:=(show Hid (r.length=n)from ab)
 have bm:n<=5:=by simp at an;omega
 have bk:n+1<=cap:=by simp at am;omega
 rw[show((h,z)::r).length=n+1 by simp[ab]];clear W an am ab;have Z:=(Q 0 h z rfl)
 have bv:w.cell? ⟨b,D,none⟩=some (.int .i64 h):=by simpa using Z.1
 have bh:w.cell? ⟨b,D+1,none⟩=some (.int .i64 z):=by simpa using Z.2
 clear Z;have J:∀ i x y,r[i]? = some (x,y)->w.cell? ⟨b,D+2+i*2,none⟩=some (.int .i64 x)/\w.cell? ⟨b,D+2+i*2+1,none⟩=some (.int .i64 y):=by
  intro i x y aS;have:=Q (i+1) x y (by simpa using aS);rw[show D+(i+1)*2=D+2+i*2 by omega]at this;exact this
 have U:=V _ (qA ..);have K:Ci r:=fun p E=>V p (qG _ E)
 have bj:=NR U O I;have ao:=AA U;simp only[]at ao;obtain⟨bt,bq,aw,a9⟩:=ao;obtain⟨bl,bs⟩:=NH aw a9 O I;have be:Hid (h+z*t/1000=BQ t h z):=rfl;have a8:Hid (Bu t ((h,z)::r)=Cz t (BQ t h z) r):=rfl;clear V U Q;by_cases Y:cap=1
 ·
  subst Y;obtain rfl:n=0:=by omega
  have a0:r=[]:=qN.1 N.o;subst a0;clear J N K;go_in
  go_wp2
  go_quiet (fail);go_wp2
  refine xG 1 ?_
  rw[xL];go_wp2
  go_ret;exact⟨rfl,qL br _⟩
 have a7:1<cap:=by omega
 clear Y;go_in
 go_wp2
 go_quiet (fail);go_wp2
 go_loopw [5,23] (fun m i wr=>∃ k:Nat,k<=n/\i=.int .i64 k/\m=.int .i64 (Cz t (BQ t h z) (r.take k))/\zW w wr) (fun _ i _=>n-(intOf i).toNat)
 case atStart=>exact⟨0,qR _,rfl,rfl,qL br _⟩
 case round=>
  obtain⟨k,bg,rfl,rfl,H⟩:=hrel;have aN:=H.size;by_cases a1:k<n
  ·
   obtain⟨⟨x,y⟩,E,ai⟩:=Ab r k (by rw[N.o];exact a1);have Y:wr.cell? ⟨b,D+2+k*2,none⟩=some (.int .i64 x):=by rw[H.cell (p:=⟨b,D+2+k*2,none⟩) av];exact(J k x y E).1
   have a7:wr.cell? ⟨b,D+2+k*2+1,none⟩=some (.int .i64 y):=by rw[H.cell (p:=⟨b,D+2+k*2+1,none⟩) av];exact(J k x y E).2
   have ar:r.take (k+1)=r.take k++[(x,y)]:=by rw[vF,E];rfl
   have ap:=Nc t (r.take k) (BQ t h z) (x,y);have a3:Hid (Cz t (BQ t h z) (r.take (k+1))=min (Cz t (BQ t h z) (r.take k)) (x+y*t/1000)):=by rw[ar];exact ap
   have aj:=YF t O I (r.take k) (BQ t h z) (by omega) (by omega) (fun p E=>K p (yM E));obtain⟨a6,a2,al,aq⟩:=AA (K _ ai);simp only[]at a6 a2 al aq;obtain⟨bp,bc⟩:=NH al aq O I;obtain⟨M,ac⟩:=ex (Cz t (BQ t h z) (r.take k));rw[ac]at aj ⊢;have aB:=qX ac;clear ac ar ap E ai J K;obtain⟨a',bd,bb⟩:=aj;go_wp2
   go_roundw
   case rel=>
    refine⟨k+1,by omega,by go_num,?_,?_⟩
    · rw[a3.o,aB.o];exact congrArg (Value.int .i64) (fH _ _)
    exact H.alloc aN _
   case measure=>simp[intOf];omega
  go_wp2
  go_ret;refine⟨congrArg (fun a4=>Ending.returned (.int .i64 a4)) ?_,H⟩;rw[vP (by rw[N.o];omega)];exact a8.o.symm
def AL (ls:lI):List Value:=ls.flatMap fun p=>[.int .i64 p.1,.int .i64 p.2]
theorem Ja (p:Int×Int)(r:lI):AL (p::r)=.int .i64 p.1::.int .i64 p.2::AL r:=rfl
theorem G6 (a b:lI):AL (a++b)=AL a++AL b:=by simp[AL]
theorem G7 (ls:lI):(AL ls).length=ls.length*2:=by
 induction ls with
 | nil=>rfl
 | cons p r h=>rw[Ja];simp[h];omega
theorem PX (ls:lI):∀ i x y,ls[i]? = some (x,y)->(AL ls)[i*2]? = some (.int .i64 x)/\(AL ls)[i*2+1]? = some (.int .i64 y):=by
 induction ls with
 | nil=>intro i x y h;simp at h
 | cons p r z=>
  intro i x y h;rw[Ja];cases i with
  | zero=>simp at h;subst h;exact⟨rfl,rfl⟩
  | succ i=>
   have:=z i x y (by simpa using h);rw[show(i+1)*2=i*2+1+1 by omega];exact⟨by simpa using this.1,by simpa using this.2⟩
theorem Sr (ls:lI):∀ j u,(AL ls)[j]? = some u->∃ i x y,ls[i]? = some (x,y)/\((j=i*2/\u=.int .i64 x)\/(j=i*2+1/\u=.int .i64 y)):=by
 induction ls with
 | nil=>intro j u h;simp[AL]at h
 | cons p r E=>
  intro j u h;rw[Ja]at h
  match j,h with
  | 0,h=>exact⟨0,p.1,p.2,rfl,.inl ⟨rfl,by simpa using h.symm⟩⟩
  | 1,h=>exact⟨0,p.1,p.2,rfl,.inr ⟨rfl,by simpa using h.symm⟩⟩
  | j+2,h=>
   obtain⟨i,x,y,z,D⟩:=E j u (by simpa using h);exact⟨i+1,x,y,by simpa using z,by rcases D with⟨e,f⟩|⟨e,f⟩;exact .inl ⟨by omega,f⟩;exact .inr ⟨by omega,f⟩⟩
theorem EN (ls:lI):∀ u∈AL ls,u.oneCell'=true:=by
 intro u z;obtain⟨j,D⟩:=xN.1 z;obtain⟨i,x,y,-,h⟩:=Sr ls j u D;rcases h with⟨-,rfl⟩|⟨-,rfl⟩ <;> rfl
def Bn (w:World)(B:Nat)(v:Value)(ls:lI):Prop:=w.ownsRow B 66 2 v ls.length (AL ls)
theorem Bn.open {w:World}{B:Nat}{v:Value}{ls:lI}(h:Bn w B v ls):∃ a cap,v=.slice a ls.length cap/\ls.length<=cap/\cap<=maxLen/\AQ w a ls:=by
 obtain⟨O,⟨rfl,E⟩|⟨g,cap,U,rfl,Q,H,z,D,N,K⟩⟩:=h
 · refine⟨none,0,by rw[E],by omega,by simp[maxLen],.inl (qN.1 E)⟩
 refine⟨_,cap,rfl,z,D,.inr ⟨g,0,rfl,?_,fun i x y J=>?_⟩⟩
 ·
  rcases qC g w.heap.size with h|h
  · exact h
  simp[vX h]at H
 have I:w.ownsRow B 66 2 (.slice (some ⟨g,0,none⟩) ls.length cap) ls.length (AL ls):=⟨O,.inr ⟨g,cap,U,rfl,Q,H,z,D,N,K⟩⟩
 have V:i<ls.length:=by
  rcases qC i ls.length with h|h
  · exact h
  simp[qH h]at J
 have:=PX ls i x y J;rw[I.cellAt _ (by omega),I.cellAt _ (by omega),vC];exact this
theorem Iy {w:World}{z:Addr}{ls:lI}(h:AQ w (some z) ls):∀ j u,(AL ls)[j]? = some u->w.cell? (z.add j)=some u:=by
 intro j u H;obtain⟨i,x,y,D,E⟩:=Sr ls j u H;rcases h with rfl|⟨b,I,e,-,h⟩
 · simp at D
 cases e
 have:=h i x y D;rw[Addr.add_lit];rcases E with⟨rfl,rfl⟩|⟨rfl,rfl⟩
 · exact this.1
 exact this.2
theorem Tryz.infoLine:(Tryz.prog.info? 66).map (fun i=>(i.zero,i.size,i.bytes))=some (some (.agg #[.int .i64 0,.int .i64 0]),2,16):=by kernel_rfl
theorem jZ (a:oA)(cap:Nat)(ls:lI)(t:Int)(w:World)(E:AQ w a ls)(N:Ak ls)(I:ls.length<=cap)(h:cap<=maxLen)(O:0<=t)(U:t<=1099511627776):Calls Tryz.prog 97 #[.slice a ls.length cap,.int .i64 t] w fun e w'=>e=.returned (.tuple #[.int .i64 (Bu t ls),.nilIface])/\zW w w':=by
 have K:=qX E;have J:=qX N;have H:=qY I h;clear E N I h;go_in
 go_wp2_with fail;refine(Gl a cap ls _ K.o J.o).mono ?_
 rintro e W ⟨rfl,z⟩;have D:=qX z;clear z;go_wp2_with fail;refine(QF a cap ls t _ (K.o.below D.o) J.o H.o.1 H.o.2 O U).mono ?_
 rintro e V ⟨rfl,Q⟩;go_wp2
 go_ret2;exact⟨rfl,D.o.tr Q⟩
theorem jS {R:TypeId->Value->World->Prop}(a:oA)(n cap:Nat)(t:Int)(w:World)
  (z:Calls Tryz.prog 61 #[.slice a n cap] w fun e w'=>∃ h p,e=.returned (.iface h p)/\R h p w') :
  Calls Tryz.prog 97 #[.slice a n cap,.int .i64 t] w fun e w'=>∃ h p,e=.returned (.tuple #[.int .i64 0,.iface h p])/\R h p w':=by
 have E:=qX z;clear z;go_in
 go_wp2_with fail;refine E.o.mono ?_
 rintro e I ⟨h,p,rfl,D⟩;have H:=qX D;clear D;go_wp2
 go_ret2;exact⟨h,p,rfl,H.o⟩
theorem VO (ls:lI):Ci ls\/∃ j,j<ls.length/\(∀ i x y,i<j->ls[i]? = some (x,y)->BM x y=true)/\∀ x y,ls[j]? = some (x,y)->BM x y=false:=by
 induction ls with
 | nil=>exact .inl fun p h=>by cases h
 | cons q r K=>
  cases E:BM q.1 q.2 with
  | false=>exact .inr ⟨0,by simp,fun i x y N=>by omega,fun x y D=>by simp at D;subst D;exact E⟩
  | true=>
   rcases K with D|⟨j,I,J,H⟩
   ·
    refine .inl fun p h=>?_
    rcases qS.1 h with rfl|h
    · exact E
    exact D p h
   refine .inr ⟨j+1,by simpa using I,fun i x y N z=>?_,fun x y z=>H x y (by simpa using z)⟩;cases i with
   | zero=>simp at z;subst z;exact E
   | succ i=>exact J i x y (by omega) (by simpa using z)
structure eH (w:World)(aB aS:Addr):Prop where
 bound:w.cell? ⟨0,0,none⟩=some (.iface 308 (.pointer (some aB)))
 shape:w.cell? ⟨3,0,none⟩=some (.iface 308 (.pointer (some aS)))
theorem eH.below {w w':World}{h z:Addr}(D:eH w h z)(E:zW w w'):eH w' h z:=
 ⟨j7 E D.bound,j7 E D.shape⟩
theorem Jm (x y:Int)(w:World)(h:BM x y=true):Calls Tryz.prog 34 #[.agg #[.int .i64 x,.int .i64 y]] w fun e w'=>e=.returned (.int .i64 0)/\w'=w.alloc (.cells #[.int .i64 x,.int .i64 y] 66):=by
 obtain⟨E,z,D,H⟩:=AA h;clear h;go_in
 go_wp2
 go_ret;exact⟨rfl,rfl⟩
theorem MX (x y:Int)(w:World)(D:BM x y=false):Calls Tryz.prog 34 #[.agg #[.int .i64 x,.int .i64 y]] w fun e w'=>e=.returned (.int .i64 2)/\w'=w.alloc (.cells #[.int .i64 x,.int .i64 y] 66):=by
 have h:=xE D;clear D;by_cases I:1<=x
 ·
  by_cases E:x<=20000
  ·
   by_cases H:0<=y
   ·
    have z:¬y<=100000:=fun z=>h ⟨I,E,H,z⟩
    clear h;go_in
    go_wp2
    go_ret;exact⟨rfl,rfl⟩
   clear h;go_in
   go_wp2
   go_ret;exact⟨rfl,rfl⟩
  clear h;go_in
  go_wp2
  go_ret;exact⟨rfl,rfl⟩
 clear h;go_in
 go_wp2
 go_ret;exact⟨rfl,rfl⟩
theorem Bn.lies {w:World}{B:Nat}{a:oA}{n cap:Nat}{ls:lI}(I:Bn w B (.slice a n cap) ls):n=ls.length/\ls.length<=cap/\cap<=maxLen/\AQ w a ls:=by
 obtain⟨N,K,e,E,h,D⟩:=I.open;injection e with J z H
 subst J z H;exact⟨rfl,E,h,D⟩
open Go.Extern.Stop Go.Stop Go.Extern
theorem Tryz.isTypeOf (v:Value)(w:World):(Extern.ReflectliteType.typeOf #[.iface 308 v]).run Tryz.prog w=.ok (.iface 189 (.agg #[.pointer (some ⟨13,308,none⟩)])) w:=by kernel_rfl
def K5:Array Value -> Sem Value:=Extern.ReflectliteType.method fun t=>do Rtype.noPackHeld "Comparable" t;pure (.bool (<- typeInfo t).comparable)
theorem Tryz.isComparable (w:World):(K5 #[.agg #[.pointer (some ⟨13,308,none⟩)]]).run Tryz.prog w=.ok (.bool true) w:=by kernel_rfl
theorem Tryz.isMethodComparable (v:Value) (w:World):(Go.method 438 189 v "Comparable").run Tryz.prog w=.ok (268,v) w:=by kernel_rfl
theorem Tryz.isComp:(Tryz.prog.info? 308).map (·.comparable)=some true:=by kernel_rfl
theorem Tryz.isSize:(Tryz.prog.info? 326).map (·.size)=some 1:=by kernel_rfl
theorem Tryz.noIsE (v:Value)(h:TypeId)(w:World):(Instr.typeAssert (.iface 308 v) h 191 true).run Tryz.prog w=.ok (.tuple #[.nilIface,.bool false]) w:=run_typeAssert_lacksB Tryz.underlying191 (by kernel_rfl) (by kernel_rfl) v h w
theorem Tryz.noAsE (v:Value)(h:TypeId)(w:World):(Instr.typeAssert (.iface 308 v) h 277 true).run Tryz.prog w=.ok (.tuple #[.nilIface,.bool false]) w:=run_typeAssert_lacksB Tryz.underlying277 (by kernel_rfl) (by kernel_rfl) v h w
theorem Tryz.noUnwrapE (v:Value)(h:TypeId)(w:World):(Instr.typeAssert (.iface 308 v) h 194 true).run Tryz.prog w=.ok (.tuple #[.nilIface,.bool false]) w:=run_typeAssert_lacksB Tryz.underlying194 (by kernel_rfl) (by kernel_rfl) v h w
theorem Tryz.noUnwrapsE (v:Value)(h:TypeId)(w:World):(Instr.typeAssert (.iface 308 v) h 196 true).run Tryz.prog w=.ok (.tuple #[.nilIface,.bool false]) w:=run_typeAssert_lacksB Tryz.underlying196 (by kernel_rfl) (by kernel_rfl) v h w
theorem Tryz.noIsW (v:Value)(h:TypeId)(w:World):(Instr.typeAssert (.iface 135 v) h 191 true).run Tryz.prog w=.ok (.tuple #[.nilIface,.bool false]) w:=run_typeAssert_lacksB Tryz.underlying191 (by kernel_rfl) (by kernel_rfl) v h w
theorem Tryz.hasUnwrapW (v:Value)(h:TypeId)(w:World):(Instr.typeAssert (.iface 135 v) h 194 true).run Tryz.prog w=.ok (.tuple #[.iface 135 v,.bool true]) w:=run_typeAssert_hasB Tryz.underlying194 (by kernel_rfl) v h w
theorem Tryz.methodUnwrap (v:Value) (w:World):(Go.method 438 135 v "Unwrap").run Tryz.prog w=.ok (264,v) w:=by kernel_rfl
theorem iC (a:Addr)(w:World):Calls Tryz.prog 93 #[.iface 308 (.pointer (some a)),.iface 308 (.pointer (some a))] w fun e w'=>e=.returned (.bool true)/\w'=w:=by
 obtain⟨i,D,z⟩:=xD.1 Tryz.isComp;obtain⟨j,h,H⟩:=xD.1 Tryz.isSize;have I:=@run_callFunc_extern Tryz.prog 117 _ Extern.ReflectliteType.typeOf Tryz.func117 (by kernel_rfl) (by kernel_rfl) (by kernel_rfl) (by kernel_rfl);have K:=@run_callFunc_extern Tryz.prog 268 _ K5 Tryz.func268 (by kernel_rfl) (by kernel_rfl) (by kernel_rfl) (by kernel_rfl);have O:=Tryz.isTypeOf;have J:=Tryz.isComparable;have N:=Tryz.isMethodComparable;have E:=run_eql_iface_ptr_same (P:=Tryz.prog) w a Tryz.underlying34 Tryz.underlying308 D z h;go_in
 go_wp2
 refine xG 1 ?_
 rw[xL];go_wp2
 go_ret;exact⟨rfl,rfl⟩
theorem df (a b:Addr)(O D:Array Value)(h Q:TypeId)(w:World)(N:a≠b)(K:w.heap[a.block]? = some (.cells O h (0,0)))(z:w.heap[b.block]? = some (.cells D Q (0,0))):Calls Tryz.prog 93 #[.iface 308 (.pointer (some a)),.iface 308 (.pointer (some b))] w fun e w'=>e=.returned (.bool false)/\w'=w:=by
 obtain⟨i,E,I⟩:=xD.1 Tryz.isComp;obtain⟨j,H,J⟩:=xD.1 Tryz.isSize;have Y:=@run_callFunc_extern Tryz.prog 117 _ Extern.ReflectliteType.typeOf Tryz.func117 (by kernel_rfl) (by kernel_rfl) (by kernel_rfl) (by kernel_rfl);have Z:=@run_callFunc_extern Tryz.prog 268 _ K5 Tryz.func268 (by kernel_rfl) (by kernel_rfl) (by kernel_rfl) (by kernel_rfl);have ai:=Tryz.isTypeOf;have V:=Tryz.isComparable;have ad:=Tryz.isMethodComparable;have ab:=Tryz.noIsE;have W:=Tryz.noUnwrapE;have U:=Tryz.noUnwrapsE;have ac:=run_eql_iface_ptr_other (P:=Tryz.prog) w Tryz.underlying34 Tryz.underlying308 E I H (by rw[J];decide) N K z;go_in
 go_wp2
 refine xG 1 ?_
 rw[xL];go_wp2
 go_ret;exact⟨rfl,rfl⟩
theorem Ro (h:Nat)(b:Addr)(w:World)(Q:w.cell? ⟨h,1,none⟩=some (.iface 308 (.pointer (some b)))):Calls Tryz.prog 93 #[.iface 135 (.pointer (some ⟨h,0,none⟩)),.iface 308 (.pointer (some b))] w fun e w'=>e=.returned (.bool true)/\w'=w:=by
 obtain⟨i,E,D⟩:=xD.1 Tryz.isComp;obtain⟨j,z,K⟩:=xD.1 Tryz.isSize;have N:=@run_callFunc_extern Tryz.prog 117 _ Extern.ReflectliteType.typeOf Tryz.func117 (by kernel_rfl) (by kernel_rfl) (by kernel_rfl) (by kernel_rfl);have V:=@run_callFunc_extern Tryz.prog 268 _ K5 Tryz.func268 (by kernel_rfl) (by kernel_rfl) (by kernel_rfl) (by kernel_rfl);have Z:=Tryz.isTypeOf;have O:=Tryz.isComparable;have Y:=Tryz.isMethodComparable;have H:=Tryz.noIsW;have W:=Tryz.hasUnwrapW;have I:=Tryz.methodUnwrap;have J:=run_eql_iface_ptr_same (P:=Tryz.prog) w b Tryz.underlying34 Tryz.underlying308 E D z;have U:=run_eql_iface_types (P:=Tryz.prog) 135 308 (.pointer (some ⟨h,0,none⟩)) (.pointer (some b)) Tryz.underlying34 (by decide) w;go_in
 go_wp2
 refine xG 2 ?_
 rw[xL];go_wp2
 rw[xL];go_wp2
 go_ret;exact⟨rfl,rfl⟩
theorem Qx (h:Nat)(b a:Addr)(Q E:Array Value)(z U:TypeId)(w:World)(ab:w.cell? ⟨h,1,none⟩=some (.iface 308 (.pointer (some a))))(O:a≠b)(N:w.heap[a.block]? = some (.cells Q z (0,0)))(D:w.heap[b.block]? = some (.cells E U (0,0))):Calls Tryz.prog 93 #[.iface 135 (.pointer (some ⟨h,0,none⟩)),.iface 308 (.pointer (some b))] w fun e w'=>e=.returned (.bool false)/\w'=w:=by
 obtain⟨i,H,J⟩:=xD.1 Tryz.isComp;obtain⟨j,I,K⟩:=xD.1 Tryz.isSize;have Z:=@run_callFunc_extern Tryz.prog 117 _ Extern.ReflectliteType.typeOf Tryz.func117 (by kernel_rfl) (by kernel_rfl) (by kernel_rfl) (by kernel_rfl);have ac:=@run_callFunc_extern Tryz.prog 268 _ K5 Tryz.func268 (by kernel_rfl) (by kernel_rfl) (by kernel_rfl) (by kernel_rfl);have ap:=Tryz.isTypeOf;have W:=Tryz.isComparable;have ao:=Tryz.isMethodComparable;have ai:=Tryz.noIsE;have Y:=Tryz.noUnwrapE;have V:=Tryz.noUnwrapsE;have ad:=Tryz.noIsW;have an:=Tryz.hasUnwrapW;have aj:=Tryz.methodUnwrap;have al:=run_eql_iface_ptr_other (P:=Tryz.prog) w Tryz.underlying34 Tryz.underlying308 H J I (by rw[K];decide) O N D;have am:=run_eql_iface_types (P:=Tryz.prog) 135 308 (.pointer (some ⟨h,0,none⟩)) (.pointer (some b)) Tryz.underlying34 (by decide) w;go_in
 go_wp2
 refine xG 2 ?_
 rw[xL];go_wp2
 rw[xL];go_wp2
 go_ret;exact⟨rfl,rfl⟩
end Go.Proofs.YtejlihcdfffafaaGreatDoor
