import Derived.Test.YtejlihcdfffafaaGreatDoorP03
namespace Go.Proofs.YtejlihcdfffafaaGreatDoor
def Eg (ps:List Pk)(out:List Sn)(f:Nat)(h:Int)(n:Nat):List Nat:=(List.range n).filter fun i=>Ag ps i==f&&!Ay out i&&decide (Ar ps i<=h)
def JE (ps:List Pk)(out:List Sn)(f n:Nat):List Nat:=(List.range n).filter fun i=>Ag ps i==f&&!Ay out i
theorem Yv (ps:List Pk)(out:List Sn)(f n:Nat):JE ps out f (n+1)=JE ps out f n++if Ag ps n=f/\Ay out n=false then [n]else []:=by
 unfold JE;rw[List.range_succ,zA]
 congr 1
 by_cases h:Ag ps n=f/\Ay out n=false
 · rw[if_pos h];simp[h.1,h.2]
 rw[if_neg h];simp only[yF,List.filter_nil];rw[if_neg];intro z;rw[Bool.and_eq_true,yZ,Bool.not_eq_true']at z;exact h z
theorem PR {ps:List Pk}{out:List Sn}{f:Nat}{h:Int}{next:Nat}(D:∀ i,i<next->Ar ps i<=h)(z:∀ i,next<=i->i<ps.length->h<Ar ps i)(I:next<=ps.length):Eg ps out f h ps.length=JE ps out f next:=by
 have key:∀ k,next+k<=ps.length->Eg ps out f h (next+k)=JE ps out f next:=by
  intro k;induction k with
  | zero=>
   intro _;unfold Eg JE;refine List.filter_congr fun i H=>?_
   have:=D i (List.mem_range.1 H);simp[this]
  | succ k E=>
   intro J;have e:=E (by omega);have K:=z (next+k) (by omega) (by omega);unfold Eg at e ⊢;rw[show next+(k+1)=(next+k)+1 by omega,List.range_succ,zA,e];simp[show ¬Ar ps (next+k)<=h by omega]
 have:=key (ps.length-next) (by omega);rwa[show next+(ps.length-next)=ps.length by omega]at this
section
variable {ps:List Pk} {ns:List Int} {per:Int}
theorem Jd (H:Al ps)(O:∀ f,1<=BI ns f)(aq:1<=per){s:St TQ}(ad:Reaches (Bc ps ns) per ps Ec s):(∀ i,i<s.next->Ar ps i<=s.now)/\∀ f,s.q.d.qs f=JE ps s.out f s.next:=by
 refine ad.by_steps (C:=fun s=>(∀ i,i<s.next->Ar ps i<=s.now)/\∀ f,s.q.d.qs f=JE ps s.out f s.next) ⟨fun i z=>absurd z (vR _),fun f=>rfl⟩ ?_ ?_ ?_
 ·
  rintro s p J I W ⟨E,D⟩;refine⟨fun i h=>?_,fun f=>?_⟩
  ·
   rcases qC i s.next with z|z
   · exact E i z
   obtain rfl:i=s.next:=by simp only at h;omega
   rw[Av I];exact W
  obtain⟨am,r⟩:=FO (M:=1500) H O (by omega) (fun k=>(Co H k).2) J;have Z:Ay s.out s.next=false:=by
   cases ac:Ay s.out s.next with
   | false=>rfl
   | true=>have:=r.gone _ ac;omega
  show AB s.q.d.qs (Ag ps s.next) (s.q.d.qs (Ag ps s.next)++[s.next]) f=JE ps s.out f (s.next+1)
  rw[Yv];by_cases e:f=Ag ps s.next
  · subst e;rw[AJ,D,if_pos ⟨rfl,Z⟩]
  rw[Au _ _ e,D,if_neg (fun z=>e z.1.symm),x6]
 ·
  rintro s p J av U I ⟨E,D⟩;obtain⟨am,r⟩:=FO (M:=1500) H O (by omega) (fun k=>(Co H k).2) J;obtain⟨k,e,ap,an,ai,f,t,c,K⟩:=r.good.picks O U;rw[an]at I ⊢;obtain⟨-,-,ao,-,-,-⟩:=A7 (H.each _ p I).1;have ar:0<=per*p.size:=vG (by omega) (by omega);have ab:e.qs=AB s.q.d.qs f t:=by rw[K.left,Ph,K.same]
  have N:s.q.d.qs f=k::t:=by rw[<- K.same];exact K.head
  have al:Ag ps k=f:=(r.state.size f k (by rw[N];exact qA ..)).1;have V:=r.once f;rw[N]at V;obtain⟨n1,-⟩:=yA.1 V;refine⟨fun i h=>by have:=E i h;simp only;omega,fun g=>?_⟩;rw[ai];show e.qs g=JE ps (s.out++[(⟨(k:Nat),s.now,s.now+per*p.size⟩:Sn)]) g s.next
  have Y:JE ps (s.out++[(⟨(k:Nat),s.now,s.now+per*p.size⟩:Sn)]) g s.next=(s.q.d.qs g).filter fun i=>!(i==k):=by
   rw[D,JE,JE,List.filter_filter];refine List.filter_congr fun i _=>?_
   rw[Da];have aj:(k==i)=(i==k):=by
    rw[Bool.eq_iff_iff,yZ,yZ];omega
   rw[aj];cases (Ag ps i==g) <;> cases Ay s.out i <;> cases (i==k) <;> rfl
  rw[Y,ab];by_cases Q:g=f
  ·
   subst Q;rw[AJ,N,yF,if_neg (by simp)];refine(yQ.2 fun i h=>?_).symm;have:i≠k:=fun e=>n1 (by rw[<- e];exact h)
   simp[this]
  rw[Au _ _ Q];refine(yQ.2 fun i h=>?_).symm;have:i≠k:=fun e=>Q (by rw[<- (r.state.size g i h).1,e];exact al)
  simp[this]
 rintro s p J I W U ⟨E,D⟩;exact⟨fun i h=>by have:=E i h;simp only;omega,D⟩
end
theorem Y2 (g:Nat->Nat)(n:Nat):∀ l:List Nat,l.Nodup->(l.map g).sum<=((l.filter fun x=>x != n).map g).sum+g n
 | [],_=>by simp
 | x::r,E=>by
  obtain⟨D,h⟩:=yA.1 E;have H:=Y2 g n r h;by_cases e:x=n
  ·
   subst e;have:r.filter (fun y=>y != x)=r:=yQ.2 fun y z=>by
    have:y≠x:=fun e=>D (by rw[<- e];exact z)
    simp[this]
   simp[this]
   omega
  simp only[yF,bne_iff_ne,ne_eq,e,not_false_eq_true,if_true,yS,zE];omega
theorem Un (g:Nat->Nat)(c:Nat):∀(n:Nat)(l:List Nat),l.Nodup->(∀ x,x∈l->x<n)->(∀ x,g x<=c)->(l.map g).sum<=n*c
 | 0,l,_,h,_=>by
  cases l with
  | nil=>simp
  | cons x r=>exact absurd (h x (qA ..)) (vR _)
 | n+1,l,z,h,D=>by
  have I:=Y2 g n l z;have H:=Un g c n (l.filter fun x=>x != n) (z.filter _) (fun x E=>by
   rw[List.mem_filter,bne_iff_ne]at E;have:=h x E.1;omega) D
  have:=D n;rw[Nat.add_mul,Nat.one_mul];omega
structure Ey (per:Int)(ps:List Pk)(ns:List Int)(s:St TQ)(d:Drr)(fu z:Nat):Prop where
 reach:Reaches (Bc ps ns) per ps Ec s
 ok:Dp (Ag ps) (Az ps) (BI ns) 1500 d
 qs:d.qs=s.q.d.qs
 path:(d=s.q.d/\fu=29999)\/((∀ r,ps[s.next]? = some r->s.now<r.tick)/\fu<=29999/\∃ x,Drr.go (Az ps) (BI ns) fu d=some x/\XW ps ns s.q.d=some x)
 idle:z<=1/\(z=0->d.line≠[]\/∃ p,ps[s.next]? = some p/\p.tick<=s.now)
def DC (ps:List Pk)(s:St TQ)(h z:Nat):Nat:=30000*(2*(ps.length-s.out.length)+z)+h
section
variable {ps:List Pk} {ns:List Int} {per:Int} {s:St TQ} {d:Drr} {fu z:Nat}
theorem Ey.start (per:Int)(ps:List Pk)(ns:List Int):Ey per ps ns ⟨[],0,0,Ec⟩ Ec.d 29999 1:=
 ⟨.start,MC (by omega),rfl,.inl ⟨rfl,rfl⟩,lr,fun h=>by omega⟩
theorem Ut {D E:Nat->Int}:∀{n:Nat}{d:Drr}{x:Nat×Drr},Drr.go D E n d=some x->d.line≠[]
 | 0,d,x,h=>by simp[Drr.go]at h
 | n+1,d,x,h=>by
  rw[Drr.go]at h;unfold Drr.line;cases z:d.srv with
  | some f=>simp
  | none=>
   rw[z]at h;simp only at h ⊢;intro e;rw[e]at h;cases h
theorem Ey.more (J:Ey per ps ns s d fu z){k:Nat}{p:Pk}(E:Al ps)(H:∀ j,j<k->Ar ps j<=s.now->j<s.next)(D:ps[k]? = some p)(N:p.tick<=s.now)(K:s.next<=k):k=s.next/\d=s.q.d/\fu=29999:=by
 have e:k=s.next:=by
  rcases qC s.next k with h|h
  · have I:=Eh E (x9 h) (Af D);rw[Av D]at I;have:=H s.next h (by omega);omega
  omega
 refine⟨e,?_⟩;rcases J.path with h|⟨h,-⟩
 · exact h
 subst e;have:=h p D;omega
theorem Ey.come (h:Ey per ps ns s d fu z)(D:Al ps){p:Pk}(H:ps[s.next]? = some p)(I:p.tick<=s.now)(E:d=s.q.d/\fu=29999):Ey per ps ns ⟨s.out,s.now,s.next+1,(Bc ps ns).come s.q s.next⟩ (d.come (Ag ps) s.next) fu z:=by
 obtain⟨rfl,rfl⟩:=E;refine⟨.come s p h.reach H I,h.ok.come _ (Co D _).1 (Co D _).2,rfl,.inl ⟨rfl,rfl⟩,h.idle.1,fun _=>.inl ?_⟩;rw[Drr.line_come];split
 · next hm=>intro e;rw[e]at hm;cases hm
 simp
def Qs (ps:List Pk)(s:St TQ):Prop:=∀ i,s.next<=i->i<ps.length->s.now<Ar ps i
theorem Ey.fuel (h:Ey per ps ns s d fu z)(E:Al ps)(K:∀ f,1<=BI ns f)(O:d.line≠[]):∃ I x,I<=fu/\Drr.go (Az ps) (BI ns) I d=some x/\XW ps ns s.q.d=some x:=by
 rcases h.path with⟨rfl,rfl⟩|⟨-,-,x,V,Q⟩
 ·
  obtain⟨x,H⟩:=Y3 K (s.q.d.need (Az ps)) s.q.d h.ok O lr;refine⟨TH ps s.q.d,x,?_,H,H⟩;have J:=II E K h.reach;have U:∀ f,f∈s.q.d.line->f<8:=fun f W=>by
   rcases qC f 8 with D|D
   · exact D
   exact absurd (J.few f D) ((J.state.active f).1 W)
  have N:∀ f,s.q.d.lack (Az ps) f<=1500:=fun f=>by
   unfold Drr.lack;cases Y:s.q.d.qs f with
   | nil=>simp
   | cons k r=>
    simp only;have:=(Co E k).2;have:=h.ok.low f;omega
  have:=Un (s.q.d.lack (Az ps)) 1500 8 s.q.d.line h.ok.nodup U N;unfold TH;have e:s.q.d.need (Az ps)=(s.q.d.line.map (s.q.d.lack (Az ps))).sum:=rfl;omega
 exact⟨fu,x,lr,V,Q⟩
theorem Ey.rests (D:Ey per ps ns s d fu z)(E:Al ps)(I:∀ f,1<=BI ns f)(h:d.line=[]):d=s.q.d/\fu=29999/\(Bc ps ns).rest s.q=0:=by
 rcases D.path with⟨rfl,rfl⟩|⟨-,-,x,H,J⟩
 · exact⟨rfl,rfl,(II E I D.reach).line.2 h⟩
 exact absurd h (Ut H)
theorem Ey.undone (K:Ey per ps ns s d fu z)(D:Al ps)(J:∀ f,1<=BI ns f)(H:(Bc ps ns).rest s.q=0):(∀ i,i<s.next->Ay s.out i=true)/\Ay s.out s.next=false:=by
 obtain⟨O,r⟩:=FO (M:=1500) D J (by omega) (fun k=>(Co D k).2) K.reach;refine⟨fun i N=>?_,?_⟩
 ·
  cases h:Ay s.out i with
  | true=>rfl
  | false=>
   have E:=r.wait i N h;have I:=r.good.line.1 H;have:=(r.state.active (Ag ps i)).2 (by intro e;rw[e]at E;cases E);rw[I]at this;cases this
 cases h:Ay s.out s.next with
 | false=>rfl
 | true=>have:=r.gone _ h;omega
theorem Ey.idles (h:Ey per ps ns s d fu z)(I:Al ps)(N:∀ f,1<=BI ns f)(J:d.line=[])(K:Qs ps s)(Y:s.out.length<ps.length):s.next<ps.length/\z=1/\∀ p,ps[s.next]? = some p->Ey per ps ns ⟨s.out,p.tick,s.next,s.q⟩ d fu 0:=by
 obtain⟨rfl,rfl,Q⟩:=h.rests I N J;have V:=h.reach.count (GI I N);have D:s.next<ps.length:=by omega
 refine⟨D,?_,fun p E=>?_⟩
 ·
  rcases qC z 1 with U|U
  ·
   rcases h.idle.2 (by omega)with H|⟨p,H,W⟩
   · exact absurd J H
   have:=K s.next lr D;rw[Av H]at this;omega
  have:=h.idle.1;omega
 have O:=K s.next lr D;rw[Av E]at O;exact⟨.idle s p h.reach E O Q,h.ok,rfl,.inl ⟨rfl,rfl⟩,by omega,fun _=>.inr ⟨p,E,q8 _⟩⟩
structure EW (per:Int)(ps:List Pk)(ns:List Int)(s:St TQ)(d:Drr)(f:Nat)(fu z:Nat):Prop where
 reach:Reaches (Bc ps ns) per ps Ec s
 more:Qs ps s
 ok:Dp (Ag ps) (Az ps) (BI ns) 1500 d
 qs:d.qs=s.q.d.qs
 srv:d.srv=some f
 lt:f<8
 fuel:fu<=29999
 ends:∃ x,Drr.go (Az ps) (BI ns) fu d=some x/\XW ps ns s.q.d=some x
 idle:z<=1
theorem Zk (z:Al ps)(J:∀ f,1<=BI ns f)(E:Reaches (Bc ps ns) per ps Ec s)(H:Dp (Ag ps) (Az ps) (BI ns) 1500 d)(D:d.qs=s.q.d.qs){f:Nat}(I:f∈d.line):f<8:=by
 rcases qC f 8 with h|h
 · exact h
 have:=(II z J E).few f h;rw[<- D]at this;exact absurd this ((H.active f).1 I)
theorem Ey.turns (h:Ey per ps ns s d fu z)(J:Al ps)(H:∀ f,1<=BI ns f)(Q:Qs ps s){f:Nat}{r:List Nat}(I:d.srv=none)(E:d.row=f::r):∃ K,K<=fu/\EW per ps ns s (d.turn (BI ns) f r) f K z:=by
 have N:d.line=f::r:=by unfold Drr.line;rw[I];exact E
 obtain⟨O,x,W,D,U⟩:=h.fuel J H (by rw[N];simp);cases O with
 | zero=>simp[Drr.go]at D
 | succ n=>
  rw[Drr.go,I]at D;simp only[E]at D;have Y:fu<=29999:=by
   rcases h.path with⟨-,rfl⟩|⟨-,V,-⟩
   · exact lr
   exact V
  exact⟨n,by omega,h.reach,Q,h.ok.turn H I E,h.qs,rfl,Zk J H h.reach h.ok h.qs (by rw[N];exact qA ..),by omega,⟨x,D,U⟩,h.idle.1⟩
theorem Ey.stays (h:Ey per ps ns s d fu z)(D:Al ps)(I:∀ f,1<=BI ns f)(O:Qs ps s){f:Nat}(J:d.srv=some f):∃ E,E<=fu/\EW per ps ns s d f E z:=by
 have H:d.line=f::d.row:=by unfold Drr.line;rw[J]
 obtain⟨K,x,U,N,Q⟩:=h.fuel D I (by rw[H];simp);have W:fu<=29999:=by
  rcases h.path with⟨-,rfl⟩|⟨-,V,-⟩
  · exact lr
  exact V
 exact⟨K,U,h.reach,O,h.ok,h.qs,J,Zk D I h.reach h.ok h.qs (by rw[H];exact qA ..),by omega,⟨x,N,Q⟩,h.idle.1⟩
theorem EW.head {f:Nat}(h:EW per ps ns s d f fu z)(D:Al ps)(H:∀ f,1<=BI ns f)(U:1<=per):∃ k r,d.qs f=k::r/\Eg ps s.out f s.now ps.length=k::r/\k<ps.length/\k<s.next/\Ay s.out k=false/\Ag ps k=f/\(k::r).length<=300:=by
 have O:d.line=f::d.row:=by unfold Drr.line;rw[h.srv]
 have W:=(h.ok.active f).1 (by rw[O];exact qA ..);obtain⟨ab,N⟩:=FO (M:=1500) D H (by omega) (fun k=>(Co D k).2) h.reach;obtain⟨Z,Q⟩:=Jd D H U h.reach;have Y:=PR (out:=s.out) (f:=f) Z h.more h.reach.next_le;have K:=(R5 D H h.reach f).1;cases J:d.qs f with
 | nil=>exact absurd J W
 | cons k r=>
  have E:s.q.d.qs f=k::r:=by rw[<- h.qs];exact J
  have I:=N.only f k (by rw[E];exact qA ..);have V:=(N.state.size f k (by rw[E];exact qA ..)).1;rw[E]at K;exact⟨k,r,rfl,by rw[Y,<- Q,E],by have:=h.reach.next_le;omega,I.1,I.2,V,K⟩
theorem EW.back {f:Nat}(h:EW per ps ns s d f fu z){k:Nat}{r:List Nat}(E:d.qs f=k::r)(J:d.cr f<Az ps k):∃ H,H<fu/\Ey per ps ns s (d.back f) H z:=by
 obtain⟨x,D,K⟩:=h.ends;cases fu with
 | zero=>simp[Drr.go]at D
 | succ n=>
  rw[Drr.go,h.srv]at D;simp only[E,if_neg (show ¬Az ps k<=d.cr f by omega)]at D;have N:=h.fuel;exact⟨n,yV _,h.reach,h.ok.back h.srv E J,h.qs,.inr ⟨fun p I=>by have:=h.more s.next lr (Af I);rwa[Av I]at this,by omega,x,D,K⟩,h.idle,fun _=>.inl (Ut D)⟩
theorem EW.send {f:Nat}(h:EW per ps ns s d f fu z)(U:Al ps)(Z:∀ f,1<=BI ns f){k:Nat}{r:List Nat}{p:Pk}(J:d.qs f=k::r)(Y:ps[k]? = some p)(K:Az ps k<=d.cr f):Ey per ps ns ⟨s.out++[⟨(k:Nat),s.now,s.now+per*p.size⟩],s.now+per*p.size,s.next,(Bc ps ns).left s.q⟩ (d.sent (Az ps) f k r) 29999 1:=by
 obtain⟨x,E,I⟩:=h.ends;have V:x=(k,d.sent (Az ps) f k r):=by
  cases fu with
  | zero=>simp[Drr.go]at E
  | succ n=>
   rw[Drr.go,h.srv]at E;simp only[J,if_pos K]at E;exact(Option.some.inj E).symm
 subst V;have ab:d.line=f::d.row:=by unfold Drr.line;rw[h.srv]
 have Q:0<s.q.n:=by
  have W:=II U Z h.reach;rcases xP s.q.n with H|H
  · exact absurd (W.line.1 H) (Ut I)
  exact H
 have O:(Bc ps ns).pick s.q=k:=by simp only[Bc,I]
 have N:(Bc ps ns).left s.q=⟨d.sent (Az ps) f k r,s.q.n-1⟩:=by simp only[Bc,I]
 have D:=Reaches.send s p h.reach (fun r D=>by have:=h.more s.next lr (Af D);rwa[Av D]at this) Q (by rw[O];exact Y);rw[O]at D;refine⟨D,h.ok.sent h.srv J K,?_,.inl ⟨?_,rfl⟩,lr,fun h=>by omega⟩
 · rw[N]
 rw[N]
theorem EW.left {f:Nat}(h:EW per ps ns s d f fu z)(D:Al ps)(E:∀ f,1<=BI ns f)(I:1<=per){k:Nat}{r:List Nat}{p:Pk}(K:d.qs f=k::r)(U:ps[k]? = some p)(N:Az ps k<=d.cr f):Eg ps (s.out++[⟨(k:Nat),s.now,s.now+per*p.size⟩]) f s.now ps.length=r:=by
 have J:=h.send D E K U N;obtain⟨Q,-⟩:=Jd D E I h.reach;obtain⟨-,O⟩:=Jd D E I J.reach;have V:=PR (out:=s.out++[⟨(k:Nat),s.now,s.now+per*p.size⟩]) (f:=f) Q h.more h.reach.next_le;have H:=O f;rw[<- J.qs,Ph,AJ]at H;rw[V,H]
theorem Ey.end_ (h:Ey per ps ns s d fu z)(D:Al ps)(E:∀ f,1<=BI ns f)(H:¬s.out.length<ps.length):Ej per ps ns s.out:=by
 have:=h.reach.count (GI D E);have:=h.reach.next_le;exact⟨s,h.reach,by omega,by omega,rfl⟩
end
structure FQ where
 q:List Nat
 tag:Nat->Int
 v:Int
 last:Nat->Int
section
variable (fl:Nat → Nat) (inc:Nat → Int)
def FQ.come (s:FQ)(k:Nat):FQ:=
 { q:=s.q++[k],tag:=AB s.tag k (max s.v (s.last (fl k))+inc k),v:=s.v,last:=AB s.last (fl k) (max s.v (s.last (fl k))+inc k) }
def FQ.left (s:FQ)(k:Nat):FQ:={ s with q:=s.q.filter fun i=>i != k,v:=s.tag k }
def FQ.rests (s:FQ):FQ:={ s with v:=0,last:=fun _=>0 }
def FQ.of (s:FQ)(f:Nat):List Nat:=s.q.filter fun i=>fl i==f
def FQ.begins (s:FQ)(f:Nat):Int:=match s.of fl f with | []=>s.v | k::_=>s.tag k-inc k
def Kg (tag:Nat->Int)(inc:Nat->Int):List Nat->Prop
 | []=>True
 | [_]=>True
 | a::b::r=>tag b-inc b=tag a/\Kg tag inc (b::r)
def Gc (tag:Nat->Int)(d:Int):List Nat->Int
 | []=>d
 | [a]=>tag a
 | _::b::r=>Gc tag d (b::r)
structure LJ (s:FQ):Prop where
 nodup:s.q.Nodup
 low:∀ k,k∈s.q->s.v<=s.tag k
 begin:∀ f,s.begins fl inc f<=s.v
 chain:∀ f,Kg s.tag inc (s.of fl f)
 ends:∀ f,s.of fl f≠[]->s.last f=Gc s.tag 0 (s.of fl f)
 idle:∀ f,s.of fl f=[]->s.last f<=s.v
variable {fl inc} {s:FQ}
theorem of_append (s:FQ)(k f:Nat)(t:Nat->Int)(v:Int)(l:Nat->Int):(FQ.mk (s.q++[k]) t v l).of fl f=s.of fl f++if fl k=f then [k]else []:=by
 unfold FQ.of;simp only[zA]
 congr 1
 by_cases h:fl k=f
 · simp[h]
 simp[h]
theorem Ov {t u:Nat->Int}:∀{l:List Nat},(∀ k,k∈l->t k=u k)->Kg t inc l->Kg u inc l
 | [],_,_=>trivial
 | [_],_,_=>trivial
 | a::b::r,h,D=>by
  obtain⟨H,E⟩:=D;refine⟨?_,Ov (fun k z=>h k (qG _ z)) E⟩;rw[<- h a (qA ..),<- h b (qG _ (qA ..))];exact H
theorem Jj {t u:Nat->Int}{d:Int}:∀{l:List Nat},(∀ k,k∈l->t k=u k)->Gc t d l=Gc u d l
 | [],_=>rfl
 | [a],h=>h a (qA ..)
 | a::b::r,h=>by
  simp only[Gc];exact Jj fun k z=>h k (qG _ z)
theorem M3 (t:Nat->Int)(d:Int)(k:Nat):∀ l:List Nat,Gc t d (l++[k])=t k
 | []=>rfl
 | [a]=>rfl
 | a::b::r=>by
  simp only[yL,Gc];exact M3 t d k (b::r)
theorem QC {t:Nat->Int}{k:Nat}:∀{l:List Nat},Kg t inc l->(l≠[]->t k-inc k=Gc t 0 l)->Kg t inc (l++[k])
 | [],_,_=>trivial
 | [a],_,h=>⟨h (by simp),trivial⟩
 | a::b::r,E,h=>by
  obtain⟨D,z⟩:=E;exact⟨D,QC z (fun _=>h (by simp))⟩
theorem Qc {t:Nat->Int}{v:Int}:∀{l:List Nat},l≠[]->(∀ k,k∈l->v<=t k)->v<=Gc t 0 l
 | [],h,_=>absurd rfl h
 | [a],_,h=>h a (qA ..)
 | a::b::r,_,h=>by
  simp only[Gc];exact Qc (by simp) fun k z=>h k (qG _ z)
theorem MB {s:FQ}{f k:Nat}:k∈s.of fl f↔k∈s.q/\fl k=f:=by
 unfold FQ.of;rw[List.mem_filter,yZ]
theorem LJ.start (fl:Nat->Nat)(inc:Nat->Int)(t:Nat->Int):LJ fl inc ⟨[],t,0,fun _=>0⟩:=
 ⟨List.nodup_nil,(fun _ h=>by cases h),fun _=>q8 _,fun _=>trivial,fun _ h=>absurd rfl h,fun _ _=>q8 _⟩
theorem LJ.rests (H:LJ fl inc s)(h:s.q=[]):LJ fl inc s.rests:=by
 have e:∀ f,s.rests.of fl f=[]:=fun f=>by unfold FQ.of FQ.rests;simp[h]
 refine⟨H.nodup,fun k D=>?_,fun f=>?_,fun f=>by rw[e];trivial,fun f E=>absurd (e f) E,fun f _=>q8 _⟩
 · have z:k∈s.q:=D;rw[h]at z;cases z
 unfold FQ.begins;rw[e];exact q8 _
theorem LJ.come (h:LJ fl inc s){k:Nat}(W:k ∉ s.q)(z:0<=inc k):LJ fl inc (s.come fl inc k):=by
 have ai:∀ i,i∈s.q->i≠k:=fun i z e=>W (by rw[<- e];exact z)
 have Y:∀ i,i∈s.q->s.tag i=(s.come fl inc k).tag i:=fun i z=>(Au _ _ (ai i z)).symm
 have K:(s.come fl inc k).tag k=max s.v (s.last (fl k))+inc k:=AJ _ _ _;have I:∀ f,(s.come fl inc k).of fl f=s.of fl f++if fl k=f then [k]else []:=fun f=>of_append s k f _ _ _
 have N:∀ f i,i∈s.of fl f->s.tag i=(s.come fl inc k).tag i:=fun f i z=>Y i (MB.1 z).1
 have ac:s.of fl (fl k)≠[]->max s.v (s.last (fl k))=Gc s.tag 0 (s.of fl (fl k)):=fun O=>by
  rw[h.ends _ O];have:=Qc O (fun i z=>h.low i (MB.1 z).1);omega
 refine⟨List.nodup_append.2 ⟨h.nodup,yA.2 ⟨by simp,List.nodup_nil⟩,fun a ab b D e=>W (by rw[vJ]at D;rw[<- D,<- e];exact ab)⟩,fun i Z=>?_,fun f=>?_,fun f=>?_,fun f J=>?_,fun f J=>?_⟩
 ·
  show s.v<=(s.come fl inc k).tag i
  have ad:i∈s.q++[k]:=Z;rcases vI.1 ad with E|E
  · rw[<- Y i E];exact h.low i E
  rw[vJ]at E;rw[E,K];omega
 ·
  have D:=h.begin f;unfold FQ.begins at D ⊢;rw[I];cases U:s.of fl f with
  | nil=>
   rw[zC];by_cases e:fl k=f
   ·
    rw[if_pos e];show(s.come fl inc k).tag k-inc k<=s.v
    rw[K];have:=h.idle f U;rw[e];omega
   rw[if_neg e];exact q8 _
  | cons a r=>
   rw[U]at D;show(s.come fl inc k).tag a-inc a<=s.v
   rw[<- N f a (by rw[U];exact qA ..)];exact D
 ·
  rw[I];have V:=Ov (N f) (h.chain f);by_cases e:fl k=f
  · rw[if_pos e];refine QC V (fun O=>?_);rw[K,<- Jj (N f),<- e,<- ac (by rw[e];exact O)];omega
  rw[if_neg e,x6];exact V
 ·
  show AB s.last (fl k) (max s.v (s.last (fl k))+inc k) f=_
  rw[I];by_cases e:fl k=f
  · rw[if_pos e,M3,K,<- e,AJ]
  rw[I,if_neg e,x6]at J;rw[if_neg e,x6,Au _ _ (fun Q=>e Q.symm),<- Jj (N f)];exact h.ends f J
 have H:=J;rw[I]at H;have e:fl k≠f:=fun e=>by rw[if_pos e]at H;simp at H
 rw[if_neg e,x6]at H;show AB s.last (fl k) _ f<=s.v
 rw[Au _ _ (fun Q=>e Q.symm)];exact h.idle f H
theorem UM {k f:Nat}(D:k ∉ s.q)(H:s.of fl f≠[]):(s.come fl inc k).begins fl inc f=s.begins fl inc f/\(s.come fl inc k).of fl f≠[]:=by
 have z:(s.come fl inc k).of fl f=s.of fl f++if fl k=f then [k]else []:=of_append s k f _ _ _
 cases h:s.of fl f with
 | nil=>exact absurd h H
 | cons a r=>
  refine⟨?_,by rw[z,h];simp⟩;have E:a∈s.q:=(MB (fl:=fl) (f:=f).1 (by rw[h];exact qA ..)).1;unfold FQ.begins;rw[z,h];show(s.come fl inc k).tag a-inc a=s.tag a-inc a
  have:(s.come fl inc k).tag a=s.tag a:=Au _ _ (fun e=>D (by rw[<- e];exact E));rw[this]
def FQ.Least (s:FQ)(k:Nat):Prop:=k∈s.q/\∀ i,i∈s.q->s.tag k<=s.tag i
theorem Oi {t:Nat->Int}:∀{l:List Nat}{a:Nat},Kg t inc (a::l)->(∀ k,k∈l->1<=inc k)->∀ k,k∈l->t a<t k
 | [],_,_,_=>fun k h=>by cases h
 | b::r,a,D,z=>fun k h=>by
  obtain⟨I,E⟩:=D;have H:=z b (qA ..);rcases qS.1 h with e|h
  · rw[e];omega
  have:=Oi E (fun k h=>z k (qG _ h)) k h;omega
theorem Pz (J:LJ fl inc s)(K:∀ k,k∈s.q->1<=inc k){k:Nat}(E:s.Least k):∃ r,s.of fl (fl k)=k::r:=by
 have h:k∈s.of fl (fl k):=MB.2 ⟨E.1,rfl⟩;cases z:s.of fl (fl k)with
 | nil=>rw[z]at h;cases h
 | cons a r=>
  rw[z]at h;rcases qS.1 h with e|h
  · subst e;exact⟨r,rfl⟩
  have H:=J.chain (fl k);rw[z]at H;have I:∀ i,i∈a::r->i∈s.q:=fun i D=>(MB (fl:=fl) (f:=fl k).1 (by rw[z];exact D)).1
  have:=Oi H (fun i D=>K i (I i (qG _ D))) k h;have:=E.2 a (I a (qA ..));omega
theorem Ze (s:FQ)(k f:Nat):(s.left k).of fl f=(s.of fl f).filter fun i=>i != k:=by
 unfold FQ.of FQ.left;simp only[List.filter_filter];refine List.filter_congr fun i _=>?_
 cases (fl i==f) <;> cases (i != k) <;> rfl
theorem GM {k f:Nat}(h:fl k≠f):(s.left k).of fl f=s.of fl f:=by
 rw[Ze];refine yQ.2 fun i z=>?_
 have:i≠k:=fun e=>h (by rw[<- e];exact(MB.1 z).2)
 simp[this]
theorem Ik (D:LJ fl inc s){k:Nat}{r:List Nat}(z:s.of fl (fl k)=k::r):(s.left k).of fl (fl k)=r:=by
 have h:(s.of fl (fl k)).Nodup:=D.nodup.filter _;rw[z]at h;obtain⟨n1,-⟩:=yA.1 h;rw[Ze,z,yF,if_neg (by simp)];refine yQ.2 fun i E=>?_
 have:i≠k:=fun e=>n1 (by rw[<- e];exact E)
 simp[this]
theorem LJ.left (h:LJ fl inc s)(O:∀ k,k∈s.q->1<=inc k){k:Nat}(I:s.Least k):LJ fl inc (s.left k):=by
 obtain⟨r,z⟩:=Pz h O I;have Q:=h.low k I.1;have K:∀ i,i∈(s.left k).q->i∈s.q:=fun i H=>(List.mem_filter.1 H).1
 refine⟨h.nodup.filter _,fun i H=>I.2 i (K i H),fun f=>?_,fun f=>?_,fun f D=>?_,fun f D=>?_⟩
 ·
  show(s.left k).begins fl inc f<=s.tag k
  by_cases e:fl k=f
  ·
   subst e;unfold FQ.begins;rw[Ik h z];cases r with
   | nil=>exact q8 _
   | cons b r=>
    have E:=h.chain (fl k);rw[z]at E;show s.tag b-inc b<=s.tag k
    have:=E.1;omega
  have J:=h.begin f;unfold FQ.begins at J ⊢;rw[GM e];cases N:s.of fl f with
  | nil=>exact q8 _
  | cons a r=>
   rw[N]at J;show s.tag a-inc a<=s.tag k
   simp only at J;omega
 ·
  by_cases e:fl k=f
  ·
   subst e;rw[Ik h z];have E:=h.chain (fl k);rw[z]at E;cases r with
   | nil=>trivial
   | cons b r=>exact E.2
  rw[GM e];exact h.chain f
 ·
  by_cases e:fl k=f
  ·
   subst e;rw[Ik h z]at D ⊢;have:=h.ends (fl k) (by rw[z];simp);rw[z]at this;cases r with
   | nil=>exact absurd rfl D
   | cons b r=>exact this
  rw[GM e]at D ⊢;exact h.ends f D
 show s.last f<=s.tag k
 by_cases e:fl k=f
 · subst e;rw[Ik h z]at D;subst D;have:=h.ends (fl k) (by rw[z];simp);rw[z]at this;rw[this];exact q8 _
 rw[GM e]at D;have:=h.idle f D;omega
end
def Dn (ps:List Pk)(ws:List Int)(k:Nat):Int:=Az ps k*(12/BI ws (Ag ps k))
def BR (ps:List Pk)(ws:List Int):Que FQ where
 come:=fun s k=>s.come (Ag ps) (Dn ps ws) k
 pick:=fun s=>s.q.getD (BA s.tag s.q) 0
 left:=fun s=>s.left (s.q.getD (BA s.tag s.q) 0)
 rest:=fun s=>s.q.length
 idle:=FQ.rests
def EK:FQ:=⟨[],fun _=>0,0,fun _=>0⟩
def Gw (ws:List Int):Prop:=∀ f,1<=BI ws f/\12/BI ws f*BI ws f=12
section
variable {ps:List Pk} {ws:List Int} {per:Int}
theorem Gw.part (H:Gw ws)(f:Nat):1<=12/BI ws f/\12/BI ws f<=12:=by
 obtain⟨E,z⟩:=H f;have D:0<=12/BI ws f:=Int.ediv_nonneg (by omega) (by omega);constructor
 ·
  rcases vV (12/BI ws f) 1 with h|h
  ·
   have:12/BI ws f=0:=by omega
   rw[this]at z;omega
  exact h
 have:=qP E D;omega
theorem Jt (I:Gw ws)(h:Al ps)(k:Nat):1<=Dn ps ws k/\Dn ps ws k<=18000:=by
 obtain⟨E,z⟩:=I.part (Ag ps k);obtain⟨D,H⟩:=Co h k;unfold Dn;have K:1*1<=Az ps k*(12/BI ws (Ag ps k)):=yD D E (by omega) (by omega);have J:Az ps k*(12/BI ws (Ag ps k))<=1500*12:=yD H z (by omega) (by omega);omega
theorem Ho {tag:Nat->Int}{q:List Nat}(E:0<q.length):q.getD (BA tag q) 0∈q/\∀ i,i∈q->tag (q.getD (BA tag q) 0)<=tag i:=by
 have z:=Iw tag E;refine⟨by rw[getD_lt z];exact xQ _,fun i H=>?_⟩;obtain⟨j,h,e⟩:=yP H;have:=IG tag q q.length j h;rw[getD_lt (d:=0) h,e]at this;have D:BA tag q=AY tag q q.length:=rfl;rw[D];omega
theorem TN {q:List Nat}(z:q.Nodup){k:Nat}(h:k∈q):(q.filter fun i=>i != k).length+1=q.length:=by
 have:=z.erase_eq_filter k;rw[<- this,List.length_erase_of_mem h];have:0<q.length:=List.length_pos_of_mem h;omega
structure FairRun (ps:List Pk)(ws:List Int)(s:St FQ)(H:List (FQ×FQ)):Prop where
 state:LJ (Ag ps) (Dn ps ws) s.q
 rises:s.q.q.Pairwise (·<·)
 len:H.length=s.out.length
 each:∀(i:Nat) x h,s.out[i]? = some x->H[i]? = some h->∃ k:Nat,x.num=k/\LJ (Ag ps) (Dn ps ws) h.1/\h.1.Least k/\h.2=h.1.left k/\∀ w:Nat,w<ps.length->Ar ps w<=x.beg->Ay (s.out.take (i+1)) w=false->w∈h.2.q
 next:∀(i:Nat) h h',H[i]? = some h->H[i+1]? = some h'->∀ f,h.2.of (Ag ps) f≠[]->h'.1.begins (Ag ps) (Dn ps ws) f=h.2.begins (Ag ps) (Dn ps ws) f
 last:∀ h,H[H.length-1]? = some h->0<H.length->∀ f,h.2.of (Ag ps) f≠[]->s.q.of (Ag ps) f≠[]/\s.q.begins (Ag ps) (Dn ps ws) f=h.2.begins (Ag ps) (Dn ps ws) f
 clock:∀ x,s.out[s.out.length-1]? = some x->x.fin<=s.now/\(x.fin=s.now->s.q.v=s.q.tag x.num.toNat)
 busy:∀(i:Nat) x y,s.out[i]? = some x->s.out[i+1]? = some y->y.beg=x.fin->s.q.tag x.num.toNat<=s.q.tag y.num.toNat
 wait:∀ w,w<s.next->Ay s.out w=false->w∈s.q.q
 only:∀ w,w∈s.q.q->w<s.next/\Ay s.out w=false
 le:s.next<=ps.length
 gone:∀ w:Nat,Ay s.out w=true->w<s.next
 nums:∀(i:Nat) x,s.out[i]? = some x->∃ k:Nat,x.num=k/\k<s.next
 within:∀(i:Nat) h,H[i]? = some h->∀ k,k∈h.1.q->k<ps.length
theorem Hm {D:Type}{l:List D}{y x:D}{i:Nat}(h:(l++[y])[i]? = some x):(i<l.length/\l[i]? = some x)\/(i=l.length/\x=y):=by
 have E:=Af h;rw[qJ,vH,vU]at E;rcases qC i l.length with z|z
 · rw[qU z]at h;exact .inl ⟨z,h⟩
 obtain rfl:i=l.length:=by omega
 rw[vW lr,yT,xF]at h;exact .inr ⟨rfl,(Option.some.inj h).symm⟩
theorem fair_run (z:Gw ws)(aj:Al ps)(a5:1<=per){s:St FQ}(E:Reaches (BR ps ws) per ps EK s):∃ H,FairRun ps ws s H:=by
 refine E.by_steps (C:=fun s=>∃ H,FairRun ps ws s H) ?_ ?_ ?_ ?_
 · exact⟨[],LJ.start _ _ _,List.Pairwise.nil,rfl,(fun i x E h=>by simp at h),(fun i E Z h=>by simp at h),(fun E _ I=>by simp at I),(fun x h=>by simp at h),(fun i x y h=>by simp at h),(fun w z=>absurd z (vR _)),(fun w z=>by cases z),qR _,(fun w z=>by simp[Ay]at z),(fun i x h=>by simp at h),fun i E D=>by simp at D⟩
 ·
  rintro s p ap ab am ⟨H,r⟩;have bh:=Af ab;have aS:Ay s.out s.next=false:=by
   cases J:Ay s.out s.next with
   | false=>rfl
   | true=>have:=r.gone _ J;omega
  have N:s.next ∉ s.q.q:=fun a9=>by have:=(r.only _ a9).1;omega
  have bk:=(Jt z aj s.next).1;have an:∀(i:Nat) x,s.out[i]? = some x->((BR ps ws).come s.q s.next).tag x.num.toNat=s.q.tag x.num.toNat:=fun i x h=>by
   obtain⟨k,e,aB⟩:=r.nums i x h;refine Au _ _ ?_
   rw[e,yB];omega
  refine⟨H,r.state.come N (by omega),?_,r.len,r.each,r.next,fun E D I f K=>?_,fun x h=>?_,fun i x y h V U=>?_,fun w z J=>?_,fun w z=>?_,bh,fun w z=>xS (r.gone w z),fun i x h=>?_,r.within⟩
  · refine List.pairwise_append.2 ⟨r.rises,List.pairwise_singleton _ _,fun a a8 b U=>?_⟩;rw[vJ]at U;have:=(r.only a a8).1;omega
  · obtain⟨O,Y⟩:=r.last E D I f K;obtain⟨ad,ac⟩:=UM (inc:=Dn ps ws) N O;exact⟨ac,ad.trans Y⟩
  ·
   obtain⟨ad,ac⟩:=r.clock x h;refine⟨ad,fun e=>?_⟩;show s.q.v=_
   rw[an _ x h];exact ac e
  ·
   show((BR ps ws).come s.q s.next).tag _<=((BR ps ws).come s.q s.next).tag _
   rw[an _ x h,an _ y V];exact r.busy i x y h V U
  ·
   show w∈s.q.q++[s.next]
   rcases qC w s.next with ao|ao
   · exact vI.2 (.inl (r.wait w ao J))
   obtain rfl:w=s.next:=by simp only at z;omega
   exact vI.2 (.inr (vJ.2 rfl))
  ·
   have bb:w∈s.q.q++[s.next]:=z;rcases vI.1 bb with al|al
   · obtain⟨O,Y⟩:=r.only w al;exact⟨xS O,Y⟩
   rw[vJ]at al;subst al;exact⟨yV _,aS⟩
  obtain⟨k,e,aB⟩:=r.nums i x h;exact⟨k,e,xS aB⟩
 ·
  rintro s p ap a' I ab ⟨H,r⟩;obtain⟨ai,aw⟩:=Ho (tag:=s.q.tag) (q:=s.q.q) I;obtain⟨k,N⟩:∃ k,k=(BR ps ws).pick s.q:=⟨_,rfl⟩
  have a2:s.q.q.getD (BA s.q.tag s.q.q) 0=k:=N.symm;have bd:(BR ps ws).left s.q=s.q.left k:=by rw[N];rfl
  rw[a2]at ai aw;rw[<- N]at ab ⊢;rw[bd];have aE:s.q.Least k:=⟨ai,aw⟩
  have a0:∀ i,i∈s.q.q->1<=Dn ps ws i:=fun i _=>(Jt z aj i).1
  obtain⟨-,-,a3,-,-,-⟩:=A7 (aj.each _ p ab).1;have bq:1*1<=per*p.size:=yD a5 a3 (by omega) (by omega);obtain⟨bc,bl⟩:=r.only k ai;have av:∀ w,w∈s.q.q->w≠k->w∈(s.q.left k).q:=fun w z be=>List.mem_filter.2 ⟨z,by simp[be]⟩
  have aq:∀ w:Nat,Ay (s.out++[⟨(k:Nat),s.now,s.now+per*p.size⟩]) w=false->Ay s.out w=false/\w≠k:=by
   intro w z;rw[Da,Bool.or_eq_false_iff]at z;exact⟨z.1,fun e=>beq_eq_false_iff_ne.1 z.2 e.symm⟩
  refine⟨H++[(s.q,s.q.left k)],r.state.left a0 aE,r.rises.filter _,by simp[r.len],fun i x E h D=>?_,fun i E Z D Q f K=>?_,fun E D _ f K=>?_,fun x h=>?_,fun i x y h V U=>?_,fun w z J=>?_,fun w z=>?_,r.le,fun w z=>?_,fun i x h=>?_,fun i E D=>?_⟩
  ·
   rcases Hm h with⟨Z,h⟩|⟨rfl,rfl⟩
   · rw[qU (by rw[r.len];exact Z)]at D;simp only[yG (show i+1<=s.out.length by omega)];exact r.each i x E h D
   rw[vW (by rw[r.len];exact lr),r.len,yT,xF]at D;have D:=Option.some.inj D;subst D;refine⟨k,rfl,r.state,aE,rfl,fun w z am J=>?_⟩;rw[vP (by simp)]at J;obtain⟨d1,d2⟩:=aq w J;refine av w (r.wait w ?_ d1) d2;rcases qC w s.next with W|W
   · exact W
   have a6:s.next<ps.length:=by omega
   have e:ps[s.next]? = some ps[s.next]:=qE a6;have bm:=a' _ e;have a1:=Eh aj W z;rw[Av e]at a1;simp only at am;omega
  ·
   have aN:=Af Q;simp only[qJ,vH,vU]at aN;rcases qC (i+1) H.length with W|W
   · rw[qU (by omega)]at D;rw[qU W]at Q;exact r.next i E Z D Q f K
   have bg:i+1=H.length:=by omega
   rw[qU (by omega)]at D;rw[vW (by omega),bg,yT,xF]at Q;have Q:=Option.some.inj Q;subst Q;exact(r.last E (by rw[show H.length-1=i by omega];exact D) (by omega) f K).2
  · simp only[qJ,vH,vU,Nat.add_sub_cancel]at D;rw[vW lr,yT,xF]at D;have D:=Option.some.inj D;subst D;exact⟨K,rfl⟩
  ·
   simp only[qJ,vH,vU,Nat.add_sub_cancel]at h;rw[vW lr,yT,xF]at h;have h:=Option.some.inj h;subst h;refine⟨q8 _,fun _=>?_⟩;show s.q.tag k=s.q.tag ((k:Nat):Int).toNat
   rw[yB]
  ·
   show s.q.tag _<=s.q.tag _
   rcases Hm V with⟨Z,V⟩|⟨e,rfl⟩
   ·
    rcases Hm h with⟨-,h⟩|⟨e,-⟩
    · exact r.busy i x y h V U
    omega
   rcases Hm h with⟨-,h⟩|⟨bj,-⟩
   · obtain⟨-,ac⟩:=r.clock x (by rw[show s.out.length-1=i by omega];exact h);have bp:=ac U.symm;have:=r.state.low k ai;simp only[yB];omega
   omega
  · obtain⟨d1,d2⟩:=aq w J;exact av w (r.wait w z d1) d2
  · obtain⟨a7,a4⟩:=List.mem_filter.1 (show w∈s.q.q.filter fun i=>i != k from z);obtain⟨O,Y⟩:=r.only w a7;refine⟨O,?_⟩;rw[Da,Y,Bool.false_or];exact beq_eq_false_iff_ne.2 (fun e=>(bne_iff_ne.1 a4) e.symm)
  ·
   rw[Da,Bool.or_eq_true]at z;show w<s.next
   rcases z with z|z
   · exact r.gone w z
   have:=yZ.1 z;omega
  ·
   rcases Hm h with⟨-,h⟩|⟨-,rfl⟩
   · exact r.nums i x h
   exact⟨k,rfl,bc⟩
  rcases Hm D with⟨-,D⟩|⟨-,rfl⟩
  · exact r.within i E D
  exact fun k N=>qD (r.only k N).1 r.le
 rintro s p ap ab am I ⟨H,r⟩;have ar:s.q.q=[]:=qN.1 I;refine⟨H,r.state.rests ar,r.rises,r.len,r.each,r.next,fun E D I f K=>?_,fun x h=>?_,r.busy,r.wait,r.only,r.le,r.gone,r.nums,r.within⟩
 · obtain⟨O,-⟩:=r.last E D I f K;refine absurd ?_ O;unfold FQ.of;rw[ar];rfl
 obtain⟨ad,-⟩:=r.clock x h;refine⟨by simp only;omega,fun e=>?_⟩;simp only at e;omega
end
section
variable {ps:List Pk} {ws:List Int} {per:Int}
theorem JI (I:Gw ws)(E:Al ps)(H:1<=per):Kh (BR ps ws) per ps EK where
 none:=rfl
 come:=fun s _ _=>by
  show(s.q.q++[s.next]).length=_
  simp[BR]
 left:=fun s D h=>by
  obtain⟨K,r⟩:=fair_run I E H D;obtain⟨z,-⟩:=Ho (tag:=s.q.tag) (q:=s.q.q) h;exact TN r.state.nodup z
 pick:=fun s D h=>by
  obtain⟨K,r⟩:=fair_run I E H D;obtain⟨z,-⟩:=Ho (tag:=s.q.tag) (q:=s.q.q) h;exact(r.only _ z).1
 idle:=fun s _ J=>J
theorem NL (J:Gw ws)(D:Al ps){s:St FQ}(I:Reaches (BR ps ws) per ps EK s):(0<=s.q.v/\s.q.v<=18000*(s.next:Int))/\(∀ f,0<=s.q.last f/\s.q.last f<=18000*(s.next:Int))/\∀ k,0<=s.q.tag k/\s.q.tag k<=18000*(s.next:Int):=by
 refine I.by_steps (C:=fun s:St FQ=>(0<=s.q.v/\s.q.v<=18000*(s.next:Int))/\(∀ f,0<=s.q.last f/\s.q.last f<=18000*(s.next:Int))/\∀ k,0<=s.q.tag k/\s.q.tag k<=18000*(s.next:Int)) ⟨⟨q8 _,q8 _⟩,fun _=>⟨q8 _,q8 _⟩,fun _=>⟨q8 _,q8 _⟩⟩ ?_ ?_ ?_
 ·
  rintro s p z h H ⟨⟨K,V⟩,b,c⟩;obtain⟨W,N⟩:=Jt J D s.next;obtain⟨U,O⟩:=b (Ag ps s.next);refine⟨⟨K,?_⟩,fun f=>?_,fun k=>?_⟩
  ·
   show s.q.v<=_
   simp only;omega
  ·
   show 0<=AB s.q.last (Ag ps s.next) (max s.q.v (s.q.last (Ag ps s.next))+Dn ps ws s.next) f/\AB s.q.last (Ag ps s.next) (max s.q.v (s.q.last (Ag ps s.next))+Dn ps ws s.next) f<=18000*((s.next+1:Nat):Int)
   by_cases e:f=Ag ps s.next
   · rw[e,AJ];omega
   rw[Au _ _ e];have:=b f;omega
  show 0<=AB s.q.tag s.next (max s.q.v (s.q.last (Ag ps s.next))+Dn ps ws s.next) k/\AB s.q.tag s.next (max s.q.v (s.q.last (Ag ps s.next))+Dn ps ws s.next) k<=18000*((s.next+1:Nat):Int)
  by_cases e:k=s.next
  · rw[e,AJ];omega
  rw[Au _ _ e];have:=c k;omega
 · rintro s p z Q E h ⟨a,b,c⟩;exact⟨c _,b,c⟩
 rintro s p z h H E ⟨a,b,c⟩;exact⟨⟨q8 _,by simp only[BR,FQ.rests];omega⟩,fun f=>⟨q8 _,by simp only[BR,FQ.rests];omega⟩,c⟩
end
end Go.Proofs.YtejlihcdfffafaaGreatDoor
