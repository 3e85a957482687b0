import Derived.Test.YtejlihcdfffafaaGreatDoorP31
import Derived.Test.YtejlihcdfffafaaGreatDoorP17
import Derived.Lib.ItoaLen
set_option maxHeartbeats 4000000
set_option maxRecDepth 100000
namespace Go.Proofs.YtejlihcdfffafaaGreatDoor
theorem ah {a x:Int×Int}{L:lI}(K:GD a L)(I:x∈L)(T:lI):Dt T->Behind x T->(∀ s,s∈T->s∈L)->a∈T->a∈x::C8 x T:=by
 induction T with
 | nil=>intro _ _ _ h;cases h
 | cons t r W=>
  intro V N H h;have E:=vN.1 V;unfold C8;split
  ·
   next z=>
   rcases qS.1 h with rfl|h
   ·
    by_cases O:x=a
    · rw[O];exact qA ..
    exfalso
    rcases N a (qA ..)with D|⟨D,U⟩
    ·
     have U:=K.flat x I D
     match r,z,E,H with
     | [],z,_,_=>have:=vM z;omega
     | u::r,z,E,H=>
      have Q:(decide (x.1<=a.1) || decide ((x.1-a.1)*(u.2-a.2)<=(a.1-u.1)*(a.2-x.2)))=true:=z;rw[Bool.or_eq_true]at Q;rcases Q with h|h
      · have:=vM h;omega
      have h:=vM h;have:=K.both u (H u (by simp)) x I (E.1 u (qA ..)).1 D;omega
    have:=K.same x I D O;omega
   exact W E.2 (fun y J=>N y (qG _ J)) (fun y J=>H y (qG _ J)) h
  exact qG _ h
theorem ZO {a:Int×Int}{L:lI}(Q:GD a L)(l:lI):∀ T,Dt T->(∀ x,x∈l->Behind x T)->l.Pairwise (fun a b=>b.2<a.2\/(b.2=a.2/\b.1<=a.1))->(∀ s,s∈T->s∈L)->(∀ s,s∈l->s∈L)->a∈T\/a∈l->a∈EU T l:=by
 induction l with
 | nil=>intro T _ _ _ _ _ h;rcases h with h|h;exact h;cases h
 | cons x r U=>
  intro T N E V D I h;have O:=vN.1 V;have H:=E x (qA ..);have K:=I x (qA ..);refine U (x::C8 x T) (IJ N H) (fun y J s z=>?_) O.2 (fun s z=>?_) (fun s z=>I s (qG _ z)) ?_
  ·
   rcases qS.1 z with rfl|z
   · exact O.1 y J
   exact E y (qG _ J) s (Hg x T s z)
  ·
   rcases qS.1 z with rfl|z
   · exact K
   exact D s (Hg x T s z)
  rcases h with h|h
  · exact .inl (ah Q K T N H D h)
  rcases qS.1 h with rfl|h
  · exact .inl (qA ..)
  exact .inr h
def hgt (n d:Int)(p:Int×Int):Int:=d*p.1+n*p.2
theorem fwd {p q n1 d1 n2 d2:Int}(h:0<d1)(D:0<d2)(J:0<=q*(n2*d1-n1*d2))(E:0<=d1*p+n1*q):0<=d2*p+n2*q:=by
 have I:0<=d2*(d1*p+n1*q):=vG (yJ D) E;have H:d1*(d2*p+n2*q)=d2*(d1*p+n1*q)+q*(n2*d1-n1*d2):=by simp only[yY,xW,xK,xV];omega
 have z:0<=d1*(d2*p+n2*q):=by omega
 exact Int.nonneg_of_mul_nonneg_right z h
theorem QI {a b:Int×Int}{n1 d1 n2 d2:Int}(h:0<d1)(z:0<d2)(D:a.2<=b.2)(H:n1*d2<=n2*d1)(E:hgt n1 d1 a<=hgt n1 d1 b):hgt n2 d2 a<=hgt n2 d2 b:=by
 unfold hgt at *;have:=fwd (p:=b.1-a.1) (q:=b.2-a.2) (n1:=n1) (d1:=d1) (n2:=n2) (d2:=d2) h z (vG (by omega) (by omega)) (by simp only[xW];omega);simp only[xW]at this;omega
theorem QT {a b:Int×Int}{n1 d1 n2 d2:Int}(h:0<d1)(z:0<d2)(D:b.2<=a.2)(H:n2*d1<=n1*d2)(E:hgt n1 d1 a<=hgt n1 d1 b):hgt n2 d2 a<=hgt n2 d2 b:=by
 unfold hgt at *;have:=fwd (p:=b.1 - a.1) (q:=b.2 - a.2) (n1:=n1) (d1:=d1) (n2:=n2) (d2:=d2) h z (by
  have:0<=(a.2-b.2)*(n1*d2-n2*d1):=vG (by omega) (by omega);have e:(b.2-a.2)*(n2*d1-n1*d2)=(a.2-b.2)*(n1*d2-n2*d1):=by simp only[xW,xK,xV];omega
  omega) (by simp only [xW];omega)
 simp only[xW]at this;omega
def loN:lI->Int
 | t::u::_=>t.1-u.1
 | _=>0
def loD:lI->Int
 | t::u::_=>u.2-t.2
 | _=>1
theorem U1 {T:lI}(h:Dt T):0<=loN T/\0<loD T:=by
 match T,h with
 | [],_=>exact⟨q8 _,Int.one_pos⟩
 | [_],_=>exact⟨q8 _,Int.one_pos⟩
 | t::u::r,h=>
  have:=(vN.1 h).1 u (qA ..);show 0<=t.1-u.1/\0<u.2-t.2
  omega
theorem Nr (t u:Int×Int)(r:lI):hgt (loN (t::u::r)) (loD (t::u::r)) t=hgt (loN (t::u::r)) (loD (t::u::r)) u:=by
 simp only[hgt,loN,loD,xW,xK];omega
theorem fM {x t:Int×Int}{r:lI}(h:Dt (t::r))(D:x.2<=t.2):El x (t::r)=true↔hgt (loN (t::r)) (loD (t::r)) x<=hgt (loN (t::r)) (loD (t::r)) t:=by
 match r,h with
 | [],_=>
  show decide (x.1<=t.1)=true↔1*x.1+0*x.2<=1*t.1+0*t.2
  rw[decide_eq_true_iff];omega
 | u::r,h=>
  have H:=(vN.1 h).1 u (qA ..);show(decide (x.1<=t.1) || decide ((x.1-t.1)*(u.2-t.2)<=(t.1-u.1)*(t.2-x.2)))=true↔(u.2-t.2)*x.1+(t.1-u.1)*x.2<=(u.2-t.2)*t.1+(t.1-u.1)*t.2
  have e:(t.1-u.1)*(t.2-x.2)-(x.1-t.1)*(u.2-t.2)=((u.2-t.2)*t.1+(t.1-u.1)*t.2)-((u.2-t.2)*x.1+(t.1-u.1)*x.2):=by simp only[xW,xK];omega
  rw[Bool.or_eq_true,decide_eq_true_iff,decide_eq_true_iff];constructor
  ·
   rintro(z|z)
   · have I:=qP z (show 0<=u.2-t.2 by omega);have E:=qP D (show 0<=t.1-u.1 by omega);omega
   omega
  intro z;exact .inr (by omega)
def Q9 (P:lI):lI->Prop
 | []=>True
 | t::r=>(∀ b,b∈P->hgt (loN (t::r)) (loD (t::r)) t<=hgt (loN (t::r)) (loD (t::r)) b)/\(∀ u r',r=u::r'->hgt (loN r) (loD r) u<hgt (loN r) (loD r) t)/\Q9 P r
def j5 (P:lI)(x h:Int×Int):Prop:=(∀ b,b∈P->h.2<=b.2)\/∃ n d:Int,0<d/\(∀ b,b∈P->hgt n d h<=hgt n d b)/\hgt n d x<=hgt n d h
theorem Qa {x h:Int×Int}{n d:Int}(z:hgt n d h<hgt n d x):n*(h.2-x.2)<(x.1-h.1)*d:=by
 unfold hgt at z;have e:(x.1-h.1)*d-n*(h.2-x.2)=(d*x.1+n*x.2)-(d*h.1+n*h.2):=by simp only[xW,xK];omega
 omega
theorem Vv {x h:Int×Int}{n d:Int}(z:hgt n d h<=hgt n d x):n*(h.2-x.2)<=(x.1-h.1)*d:=by
 unfold hgt at z;have e:(x.1-h.1)*d-n*(h.2-x.2)=(d*x.1+n*x.2)-(d*h.1+n*h.2):=by simp only[xW,xK];omega
 omega
theorem OO {x h:Int×Int}{n d:Int}(z:hgt n d x<=hgt n d h):(x.1-h.1)*d<=n*(h.2-x.2):=by
 unfold hgt at z;have e:(x.1-h.1)*d-n*(h.2-x.2)=(d*x.1+n*x.2)-(d*h.1+n*h.2):=by simp only[xW,xK];omega
 omega
theorem jN {P:lI}{x:Int×Int}(r:lI):∀ h,Dt (h::r)->Q9 P (h::r)->Behind x (h::r)->j5 P x h ->
  Q9 P (C8 x (h::r))/\(∀ b,b∈P->hgt (loN (x::C8 x (h::r))) (loD (x::C8 x (h::r))) x<=hgt (loN (x::C8 x (h::r))) (loD (x::C8 x (h::r))) b) /\
   (∀ u r',C8 x (h::r)=u::r'->x.2<=u.2/\hgt (loN (u::r')) (loD (u::r')) u<hgt (loN (u::r')) (loD (u::r')) x):=by
 induction r with
 | nil=>
  intro h O H K J;have Q:x.2<=h.2:=by have:=K h (qA ..);omega
  have V:=fM O Q;by_cases E:El x [h]=true
  ·
   have e:C8 x [h]=[]:=by unfold C8;rw[if_pos E];rfl
   rw[e];refine⟨trivial,fun b D=>?_,fun u r' z=>by cases z⟩;have U:=H.1 b D;have W:=V.1 E;show 1*x.1+0*x.2<=1*b.1+0*b.2
   have ao:1*h.1+0*h.2<=1*b.1+0*b.2:=U;have am:1*x.1+0*x.2<=1*h.1+0*h.2:=W;omega
  have e:C8 x [h]=[h]:=by unfold C8;rw[if_neg E]
  rw[e];have N:hgt (loN [h]) (loD [h]) h<hgt (loN [h]) (loD [h]) x:=by
   rcases vV (hgt (loN [h]) (loD [h]) h) (hgt (loN [h]) (loD [h]) x)with z|z
   · exact z
   exact absurd (V.2 z) E
  have an:1*h.1+0*h.2<1*x.1+0*x.2:=N;have ad:x.2<h.2:=by have:=K h (qA ..);omega
  refine⟨H,fun b D=>?_,fun u r' z=>by cases z;exact⟨Q,N⟩⟩;rw[Nr x h []];show hgt (x.1-h.1) (h.2-x.2) h<=hgt (x.1-h.1) (h.2-x.2) b
  rcases Int.le_total h.2 b.2 with I|I
  · exact QI (n1:=0) (d1:=1) (by decide) (by omega) I (by omega) (H.1 b D)
  rcases J with J|⟨n,d,Y,U,W⟩
  · exact QI (n1:=0) (d1:=1) (by decide) (by omega) (J b D) (by omega) (H.1 b D)
  exact QT Y (by omega) I (OO W) (U b D)
 | cons u r aj=>
  intro h O H K J;have Q:x.2<=h.2:=by have:=K h (qA ..);omega
  have V:=fM O Q;have Z:=U1 O;have ac:=vN.1 O;by_cases E:El x (h::u::r)=true
  ·
   have e:C8 x (h::u::r)=C8 x (u::r):=by rw[C8.eq_def];simp only[];rw[if_pos E]
   rw[e];refine aj u ac.2 H.2.2 (fun y ai=>K y (qG _ ai)) (.inr ⟨loN (h::u::r),loD (h::u::r),Z.2,fun b D=>?_,?_⟩)
   · rw[<- Nr];exact H.1 b D
   rw[<- Nr];exact V.1 E
  have e:C8 x (h::u::r)=h::u::r:=by rw[C8.eq_def];simp only[];rw[if_neg E]
  rw[e];have N:hgt (loN (h::u::r)) (loD (h::u::r)) h<hgt (loN (h::u::r)) (loD (h::u::r)) x:=by
   rcases vV (hgt (loN (h::u::r)) (loD (h::u::r)) h) (hgt (loN (h::u::r)) (loD (h::u::r)) x)with z|z
   · exact z
   exact absurd (V.2 z) E
  have al:=L8 (by simpa using E);have ad:x.2<h.2:=by have:=K h (qA ..);omega
  refine⟨H,fun b D=>?_,fun u r' z=>by cases z;exact⟨Q,N⟩⟩;rw[Nr x h (u::r)];show hgt (x.1-h.1) (h.2-x.2) h<=hgt (x.1-h.1) (h.2-x.2) b
  have ab:=Qa N;rcases Int.le_total h.2 b.2 with I|I
  · exact QI Z.2 (by omega) I (yJ ab) (H.1 b D)
  rcases J with J|⟨n,d,Y,U,W⟩
  · exact QI Z.2 (by omega) (J b D) (yJ ab) (H.1 b D)
  exact QT Y (by omega) I (OO W) (U b D)
theorem iG {P:lI}{x:Int×Int}(r:lI):∀ t,Dt (t::r)->Q9 P (t::r)->(∀ s,s∈t::r->s∈P)->x.2<=t.2->hgt (loN (t::r)) (loD (t::r)) t<=hgt (loN (t::r)) (loD (t::r)) x->Q9 (P++[x]) (t::r):=by
 induction r with
 | nil=>
  intro t E z I J D;refine⟨fun b h=>?_,z.2.1,trivial⟩;rcases vI.1 h with h|h
  · exact z.1 b h
  rw[vJ.1 h];exact D
 | cons u r U=>
  intro t E z I J D;have H:=vN.1 E;have W:=H.1 u (qA ..);refine⟨fun b h=>?_,z.2.1,U u H.2 z.2.2 (fun s Q=>I s (qG _ Q)) (by omega) ?_⟩
  ·
   rcases vI.1 h with h|h
   · exact z.1 b h
   rw[vJ.1 h];exact D
  have K:=z.2.2.1 t (I t (qA ..));have hl1:=U1 E;have O:=U1 H.2;have N:=Vv K;have V:=QT hl1.2 O.2 J N D;omega
theorem jR (l:lI):∀ T P,Dt T->Q9 P T->(∀ s,s∈T->s∈P)->(T=[]->P=[])->(∀ z r,T=z::r->∀ b,b∈P->z.2<=b.2)->(∀ x,x∈l->Behind x P)->l.Pairwise (fun a b=>b.2<a.2\/(b.2=a.2/\b.1<=a.1)) ->
  Q9 (P++l) (EU T l)/\(∀ z r,EU T l=z::r->∀ b,b∈P++l->z.2<=b.2):=by
 induction l with
 | nil=>intro T P _ N _ _ I _ _;rw[x6];exact⟨N,I⟩
 | cons x r al=>
  intro T P H N J Q I U am;have Y:=vN.1 am;have Z:=U x (qA ..);have K:Behind x T:=fun s E=>Z s (J s E)
  have e:P++x::r=(P++[x])++r:=by simp
  rw[e];show Q9 ((P++[x])++r) (EU (x::C8 x T) r)/\(∀ z ai,EU (x::C8 x T) r=z::ai->∀ b,b∈(P++[x])++r->z.2<=b.2)
  refine al (x::C8 x T) (P++[x]) (IJ H K) ?_ ?_ (fun D=>by cases D) ?_ ?_ Y.2
  ·
   match T,H,N,J,Q,I,K with
   | [],_,_,_,Q,_,_=>
    rw[Q rfl];refine⟨fun b h=>?_,fun u r' D=>(by cases D),trivial⟩;rw[vJ.1 h];exact q8 _
   | z::r',H,N,J,Q,I,K=>
    obtain⟨W,aj,ad⟩:=jN r' z H N K (.inl (I z r' rfl));refine⟨fun b h=>?_,fun u O D=>?_,?_⟩
    ·
     rcases vI.1 h with h|h
     · exact aj b h
     rw[vJ.1 h];exact q8 _
    · rw[D];exact(ad u O D).2
    rcases hq:C8 x (z::r')with _|⟨u,O⟩
    · trivial
    have V:=IJ H K;rw[hq]at V W;have ac:=ad u O hq;exact iG O u (vN.1 V).2 W (fun s E=>J s (Hg x _ s (by rw[hq];exact E))) ac.1 (yJ ac.2)
  ·
   intro s E;rcases qS.1 E with rfl|E
   · simp
   exact vI.2 (.inl (J s (Hg x T s E)))
  ·
   intro z r' D b h;injection D with D _
   rw[<- D];rcases vI.1 h with h|h
   · have:=Z b h;omega
   rw[vJ.1 h];exact q8 _
  intro y ab b h;rcases vI.1 h with h|h
  · exact U y (qG _ ab) b h
  rw[vJ.1 h];exact Y.1 y ab
def jM (P:lI)(a:Int×Int):Prop:=∃ n1 d1 n2 d2:Int,0<=n1/\0<d1/\0<d2/\n1*d2<n2*d1/\(∀ b,b∈P->hgt n1 d1 a<=hgt n1 d1 b)/\(∀ b,b∈P->hgt n2 d2 a<=hgt n2 d2 b)
theorem iA {P:lI}(r:lI):∀ h,Dt (h::r)->Q9 P (h::r)->((∀ b,b∈P->h.2<=b.2)\/∃ n d:Int,0<d/\loN (h::r)*d<n*loD (h::r)/\(∀ b,b∈P->hgt n d h<=hgt n d b))->∀ a,a∈h::r->jM P a:=by
 have N:∀(h:Int×Int)(r:lI),Dt (h::r)->Q9 P (h::r)->((∀ b,b∈P->h.2<=b.2)\/∃ n d:Int,0<d/\loN (h::r)*d<n*loD (h::r)/\(∀ b,b∈P->hgt n d h<=hgt n d b))->jM P h:=by
  intro h r I D E;have z:=U1 I;rcases E with E|⟨n,d,O,K,V⟩
  · have K:loN (h::r)*loD (h::r)<(loN (h::r)+loD (h::r))*loD (h::r):=Int.mul_lt_mul_of_pos_right (by omega) z.2;exact⟨loN (h::r),loD (h::r),loN (h::r)+loD (h::r),loD (h::r),z.1,z.2,z.2,K,D.1,fun b J=>QI z.2 z.2 (E b J) (yJ K) (D.1 b J)⟩
  exact⟨loN (h::r),loD (h::r),n,d,z.1,z.2,O,K,D.1,V⟩
 induction r with
 | nil=>
  intro h I D E a H;rcases qS.1 H with rfl|H
  · exact N a [] I D E
  cases H
 | cons u r Q=>
  intro h I D E a H;have z:=U1 I;have U:=vN.1 I;rcases qS.1 H with rfl|H
  · exact N a (u::r) I D E
  refine Q u U.2 D.2.2 (.inr ⟨loN (h::u::r),loD (h::u::r),z.2,?_,fun b J=>?_⟩) a H
  · exact Qa (D.2.1 u r rfl)
  rw[<- Nr];exact D.1 b J
theorem Z6 {P:lI}{a:Int×Int}(V:jM P a):GD a P:=by
 obtain⟨n1,d1,n2,d2,W,E,D,al,O,ab⟩:=V;have ai:0<n2:=by
  have av:0<=n1*d2:=vG W (yJ D);have Y:0<n2*d1:=by omega
  exact Int.pos_of_mul_pos_left Y E
 have J:∀ c,c∈P->c.2<a.2->0<d2*(c.1-a.1)/\n2*(a.2-c.2)<=d2*(c.1-a.1):=by
  intro c z I;have:=ab c z;unfold hgt at this;have U:0<n2*(a.2-c.2):=Int.mul_pos ai (by omega);simp only[xW]at *;omega
 refine⟨fun b H Q aj=>?_,fun c z I=>?_,fun b H c z ar Z=>?_⟩
 ·
  have:=O b H;unfold hgt at this;rw[Q]at this;have U:a.1<=b.1:=Int.le_of_mul_le_mul_left (by omega) E;have:a.1≠b.1:=fun e=>aj (Prod.ext e.symm Q)
  omega
 · have:=Int.pos_of_mul_pos_right (J c z I).1 D;omega
 have ac:=(J c z Z).2;have ad:d1*(a.1-b.1)<=n1*(b.2-a.2):=by
  have:=O b H;unfold hgt at this;simp only[xW];omega
 have N:0<b.2-a.2:=by omega
 have K:0<a.2-c.2:=by omega
 generalize b.2-a.2=X at *;generalize a.2-c.2=h at *;generalize a.1-b.1=A at *;generalize c.1-a.1=C at *;have s1:(d2*h)*(d1*A)<=(d2*h)*(n1*X):=qP ad (yJ (Int.mul_pos D K));have ao:(X*h)*(n1*d2)<(X*h)*(n2*d1):=Int.mul_lt_mul_of_pos_left al (Int.mul_pos N K);have an:(d1*X)*(n2*h)<=(d1*X)*(d2*C):=qP ac (yJ (Int.mul_pos E N));have aw:(d2*h)*(d1*A)=(d1*d2)*(A*h):=by simp only[xK,xV]
 have ap:(d2*h)*(n1*X)=(X*h)*(n1*d2):=by simp only[xK,xV]
 have aq:(X*h)*(n2*d1)=(d1*X)*(n2*h):=by simp only[xK,xV]
 have am:(d1*X)*(d2*C)=(d1*d2)*(C*X):=by simp only[xK,xV]
 exact Int.lt_of_mul_lt_mul_left (show(d1*d2)*(A*h)<(d1*d2)*(C*X)by omega) (yJ (Int.mul_pos E D))
theorem Sz {a:Int×Int}{l ls:lI}(h:l.Perm ls)(D:GD a l):GD a ls:=
 ⟨fun b z=>D.same b (h.mem_iff.2 z),fun c E=>D.flat c (h.mem_iff.2 E),fun b z c E=>D.both b (h.mem_iff.2 z) c (h.mem_iff.2 E)⟩
theorem Tz {l ls:lI}(E:l.Perm ls)(h:DR l)(a:Int×Int):a∈EU [] l↔a∈ls/\GD a ls:=by
 have D:=Ia h;have J:=KL h;constructor
 ·
  intro z;have H:a∈l:=by
   rcases PP l [] a z with I|I
   · cases I
   exact I
  refine⟨E.mem_iff.1 H,Sz E ?_⟩;have:=jR l [] [] List.Pairwise.nil trivial (fun _ h=>h) (fun _=>rfl) (fun _ _ h=>by cases h) (fun _ _ s D=>by cases D) D;rw[zC]at this;rcases hq:EU [] l with _|⟨K,r⟩
  · rw[hq]at z;cases z
  rw[hq]at z J this;exact Z6 (iA r K J this.1 (.inl (this.2 K r rfl)) a z)
 rintro⟨H,z⟩;exact ZO (Sz E.symm z) l [] List.Pairwise.nil (fun _ _ s D=>by cases D) D (fun _ h=>by cases h) (fun _ h=>h) (.inr (E.mem_iff.2 H))
theorem NB {l:lI}(D:DR l):OJ (EU [] l).reverse:=by
 have h:=KL D;unfold OJ;unfold Dt at h;rw[List.pairwise_reverse];rw[xC]at h ⊢;exact fun i j H z E=>(h i j H z E).1
theorem UZ {L R l:lI}(D:GH L L.length R)(I:l.Perm L)(E:DR l):R=(EU [] l).reverse:=by
 refine MH D.falls (NB E) fun a=>?_
 rw[D.mem a,List.mem_reverse,Tz I E];constructor
 · rintro⟨h,k,_,e⟩;exact⟨q9 e,h⟩
 rintro⟨h,H⟩;obtain⟨k,z⟩:=xN.1 h;exact⟨H,k,(vK.1 z).1,z⟩
open Go.RowKit
def NW (P L:lI):Prop:=∃ l,l.Perm P/\DR l/\L=(EU [] l).reverse
theorem ZR {P L R:lI}(D:GH P P.length R)(E:NW P L):R=L:=by
 obtain⟨l,z,h,rfl⟩:=E;exact UZ D z h
def Cb (D z:lI)(h:Int)(L:lI):Prop:=
 (¬Ci (BL D z)/\h=2/\L=[]) \/
 (Ci (BL D z)/\∃ R,NW (BL D z) R/\((6<R.length/\h=3/\L=[])\/(R.length<=6/\h=0/\L=R)))
theorem Yt {E D L:lI}{z:Int}(h:Cb E D z L):z=2\/z=3\/z=0:=by
 rcases h with⟨-,h,-⟩|⟨-,R,-,⟨-,h,-⟩|⟨-,h,-⟩⟩
 · exact .inl h
 · exact .inr (.inl h)
 exact .inr (.inr h)
theorem fo {I D L:lI}{H:Int}{w w':World}{e:Ending}(h:Y5 I D w w' e)(E:Cb I D H L):∃ v,e=.returned (.tuple #[v,.int .i64 H])/\Bn w' w.heap.size v L/\zW w w':=by
 obtain⟨z,⟨K,rfl⟩|⟨Q,R,O,h⟩⟩:=h
 ·
  rcases E with⟨-,rfl,rfl⟩|⟨h,-⟩
  · exact⟨_,rfl,qQ _ _ _ _,z⟩
  exact absurd h K
 rcases E with⟨h,-⟩|⟨-,Y,W,J⟩
 · exact absurd Q h
 obtain rfl:=ZR O W;rcases h with⟨U,rfl⟩|⟨U,v,rfl,N⟩
 ·
  rcases J with⟨-,rfl,rfl⟩|⟨V,-⟩
  · exact⟨_,rfl,qQ _ _ _ _,z⟩
  omega
 rcases J with⟨V,-⟩|⟨-,rfl,rfl⟩
 · omega
 exact⟨v,rfl,N,z⟩
def Kv (cs:List lI)(j:Nat):Prop:=j<=8/\(∀ i,i<j->Ae cs i≠[])/\(j=8\/Ae cs j=[])
def leL (x y:Int×Int):Bool:=decide (y.2<x.2\/(y.2=x.2/\y.1<=x.1))
theorem Zq (L:lI):∃ l,l.Perm L/\DR l:=by
 refine⟨L.mergeSort leL,List.mergeSort_perm L leL,fun i j x y E h z=>?_⟩;have D:=List.pairwise_mergeSort (le:=leL) (fun a b c I H=>by simp only[leL,decide_eq_true_eq]at *;omega) (fun a b=>by simp only[leL,Bool.or_eq_true,decide_eq_true_eq];omega) L;have:=xC.1 D i j (Af h) (Af z) E;rw[(vK.1 h).2,(vK.1 z).2]at this;exact vM this
theorem SQ {L R:lI}(D:GH L L.length R):NW L R:=by
 obtain⟨l,h,z⟩:=Zq L;exact⟨l,h,z,UZ D h z⟩
theorem NW.one {P L D:lI}(J:NW P L)(I:NW P D):L=D:=by
 obtain⟨l,H,h,rfl⟩:=J;obtain⟨K,E,z,rfl⟩:=I;refine MH (NB h) (NB z) fun a=>?_
 rw[List.mem_reverse,List.mem_reverse,Tz H h,Tz E z]
theorem JX:Jf Cb where
 ok:=fun I H L N Q h=>by
  rcases h with⟨-,h,-⟩|⟨D,R,⟨l,J,K,rfl⟩,⟨-,h,-⟩|⟨E,-,rfl⟩⟩
  · omega
  · omega
  have Z:=Tp K (by rw[J.length_eq];exact Sc N.1 Q.1);refine⟨by rw[xJ];exact Z,E,fun a U=>?_⟩;rcases PP l [] a (List.mem_reverse.1 U)with h|h
  · cases h
  exact D a (J.mem_iff.1 h)
 num:=fun I H c L h=>by
  rcases Yt h with h|h|h <;> omega
 one:=fun I H c L ad ai _ _ h z=>by
  rcases h with⟨h,rfl,rfl⟩|⟨D,R,ab,h⟩
  ·
   rcases z with⟨-,rfl,rfl⟩|⟨O,-⟩
   · exact⟨rfl,rfl⟩
   exact absurd O h
  rcases z with⟨W,-⟩|⟨-,ac,Y,z⟩
  · exact absurd D W
  obtain rfl:=ab.one Y;rcases h with⟨E,rfl,rfl⟩|⟨E,rfl,rfl⟩
  ·
   rcases z with⟨-,rfl,rfl⟩|⟨V,-⟩
   · exact⟨rfl,rfl⟩
   omega
  rcases z with⟨V,-⟩|⟨-,rfl,rfl⟩
  · omega
  exact⟨rfl,rfl⟩
def Ct (per:Int)(L:lI)(o:Option Int):Prop:=(∃ d,o=some d/\Gt per L d/\Gy L*per<=1000)\/(o=none/\1000<Gy L*per)
def Dl (per:Int)(L:lI)(o:Option Int):Prop:=(∃ n,o=some (per*n)/\Mo per L n)\/(o=none/\Pj per L)
theorem Gt.le {per d h:Int}{L:lI}(J:Ak L)(K:1<=per)(I:Gt per L d)(H:Gt per L h):d<=h:=by
 obtain⟨k,e,E,-,-,-⟩:=I.at_;obtain⟨D,z⟩:=gK L k J E;have u:=H.upper _ D;have m:=qP z (show 0<=per by omega);unfold Eb at e;omega
theorem Ti (per:Int)(L:lI)(o E:Option Int)(J:Ak L)(D:1<=per)(_:per<=1000)(N:Ct per L o)(I:Ct per L E):o=E:=by
 rcases N with⟨d,rfl,h,O⟩|⟨rfl,O⟩
 ·
  rcases I with⟨H,rfl,z,-⟩|⟨-,K⟩
  · have Q:=h.le J D z;have U:=z.le J D h;rw[show d=H by omega]
  omega
 rcases I with⟨H,-,-,K⟩|⟨rfl,-⟩
 · omega
 rfl
theorem Mo.le {per n m:Int}{L:lI}(I:Ak L)(E:1<=per)(H:Mo per L n)(z:Mo per L m):n<=m:=by
 rcases vV m n with J|D
 ·
  rcases H.least with h|h
  · have:=z.one;omega
  have:=Zb I E z.one (show m<=n-1 by omega) z.is_;rw[this]at h;cases h
 exact D
theorem VG (per:Int)(L:lI)(o E:Option Int)(I:Ak L)(D:1<=per)(_:per<=1000)(J:Dl per L o)(H:Dl per L E):o=E:=by
 rcases J with⟨n,rfl,z⟩|⟨rfl,z⟩
 ·
  rcases H with⟨m,rfl,h⟩|⟨-,h⟩
  · have K:=z.le I D h;have N:=h.le I D z;rw[show n=m by omega]
  have:=h n z.one z.most;rw[z.is_]at this;cases this
 rcases H with⟨m,-,h⟩|⟨rfl,-⟩
 · have:=z m h.one h.most;rw[h.is_]at this;cases this
 rfl
open Go.Lib
structure Scr where
 cs:List lI
 kb:List UInt8
 per:Int
 ns:List Int
 ps:List Pk
structure Bq (s:Scr):Prop where
 gate:GA s.cs (kindOf s.kb) s.per s.ns
 pks:Al s.ps
def Gv:List UInt8:=[102,105,102,111]
def Cr:Scr:=⟨LQ,Gv,1,[],[]⟩
def jq:List Int:=[1,1,1,1,1,1,1,1]
def Bh (k:List UInt8):List Int:=if k=Gv then []else jq
theorem dN:GA LQ 1 1 []:=⟨rfl,fun i ls _ h=>.inl (x8 (q9 h)),by decide,by decide,.inl ⟨rfl,.inr ⟨rfl,rfl⟩⟩⟩
theorem OD:Bq Cr:=⟨dN,FD⟩
theorem DL.len {k:Nat}{ns:List Int}(h:DL k ns 0):(k=1/\ns=[])\/ns.length=8:=by
 rcases h with⟨h,⟨e,-⟩|⟨-,e⟩⟩|⟨-,⟨e,-⟩|⟨e,-⟩|⟨-,h⟩⟩|⟨-,⟨e,-⟩|⟨e,-⟩|⟨-,h⟩⟩|⟨-,⟨e,-⟩|⟨e,-⟩|⟨-,h⟩⟩|⟨-,⟨e,-⟩|⟨e,-⟩|⟨-,h⟩⟩
 · cases e
 · exact .inl ⟨h,e⟩
 · cases e
 · cases e
 · exact .inr h.1
 · cases e
 · cases e
 · exact .inr h.1
 · cases e
 · cases e
 · exact .inr h.1
 · cases e
 · cases e
 exact .inr h.1
def Nj (s:Scr)(ws:List (List UInt8))(c:Int)(s1:Scr):Prop:=
 (Em (ws.headD [])=none/\c=1/\s1=s) \/
 ∃ f,Em (ws.headD [])=some f /\ ((Er ws.tail=none /\ c=1 /\ s1=s) \/
  ∃ l,Er ws.tail=some l /\ s1={ s with cs:=s.cs.set f.toNat l } /\ ((l=[] /\ c=0) \/ (l ≠ [] /\ ∃ p,Ch l c p)))
def QL (s:Scr)(ws:List (List UInt8))(c:Int)(s1:Scr):Prop:=
 (ws.length≠2/\c=1/\s1=s) \/
 ∃ k n,ws=[k,n] /\ ((Fp n=none /\ c=1 /\ s1=s) \/
  ∃ per,Fp n=some per /\ s1={ s with kb:=k,per:=per,ns:=Bh k } /\ ∃ d p,Ea s.cs (kindOf k) per (Bh k) d p /\ ((d=9 /\ c=1) \/ (d ≠ 9 /\ c=d)))
def JL (s:Scr)(ws:List (List UInt8))(c:Int)(s1:Scr):Prop:=
 (ws.length≠8/\c=1/\s1=s) \/
 (ws.length=8/\((Ev ws=none/\c=1/\s1=s)\/∃ ns p,Ev ws=some ns/\s1={ s with ns:=ns }/\Ea s.cs (kindOf s.kb) s.per ns c p))
def Lp (s:Scr)(ws:List (List UInt8))(c:Int)(s1:Scr):Prop:=
 (ws.length≠3/\c=1/\s1=s) \/
 ∃ x y h,ws=[x,y,h] /\ ((Gs x=none /\ c=1 /\ s1=s) \/
  ∃ f,Gs x=some f /\ ((Ev [y,h]=none /\ c=1 /\ s1=s) \/
   ∃ a b p,Ev [y,h]=some [a,b] /\ s1={ s with ps:=s.ps ++ [⟨f,a,b⟩] } /\ EF (s.ps ++ [⟨f,a,b⟩]) c p))
def ZW (s:Scr)(ws:List (List UInt8))(c n:Int):Prop:=
 (ws.length≠2/\c=1) \/
 ∃ x y,ws=[x,y] /\ ((Em x=none /\ c=1) \/
  ∃ f,Em x=some f /\ ((Fp y=none /\ c=1) \/
   ∃ t p,Fp y=some t /\ Ch (Ae s.cs f.toNat) c p /\ (c=0 -> n=Bu t (Ae s.cs f.toNat))))
def dO (s:Scr)(c:Int)(l:List Sn):Prop:=
 ∃ p,KG s.cs (kindOf s.kb) s.per s.ns s.ps c p/\(c=0->∃ qs,Cy (Ae s.cs) (kindOf s.kb) s.per s.ns s.ps qs l)
def BH (qs:List Pk)(l:List Sn):List Int:=l.map fun x=>x.fin-Ar qs x.num.toNat
def Fu (qs:List Pk)(l:List Sn):Int:=match BH qs l with | []=>0 | z::zs=>zs.foldl max z
def Tf (s:Scr)(c n:Int):Prop:=
 ∃ p,KG s.cs (kindOf s.kb) s.per s.ns s.ps c p/\(c=0->∃ qs l,Cy (Ae s.cs) (kindOf s.kb) s.per s.ns s.ps qs l/\n=Fu qs l)
def CL (s:Scr)(c n:Int):Prop:=
 ∃ o,Df Cb Ct Dl s.cs (kindOf s.kb) s.per o/\((o=none/\c=4)\/(o=some n/\c=0))
def CQ:List UInt8:=[99,108,101,97,114]
def Ms:List UInt8:=[114,117,110]
def Cv:List UInt8:=[98,111,117,110,100]
def EA:List UInt8:=[119,111,114,115,116]
def BF:List UInt8:=[99,117,114,118,101]
def Cu:List UInt8:=[108,105,110,107]
def Br:List UInt8:=[110,117,109,98,101,114,115]
def Bd:List UInt8:=[112,97,99,107,101,116]
def atW:List UInt8:=[97,116]
def DW (l:List Sn):List UInt8:=if l=[]then Ha else join (l.map fun x=>Dv x.num x.beg x.fin) [32]
def Alone (s:Scr)(name:List UInt8)(c:Int)(o:List UInt8)(s1:Scr):Prop:=
 (name=CQ/\c=0/\o=AP/\s1={ s with ps:=[] }) \/
 (name=Ms/\s1=s/\∃ l,dO s c l/\(c=0->o=DW l)) \/
 (name=Cv/\s1=s/\∃ n,CL s c n/\(c=0->o=itoa n)) \/
 (name=EA/\s1=s/\∃ n,Tf s c n/\(c=0->o=itoa n)) \/
 (name≠CQ/\name≠Ms/\name≠Cv/\name≠EA/\c=1/\s1=s)
def Bp (s:Scr)(name:List UInt8)(ws:List (List UInt8))(c:Int)(o:List UInt8)(s1:Scr):Prop:=
 (name=BF/\Nj s ws c s1/\(c=0->o=AP)) \/
 (name=Cu/\QL s ws c s1/\(c=0->o=AP)) \/
 (name=Br/\JL s ws c s1/\(c=0->o=AP)) \/
 (name=Bd/\Lp s ws c s1/\(c=0->o=AP)) \/
 (name=atW/\s1=s/\∃ n,ZW s ws c n/\(c=0->o=itoa n)) \/
 (name≠BF/\name≠Cu/\name≠Br/\name≠Bd/\name≠atW/\c=1/\s1=s)
def Ju (s:Scr)(line:List UInt8)(c:Int)(o:List UInt8)(s1:Scr):Prop:=
 ((cut line [32]).2.2=true/\Bp s (cut line [32]).1 (split (cut line [32]).2.1 [32]) c o s1) \/
 ((cut line [32]).2.2=false/\Alone s (cut line [32]).1 c o s1)
def Says (s:Scr)(line out:List UInt8)(s':Scr):Prop:=
 ∃ c o s1,Ju s line c o s1/\((c=0/\out=o/\s'=s1)\/(0<c/\out=AV c/\s'=s))
def G9:Scr->List (List UInt8)->List (List UInt8)->Scr->Prop
 | s,[],h,s'=>h=[]/\s'=s
 | s,x::xs,h,s'=>∃ o s1 rest,Says s x o s1/\G9 s1 xs rest s'/\h=o::rest
theorem Ku:∀{s:Scr}{xs z:List (List UInt8)}{s1:Scr}{x o:List UInt8}{h:Scr},G9 s xs z s1->Says s1 x o h->G9 s (xs++[x]) (z++[o]) h
 | s,[],z,s1,x,o,h,D,k=>by
  obtain⟨rfl,rfl⟩:=D;exact⟨o,h,[],k,⟨rfl,rfl⟩,rfl⟩
 | s,y::J,z,s1,x,o,h,D,k=>by
  obtain⟨I,t,rest,H,E,rfl⟩:=D;exact⟨I,t,rest++[o],H,Ku E k,rfl⟩
theorem IE:∀{s:Scr}{xs h:List (List UInt8)}{s':Scr},G9 s xs h s'->h.length=xs.length
 | s,[],h,s',z=>by simp[z.1]
 | s,x::xs,h,s',z=>by
  obtain⟨o,s1,rest,E,D,rfl⟩:=z;simp[IE D]
theorem Vs (D:oA)(n z:Nat)(h:TypeId)(v:Value)(w:World):Calls Tryz.prog 55 #[.slice D n z,.iface h v] w fun e w'=>e=.returned (.tuple #[Ad [],.iface h v])/\w'=w:=by
 go_in
 go_wp2
 go_ret2;exact⟨rfl,rfl⟩
theorem Tm (z:oA)(h:Nat)(w:World):Calls Tryz.prog 55 #[.slice z 0 h,.nilIface] w fun e w'=>e=.returned (.tuple #[Ad Ha,.nilIface])/\w'=w:=by
 go_in
 go_wp2
 go_ret2;exact⟨rfl,rfl⟩
theorem Tryz.infoStr:(Tryz.prog.info? 9).map (fun i=>(i.zero,i.size,i.bytes))=some (some (.string ByteArray.empty),1,16):=by kernel_rfl
theorem SS (n:Nat)(I:n<=1000)(w':World):(Instr.makeSlice 24 (.int .i64 n) (.int .i64 n)).run Tryz.prog w'=.ok (.slice (some ⟨w'.heap.size,0,none⟩) n n) (w'.alloc (.cells (madeCells #[.string ByteArray.empty] n) 9)):=by
 obtain⟨D,H,E,z,h⟩:=vL Tryz.infoStr;have:=yW (P:=Tryz.prog) w' 24 9 D (.string ByteArray.empty) Tryz.underlying24 H E .i64 .i64 n n (by omega) (by omega) (by rw[h];omega) (by omega);simpa[z,Value.cells]using this
def Fa (xs:List (List UInt8))(j:Nat):Value:=Ad (xs.getD j [])
theorem PS (xs:List (List UInt8))(x:List UInt8):Rx (Fa xs) xs.length (Ad x)=Fa (xs++[x]):=by
 funext i
 unfold Rx Fa;by_cases z:i=xs.length
 · subst z;simp
 rw[if_neg z];rcases qC i xs.length with h|h
 · simp[qU h]
 simp[qH h,qH (show(xs++[x]).length<=i by simp;omega)]
def I4 (l:List Sn):Prop:=∀ x∈l,∀ h,h=x.num\/h=x.beg\/h=x.fin -> -9223372036854775808<=h/\h<=9223372036854775807
theorem J7 (x y:List UInt8)(D:x.length<=1000)(z:y.length<=1000)(h:World):(Op.stringOp .add ⟨x.toArray⟩ ⟨y.toArray⟩).run Tryz.prog h=.ok (Ad (x++y)) h:=
 run_string_add_lists h x y (by omega) (by omega)
theorem gZ (l:List Sn)(z:I4 l)(D:l.length<=1000):(Go.Lib.join (l.map fun x=>Dv x.num x.beg x.fin) [32]).length<=140737488355328:=by
 have H:∀ x∈l,(Dv x.num x.beg x.fin).length<=100:=fun x h=>by
  have E:=Go.Lib.itoa_length_le x.num (z x h _ (.inl rfl)).1 (z x h _ (.inl rfl)).2;have I:=Go.Lib.itoa_length_le x.beg (z x h _ (.inr (.inl rfl))).1 (z x h _ (.inr (.inl rfl))).2;have K:=Go.Lib.itoa_length_le x.fin (z x h _ (.inr (.inr rfl))).1 (z x h _ (.inr (.inr rfl))).2;simp[Dv]
  omega
 have key:∀ r:List Sn,(∀ x∈r,(Dv x.num x.beg x.fin).length<=100)->(Go.Lib.joinTail [32] (r.map fun x=>Dv x.num x.beg x.fin)).length<=101*r.length:=by
  intro r;induction r with
  | nil=>intro _;simp[Go.Lib.joinTail]
  | cons y r J=>
   intro D;have E:=J fun x h=>D x (qG _ h)
   have I:=D y qA;simp only[Go.Lib.joinTail,yS,List.flatten_cons,qJ,vH,vU]at E ⊢;omega
 cases l with
 | nil=>simp[Go.Lib.join_nil]
 | cons y r=>
  rw[yS,Go.Lib.join_cons,qJ];have E:=key r fun x h=>H x (qG _ h)
  have I:=H y qA;simp at D
  omega
theorem ZM {wr:World}{G k:Nat}{l:List Sn}(h:BN wr G k (Fa (l.map fun x=>Dv x.num x.beg x.fin)))(z:l.length=k)(I:k<=1000)(J:I4 l):qW 77 #[.slice (some ⟨G,0,none⟩) k k,.string ⟨#[32]⟩] wr (Ad (Go.Lib.join (l.map fun x=>Dv x.num x.beg x.fin) [32])):=by
 have D:=gZ l J (by rw[z];exact I);obtain⟨xs,E⟩:=ex (l.map fun x=>Dv x.num x.beg x.fin);have K:xs.length=k:=by rw[<- E,xZ,z]
 rw[E]at h D ⊢;have:=ja G 0 k xs wr (fun i y H=>by
  have N:=Af H;rw[vC,h.cell i (by omega)];unfold Fa;rw[List.getD_eq_getElem?_getD,H];rfl) h.lt (by omega) (by omega) D
 rw[K]at this;exact this
theorem WW (ca:oA)(cn:Nat)(l:List Sn)(w:World)(bb:F9 w ca l)(b6:1<=l.length)(aS:l.length<=1000)(b5:Q3 w)(bN:I4 l):Calls Tryz.prog 55 #[.slice ca l.length cn,.nilIface] w fun e w'=>e=.returned (.tuple #[Ad (Go.Lib.join (l.map fun x=>Dv x.num x.beg x.fin) [32]),.nilIface])/\zW w w':=by
 obtain⟨b,cA,rfl,-,bj⟩:=bb.place b6;have cg:=qX bj;have co:=qX b5;have cb:=qX bN;obtain⟨n,a6⟩:=ex l.length;have av:=qX a6;rw[a6]at b6 aS ⊢;have b8:=SS n aS;have N:zW w (w.alloc (.cells (madeCells #[.string ByteArray.empty] n) 9)):=ba;have aB:BN (w.alloc (.cells (madeCells #[.string ByteArray.empty] n) 9)) w.heap.size n (Fa []):=NV w n (.string ByteArray.empty) 9;obtain⟨ci,a2⟩:=ex (w.alloc (.cells (madeCells #[.string ByteArray.empty] n) 9));rw[a2]at N aB;obtain⟨G,ar⟩:=ex w.heap.size;have cd:=qX ar;have cw:(Instr.makeSlice 24 (.int .i64 n) (.int .i64 n)).run Tryz.prog w=.ok (.slice (some ⟨G,0,none⟩) n n) ci:=by rw[b8 w,a2,ar]
 rw[ar]at aB;have bd:=qY N aB;have cq:((n:Int)==0)=false:=by simp;omega
 clear bb bj b5 bN N aB a2 b8 ar a6;go_in
 go_wp2_with fail;go_loopw [20] (fun i wr=>∃ k:Nat,k<=n/\i=.int .i64 k/\zW w wr/\BN wr G n (Fa ((l.take k).map fun x=>Dv x.num x.beg x.fin))) (fun i _=>n-(intOf i).toNat)
 case atStart=>exact⟨0,qR _,rfl,bd.o.1,bd.o.2⟩
 case round=>
  obtain⟨k,ct,rfl,Z,V⟩:=hrel;by_cases a8:k<n
  ·
   obtain⟨x,a4,bm⟩:=Ab l k (by rw[av.o];exact a8);obtain⟨b9,bv,bs⟩:=cg.o k x a4;have b0:=j7 Z b9;have d1:=j7 Z bv;have d2:=j7 Z bs;have J:=qX (cb.o x bm);have aq:(l.take (k+1)).map (fun x=>Dv x.num x.beg x.fin)=(l.take k).map (fun x=>Dv x.num x.beg x.fin)++[Dv x.num x.beg x.fin]:=by rw[vF,a4];simp
   have a0:((l.take k).map fun x=>Dv x.num x.beg x.fin).length=k:=by rw[xZ,vO,av.o];omega
   have ab:=qY Z V;have ai:Dv x.num x.beg x.fin=Go.Lib.itoa x.num++[58]++Go.Lib.itoa x.beg++[45]++Go.Lib.itoa x.fin:=by unfold Dv;rfl
   obtain⟨xs,b7⟩:=ex ((l.take k).map (fun x=>Dv x.num x.beg x.fin));obtain⟨cu,U⟩:=ex (Dv x.num x.beg x.fin);rw[b7]at aq a0 ab;rw[U]at aq ai;obtain⟨H,bx⟩:=ex x.num;obtain⟨I,bt⟩:=ex x.beg;obtain⟨E,bT⟩:=ex x.fin;rw[bx]at b0 J ai;rw[bt]at d1 J ai;rw[bT]at d2 J ai;have Q:=qZ aq a0 ai;clear Z V b9 bv bs a4 bm aq a0 ai b7 U bx bt bT;have hl1:=Go.Lib.itoa_length_le H (J.o _ (.inl rfl)).1 (J.o _ (.inl rfl)).2;have bw:=Go.Lib.itoa_length_le I (J.o _ (.inr (.inl rfl))).1 (J.o _ (.inr (.inl rfl))).2;have b1:=Go.Lib.itoa_length_le E (J.o _ (.inr (.inr rfl))).1 (J.o _ (.inr (.inr rfl))).2;have ap:Hid (∀ O h,(O=H\/O=I\/O=E)->zW wr h->qW 76 #[.int .i64 O] h (.string ⟨(Go.Lib.itoa O).toArray⟩)):=fun O h be D=>co.o h (ab.o.1.tr D) O (J.o O be).1 (J.o O be).2
   obtain⟨s1,hs1⟩:=ex (Go.Lib.itoa H);obtain⟨al,hs2⟩:=ex (Go.Lib.itoa I);obtain⟨a9,aN⟩:=ex (Go.Lib.itoa E);have b3:Hid (∀ h,zW wr h->qW 76 #[.int .i64 H] h (.string ⟨s1.toArray⟩)):=fun h D=>by rw[<- hs1];exact ap.o H h (.inl rfl) D
   have a':Hid (∀ h,zW wr h->qW 76 #[.int .i64 I] h (.string ⟨al.toArray⟩)):=fun h D=>by rw[<- hs2];exact ap.o I h (.inr (.inl rfl)) D
   have b':Hid (∀ h,zW wr h->qW 76 #[.int .i64 E] h (.string ⟨a9.toArray⟩)):=fun h D=>by rw[<- aN];exact ap.o E h (.inr (.inr rfl)) D
   rw[hs1]at hl1 Q;rw[hs2]at bw Q;rw[aN]at b1 Q;have bk:=J7 s1 [58] (by omega) (by decide);have a7:=J7 (s1++[58]) al (by simp;omega) (by omega);have ao:=J7 (s1++[58]++al) [45] (by simp;omega) (by decide);have am:=J7 (s1++[58]++al++[45]) a9 (by simp;omega) (by omega);obtain⟨cc,bl⟩:=ex (s1++[58]);rw[bl]at bk a7 ao am Q;obtain⟨ck,b4⟩:=ex (cc++al);rw[b4]at a7 ao am Q;obtain⟨ch,b2⟩:=ex (ck++[45]);rw[b2]at ao am Q;obtain⟨ac,bg⟩:=ex (ch++a9);rw[bg]at am Q;clear hl1 bw b1 hs1 hs2 aN bl b4 b2 bg ap J;go_wp2_with fail;have N:zW wr (wr.alloc (.cells #[.int .i64 H,.int .i64 I,.int .i64 E] 61)):=ba;have U:(wr.alloc (.cells #[.int .i64 H,.int .i64 I,.int .i64 E] 61)).cell? ⟨wr.heap.size,0,none⟩=some (.int .i64 H)/\(wr.alloc (.cells #[.int .i64 H,.int .i64 I,.int .i64 E] 61)).cell? ⟨wr.heap.size,1,none⟩=some (.int .i64 I)/\(wr.alloc (.cells #[.int .i64 H,.int .i64 I,.int .i64 E] 61)).cell? ⟨wr.heap.size,2,none⟩=some (.int .i64 E):=⟨by simp,by simp,by simp⟩
   obtain⟨Y,bp⟩:=ex (wr.alloc (.cells #[.int .i64 H,.int .i64 I,.int .i64 E] 61));rw[bp]at N U ⊢;obtain⟨X,aw⟩:=ex wr.heap.size;have bc:Hid (wr.heap.size=X/\G<X):=⟨aw,by rw[<- aw];exact ab.o.2.lt⟩
   rw[aw]at U ⊢;have ad:Hid (∀ h,zW Y h->h.cell? ⟨X,0,none⟩=some (.int .i64 H)/\h.cell? ⟨X,1,none⟩=some (.int .i64 I)/\h.cell? ⟨X,2,none⟩=some (.int .i64 E)):=fun h D=>⟨j7 D U.1,j7 D U.2.1,j7 D U.2.2⟩
   have aj:=qX N;have aE:Hid (∀ h,zW Y h->∃ u,h.cell? ⟨G,k,none⟩=some u/\h.frozen? ⟨G,k,none⟩=false):=fun h D=>by
    have V:=(ab.o.2.below aj.o).below D;exact⟨_,V.cell k a8,V.frozen k⟩
   have z:Hid (zW Y Y.drew):=qL br 1;have bq:Hid (∀ h,zW Y h->(h.setCell ⟨G,k,none⟩ (Ad ac)).cell? ⟨X,0,none⟩=some (.int .i64 H)/\(h.setCell ⟨G,k,none⟩ (Ad ac)).cell? ⟨X,1,none⟩=some (.int .i64 I)/\(h.setCell ⟨G,k,none⟩ (Ad ac)).cell? ⟨X,2,none⟩=some (.int .i64 E)):=fun h D=>by
    have cx:=bc.o.2;rw[j9 _ _ _ _ (fun e=>by injection e with e;omega),j9 _ _ _ _ (fun e=>by injection e with e;omega),j9 _ _ _ _ (fun e=>by injection e with e;omega)];exact ad.o h D
   have an:=ad.o _ z.o;clear N U bp aw b0 d1 d2;go_region_held3 (fun w'=>w'.cell? ⟨X,0,none⟩=some (.int .i64 H)/\w'.cell? ⟨X,1,none⟩=some (.int .i64 I)/\w'.cell? ⟨X,2,none⟩=some (.int .i64 E))
    (first | exact an | exact bq.o _ z.o)
    (first
    | (go_at_call 76;refine(b3.o _ (aj.o.tr z.o)).mono ?_;rintro e W ⟨rfl,K⟩;have z:Hid (zW Y W):=z.o.tr K;have an:=ad.o _ z.o;obtain⟨u6,a1,a5⟩:=aE.o _ z.o;clear K)
    | (go_at_call 76;refine(a'.o _ (aj.o.tr z.o)).mono ?_;rintro e W ⟨rfl,K⟩;have z:Hid (zW Y W):=z.o.tr K;have an:=ad.o _ z.o;obtain⟨u6,a1,a5⟩:=aE.o _ z.o;clear K)
    | (go_at_call 76;refine (b'.o _ (aj.o.tr z.o)).mono ?_;rintro e W ⟨rfl,K⟩;have z:Hid (zW Y W):=z.o.tr K;have an:=ad.o _ z.o;obtain ⟨u6,a1,a5⟩:=aE.o _ z.o;clear K))
   have a3:Hid (zW w (W.setCell ⟨G,k,none⟩ (.string ⟨ac.toArray⟩))/\BN (W.setCell ⟨G,k,none⟩ (.string ⟨ac.toArray⟩)) G n (Fa ((l.take (k+1)).map fun x=>Dv x.num x.beg x.fin))):=by
    have K:=aj.o.tr z.o;obtain⟨cf,ce,cj⟩:=Q.o;refine⟨En (ab.o.1.tr K) (by show w.heap.size<=G;rw[cd.o];exact lr) _,?_⟩;rw[cf,<- PS,ce,cj];exact(ab.o.2.below K).put a8 _
   obtain⟨cy,bh⟩:=ex (W.setCell ⟨G,k,none⟩ (.string ⟨ac.toArray⟩));rw[bh]at a3 ⊢;clear bh an a1 a5 z bq ad aE aj bc b3 a' b' bk a7 ao am Q ab;go_wp2
   go_roundw
   case rel=>exact⟨k+1,by omega,by go_num,a3.o.1,a3.o.2⟩
   case measure=>simp[intOf];omega
  obtain rfl:k=n:=by omega
  rw[show l.take k=l by rw[<- av.o,xA]]at V;have cm:=qX Z;have cp:=qX (ZM V av.o aS cb.o);clear V Z;go_wp2_with fail;refine cp.o.mono ?_
  rintro e cv ⟨rfl,N⟩;have cl:=qX (cm.o.tr N);clear N;go_wp2
  go_ret2;exact⟨rfl,cl.o⟩
end Go.Proofs.YtejlihcdfffafaaGreatDoor
