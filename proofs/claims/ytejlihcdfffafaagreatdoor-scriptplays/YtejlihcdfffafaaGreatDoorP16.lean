import Derived.Test.YtejlihcdfffafaaGreatDoorP15
set_option maxHeartbeats 1000000
set_option maxRecDepth 100000
namespace Go.Proofs.YtejlihcdfffafaaGreatDoor
def miss (x n:Int):Int:=max (n-x) 0
def Cc (p q:Int×Int)(n:Int):Bool:=
 if miss q.1 n=0 then decide (0<miss p.1 n)else decide (miss q.1 n*p.2<miss p.1 n*q.2)
def lastOf (n:Int):Int×Int->lI->Int×Int
 | x,[]=>x
 | x,y::r=>lastOf n (if Cc y x n=true then y else x) r
def Bv (n:Int):lI->Int×Int
 | []=>(0,0)
 | p::r=>lastOf n p r
def Cs (p:Int×Int)(n:Int):Int:=if miss p.1 n=0 then 0 else(miss p.1 n*1000+p.2-1)/p.2
theorem FZ (x n:Int):0<=miss x n:=by unfold miss;omega
theorem J9 {p q:Int×Int}{n:Int}(h:Cc p q n=false):(miss q.1 n=0->miss p.1 n=0)/\(miss q.1 n≠0->miss p.1 n*q.2<=miss q.1 n*p.2):=by
 unfold Cc at h;have:=FZ p.1 n;split at h
 · next hq=>exact⟨fun _=>by have:=xE h;omega,fun z=>absurd hq z⟩
 next hq=>exact⟨fun z=>absurd z hq,fun _=>by have:=xE h;omega⟩
theorem NC {p q:Int×Int}{n:Int}(z:miss q.1 n=0->miss p.1 n=0)(h:miss q.1 n≠0->miss p.1 n*q.2<=miss q.1 n*p.2):Cc p q n=false:=by
 unfold Cc;split
 · next hq=>have:=z hq;exact qF (by omega)
 next hq=>have:=h hq;exact qF (by omega)
theorem VS {p q:Int×Int}{n:Int}(h:Cc p q n=true):(miss q.1 n=0->0<miss p.1 n)/\(miss q.1 n≠0->miss q.1 n*p.2<miss p.1 n*q.2):=by
 unfold Cc at h;split at h
 · next hq=>exact⟨fun _=>vM h,fun z=>absurd hq z⟩
 next hq=>exact⟨fun z=>absurd z hq,fun _=>vM h⟩
theorem OE (p:Int×Int)(n:Int):Cc p p n=false:=NC (fun h=>h) (fun _=>q8 _)
theorem aF {m k l u v t:Int}(z:0<=m)(D:0<k)(E:0<=l)(I:m*u<=k*v)(H:k*t<l*u):m*t<=l*v:=by
 rcases vV (l*v) (m*t)with h|h
 ·
  have a:=Int.mul_lt_mul_of_pos_left h D;have b:=qP I E;have c:=qP (yJ H) z;have N:k*(m*t)=m*(k*t):=by ac_rfl
  have J:m*(l*u)=l*(m*u):=by ac_rfl
  have K:l*(k*v)=k*(l*v):=by ac_rfl
  omega
 exact h
theorem Xg {x y h:Int×Int}{n:Int}(Q:0<=y.2)(W:0<=h.2)(U:Cc y x n=false)(O:Cc h x n=true):Cc y h n=false:=by
 obtain⟨Z,N⟩:=J9 U;obtain⟨ab,I⟩:=VS O;have K:=FZ y.1 n;have H:=FZ h.1 n;have V:=FZ x.1 n;by_cases z:miss x.1 n=0
 · have D:=Z z;refine NC (fun _=>D) (fun _=>?_);rw[D,Int.zero_mul];exact vG H Q
 have J:=N z;have E:=I z;refine NC (fun Y=>?_) (fun _=>aF K (by omega) H J E);rw[Y,Int.zero_mul]at E;have:=vG V W;omega
theorem Py (n:Int)(r:lI):∀ x,lastOf n x r=x\/lastOf n x r∈r:=by
 induction r with
 | nil=>intro x;exact .inl rfl
 | cons y r z=>
  intro x;show lastOf n (if Cc y x n=true then y else x) r=x\/lastOf n (if Cc y x n=true then y else x) r∈y::r
  rcases z (if Cc y x n=true then y else x)with h|h
  ·
   rw[h];split
   · exact .inr (qA ..)
   exact .inl rfl
  exact .inr (qG _ h)
theorem FY (n:Int)(ls:lI)(h:1<=ls.length):Bv n ls∈ls:=by
 cases ls with
 | nil=>simp at h
 | cons p r=>
  show lastOf n p r∈p::r
  rcases Py n r p with h|h
  · rw[h];exact qA ..
  exact qG _ h
theorem WK (n:Int)(r:lI):∀ x,(∀ p,p∈x::r->0<=p.2)->∀ y,(0<=y.2/\Cc y x n=false)\/y∈r->Cc y (lastOf n x r) n=false:=by
 induction r with
 | nil=>
  intro x _ y h;rcases h with h|h
  · exact h.2
  cases h
 | cons z r J=>
  intro x H y h;show Cc y (lastOf n (if Cc z x n=true then z else x) r) n=false
  have I:=H z (qG _ (qA ..));by_cases E:Cc z x n=true
  ·
   rw[if_pos E];refine J z (fun p D=>H p (qG _ D)) y ?_
   rcases h with h|h
   · exact .inl ⟨h.1,Xg h.1 I h.2 E⟩
   rcases qS.1 h with rfl|h
   · exact .inl ⟨I,OE _ _⟩
   exact .inr h
  rw[if_neg E];have K:Cc z x n=false:=by simpa using E
  refine J x (fun p D=>H p (by rcases qS.1 D with rfl|D;exact qA ..;exact qG _ (qG _ D))) y ?_
  rcases h with h|h
  · exact .inl h
  rcases qS.1 h with rfl|h
  · exact .inl ⟨I,K⟩
  exact .inr h
theorem Sv (n:Int)(ls:lI)(z:∀ p,p∈ls->0<=p.2)(y:Int×Int)(h:y∈ls):Cc y (Bv n ls) n=false:=by
 cases ls with
 | nil=>cases h
 | cons p r=>
  refine WK n r p z y ?_
  rcases qS.1 h with rfl|h
  · exact .inl ⟨z _ (qA ..),OE _ _⟩
  exact .inr h
theorem Ue {m r t:Int}(h:0<r):(m*1000+r-1)/r<=t↔m*1000<=r*t:=by
 have H:=Int.mul_ediv_self_le (x:=m*1000+r-1) (k:=r) (by omega);have E:=Int.lt_mul_ediv_self_add (x:=m*1000+r-1) (k:=r) h;generalize (m*1000+r-1)/r=q at *;constructor
 · intro D;have:=qP D (yJ h);omega
 intro D;rcases vV t q with z|z
 · have:=qP (show t+1<=q by omega) (yJ h);rw[yY]at this;omega
 exact z
theorem QJ {t x y n:Int}:n<=BQ t x y↔1000*(n-x)<=y*t:=by
 unfold BQ;omega
theorem Q0 {x n:Int}(h:miss x n≠0):miss x n=n-x/\0<n-x:=by unfold miss at *;omega
theorem az {x n:Int}(h:miss x n=0):n<=x:=by unfold miss at h;omega
theorem gK (ls:lI)(n:Int)(J:Ak ls)(z:miss (Bv n ls).1 n=0\/0<(Bv n ls).2):0<=Cs (Bv n ls) n/\n<=Bu (Cs (Bv n ls) n) ls:=by
 have H:∀ p,p∈ls->0<=p.2:=fun p E=>(AA (J.2.2 p E)).2.2.1
 have O:=Sv n ls H;generalize Bv n ls=h at *;have I:0<=Cs h n:=by
  unfold Cs;split
  · exact q8 _
  next D=>
  obtain⟨an,al⟩:=Q0 D;rcases z with z|z
  · exact absurd z D
  exact Int.ediv_nonneg (by omega) (by omega)
 refine⟨I,?_⟩;obtain⟨p,E,e⟩:=JV (Cs h n) ls J.1;rw[e,QJ];obtain⟨Q,N⟩:=J9 (O p E);by_cases D:miss h.1 n=0
 · have:=az (Q D);have:=vG (H p E) I;omega
 have K:0<h.2:=by
  rcases z with z|z
  · exact absurd z D
  exact z
 have U:h.2*Cs h n>=miss h.1 n*1000:=by
  have:=(Ue (m:=miss h.1 n) (t:=Cs h n) K).1 (by unfold Cs;rw[if_neg D];exact q8 _);exact this
 have ab:=N D;have aj:n-p.1<=miss p.1 n:=by unfold miss;omega
 have V:=H p E;generalize Cs h n=C at *;generalize miss h.1 n=k at *;generalize miss p.1 n=m at *
 -- h.2*(p.2*C)=p.2*(h.2*C)>=p.2*(k*1000)>=1000*(m*h.2)
 rcases vV (p.2*C) (1000*(n-p.1))with ao|W
 ·
  have Z:=qP (show k*1000<=h.2*C from U) V;have ad:p.2*(k*1000)=1000*(k*p.2):=by ac_rfl
  have ac:p.2*(h.2*C)=h.2*(p.2*C):=by ac_rfl
  have Y:m*h.2=h.2*m:=xK _ _;have am:=Int.mul_lt_mul_of_pos_left (show p.2*C<1000*m by omega) K;have ai:h.2*(1000*m)=1000*(h.2*m):=by ac_rfl
  omega
 exact W
def turns (per:Int)(ls:lI)(n:Int):Bool:=decide (0<miss (Bv n ls).1 n/\(Bv n ls).2*per<=1000)
theorem QQ {per t n k:Int}{ls:lI}(z:Ak ls)(ad:1<=per)(aj:0<=t)(K:turns per ls k=false)(N:n<=k)(I:n<=Bu t ls):(miss (Bv k ls).1 k=0\/0<(Bv k ls).2)/\per*n-t<=per*k-Cs (Bv k ls) k:=by
 have H:=FY k ls z.1;have W:=AA (z.2.2 _ H);have J:=Int.le_trans I (J2 t ls _ H);have Q:=xE K;generalize Bv k ls=h at *;have Z:=qP N (show 0<=per by omega);have ab:=FZ h.1 k;by_cases D:miss h.1 k=0
 · refine⟨.inl D,?_⟩;unfold Cs;rw[if_pos D];omega
 have O:1000<h.2*per:=by
  rcases vV 1000 (h.2*per)with z|z
  · exact z
  exact absurd ⟨by omega,z⟩ Q
 have E:0<h.2:=by
  rcases vV 0 h.2 with z|z
  · exact z
  have:h.2=0:=by omega
  rw[this,Int.zero_mul]at O;omega
 refine⟨.inr E,?_⟩;obtain⟨U,ai⟩:=Q0 D;have:Cs h k<=t+per*(k-n):=by
  unfold Cs;rw[if_neg D,Ue E,U,yY];have V:=QJ.1 J;have ac:=vT (show 1000<=h.2*per by omega) (show 0<=k-n by omega);have Y:h.2*per*(k-n)=h.2*(per*(k-n)):=Int.mul_assoc _ _ _;omega
 rw[xW]at this;omega
theorem OG {per t n k:Int}{ls:lI}(z:Ak ls)(I:turns per ls k=true)(U:k<=n)(J:n<=Bu t ls):0<(Bv k ls).2/\per*n-t<=per*k-Cs (Bv k ls) k:=by
 have D:=FY k ls z.1;have W:=AA (z.2.2 _ D);have O:=Int.le_trans J (J2 t ls _ D);have Q:=vM I;generalize Bv k ls=h at *;have H:miss h.1 k≠0:=by omega
 obtain⟨K,Y⟩:=Q0 H;have N:=QJ.1 O;have E:0<h.2:=by
  rcases vV 0 h.2 with z|z
  · exact z
  have:h.2=0:=by omega
  rw[this,Int.zero_mul]at N;omega
 refine⟨E,?_⟩;have:Cs h k<=t-per*(n-k):=by
  unfold Cs;rw[if_neg H,Ue E,K,xW];have V:=vT Q.2 (show 0<=n-k by omega);have Z:h.2*per*(n-k)=h.2*(per*(n-k)):=Int.mul_assoc _ _ _;omega
 rw[xW]at this;omega
def Dh:Int->lI->Int
 | m,[]=>m
 | m,p::r=>Dh (min m p.2) r
def Gy:lI->Int
 | []=>0
 | p::r=>Dh p.2 r
theorem Qo (l:lI):∀(m:Int)(p:Int×Int),Dh m (l++[p])=min (Dh m l) p.2:=by
 induction l with
 | nil=>intro m p;rfl
 | cons q r h=>intro m p;exact h _ p
theorem TW (l:lI):∀ m:Int,Dh m l=m\/∃ p,p∈l/\Dh m l=p.2:=by
 induction l with
 | nil=>intro m;exact .inl rfl
 | cons q r D=>
  intro m;show Dh (min m q.2) r=m\/∃ p,p∈q::r/\Dh (min m q.2) r=p.2
  rcases D (min m q.2)with h|⟨p,z,h⟩
  ·
   rw[h];by_cases E:m<=q.2
   · exact .inl (by omega)
   exact .inr ⟨q,qA ..,by omega⟩
  exact .inr ⟨p,qG _ z,h⟩
theorem SA (ls:lI)(h:1<=ls.length):∃ p,p∈ls/\Gy ls=p.2:=by
 cases ls with
 | nil=>simp at h
 | cons q r=>
  rcases TW r q.2 with h|⟨p,z,h⟩
  · exact⟨q,qA ..,h⟩
  exact⟨p,qG _ z,h⟩
theorem aK {per:Int}{ls:lI}(h:Ak ls)(O:1<=per)(N:Gy ls*per<=1000):turns per ls 20019999=true:=by
 have U:=FY 20019999 ls h.1;have W:∀ p,p∈ls->0<=p.2:=fun p Y=>(AA (h.2.2 p Y)).2.2.1
 have J:=Sv 20019999 ls W;have ab:=AA (h.2.2 _ U);obtain⟨s,D,K⟩:=SA ls h.1;rw[K]at N;have H:=AA (h.2.2 s D);have I:=J s D;unfold turns;generalize Bv 20019999 ls=z at *;have V:miss z.1 20019999=20019999-z.1:=by unfold miss;omega
 have Q:miss s.1 20019999=20019999-s.1:=by unfold miss;omega
 refine qM ⟨by omega,?_⟩;rcases vV 1000 (z.2*per)with E|E
 ·
  exfalso
  have ad:s.2<z.2:=by
   rcases vV s.2 z.2 with h|h
   · exact h
   have:=vT h (show 0<=per by omega);omega
  have hs1:s.2<=1000:=by
   have:=qP O H.2.2.1;omega
  have:=(J9 I).2 (by omega);rw[V,Q]at this;have ac:=vT (show 19999999<=20019999-s.1 by omega) (show 0<=z.2 by omega);have Z:=vT (show 20019999-z.1<=20019998 by omega) H.2.2.1;omega
 exact E
theorem bD {per:Int}{ls:lI}(h:Ak ls):turns per ls 1=false:=by
 have z:=FY 1 ls h.1;have E:=AA (h.2.2 _ z);unfold turns;generalize Bv 1 ls=D at *;refine qF fun h=>?_
 have:=h.1;unfold miss at this;omega
def IR (per:Int)(ls:lI)(n:Int):Bool:=decide (Bu (per*n) ls<=n)
theorem bJ {per n:Int}{ls:lI}(h:Ak ls)(O:1<=per)(N:1<=n)(J:IR per ls n=true):∃ p,p∈ls/\p.1<=n/\p.2*per<1000/\p.2*(per*n)<1000*(n-p.1+1):=by
 have D:=vM J;obtain⟨p,E,e⟩:=JV (per*n) ls h.1;rw[e]at D;have H:=AA (h.2.2 p E);unfold BQ at D;have I:p.2*(per*n)<1000*(n-p.1+1):=by omega
 have K:p.2*per<1000:=by
  rcases vV (p.2*per) 1000 with h|h
  · exact h
  have:=vT h (show 0<=n by omega);rw[Int.mul_assoc]at this;omega
 refine⟨p,E,?_,K,I⟩;rcases vV n p.1 with z|z
 · have:=vG H.2.2.1 (vG (show 0<=per by omega) (show 0<=n by omega));omega
 exact z
theorem Z8 {per n:Int}{ls:lI}(H:Ak ls)(D:1<=per)(h:1<=n)(E:IR per ls n=true):IR per ls (n+1)=true:=by
 obtain⟨p,z,_,J,I⟩:=bJ H D h E;have:=J2 (per*(n+1)) ls p z;refine qM ?_
 unfold BQ at this;have e:p.2*(per*(n+1))=p.2*(per*n)+p.2*per:=by rw[yY,yY,Int.mul_one]
 rw[e]at this;omega
theorem jh {per:Int}{ls:lI}(H:Ak ls)(D:1<=per)(k:Nat):∀ n:Int,1<=n->IR per ls n=true->IR per ls (n+k)=true:=by
 induction k with
 | zero=>intro n _ h;simpa using h
 | succ k E=>
  intro n z h;have:=E (n+1) (by omega) (Z8 H D z h);rw[show n+((k+1:Nat):Int)=n+1+k by omega];exact this
theorem Zb {per m n:Int}{ls:lI}(E:Ak ls)(z:1<=per)(h:1<=m)(H:m<=n)(D:IR per ls m=true):IR per ls n=true:=by
 have:=jh (per:=per) E z (n-m).toNat m h D;rw[show m+((n-m).toNat:Int)=n by omega]at this;exact this
open Go.RowKit
theorem kD (x n:Int):(if n-x<0 then 0 else n-x)=miss x n:=by unfold miss;split <;> omega
theorem Nu {x n:Int}(z:1<=x)(h:0<=n):0<=miss x n/\miss x n<=n:=by unfold miss;omega
theorem Hd (x y n:Int)(w:World)(E:1<=x)(H:x<=20000)(z:0<=n)(D:n<=20020000):Calls Tryz.prog 64 #[.agg #[.int .i64 x,.int .i64 y],.int .i64 n] w fun e w'=>e=.returned (.int .i64 (miss x n))/\zW w w':=by
 go_in
 go_wp2
 all_goals
  go_ret;exact⟨congrArg (fun h=>Ending.returned (.int .i64 h)) (by unfold miss;omega),ba⟩
theorem Ws {p q:Int×Int}{n:Int}(h:miss q.1 n=0):Cc p q n=decide (0<miss p.1 n):=by unfold Cc;rw[if_pos h]
theorem U3 {p q:Int×Int}{n:Int}(h:miss q.1 n≠0):Cc p q n=decide (miss q.1 n*p.2<miss p.1 n*q.2):=by unfold Cc;rw[if_neg h]
theorem Za {m y:Int}(D:0<=m)(z:m<=20020000)(h:0<=y)(E:y<=100000):0<=m*y/\m*y<=2002000000000:=by
 refine⟨vG D h,?_⟩;have a:=vT z h;omega
theorem Og (x y h z n:Int)(w:World)(ac:1<=x)(a1:x<=20000)(a5:0<=y)(aw:y<=100000)(ad:1<=h)(ar:h<=20000)(a9:0<=z)(a8:z<=100000)(I:0<=n)(am:n<=20020000):Calls Tryz.prog 85 #[.agg #[.int .i64 x,.int .i64 y],.agg #[.int .i64 h,.int .i64 z],.int .i64 n] w fun e w'=>e=.returned (.bool (Cc (x,y) (h,z) n))/\zW w w':=by
 have ao:zW w ((w.alloc (.cells #[.int .i64 x,.int .i64 y] 66)).alloc (.cells #[.int .i64 h,.int .i64 z] 66)):=ba.alloc (by simp) _;have aN:((w.alloc (.cells #[.int .i64 x,.int .i64 y] 66)).alloc (.cells #[.int .i64 h,.int .i64 z] 66)).cell? ⟨w.heap.size,0,none⟩=some (.int .i64 x):=by simp
 have Z:((w.alloc (.cells #[.int .i64 x,.int .i64 y] 66)).alloc (.cells #[.int .i64 h,.int .i64 z] 66)).cell? ⟨w.heap.size,1,none⟩=some (.int .i64 y):=by simp
 have an:((w.alloc (.cells #[.int .i64 x,.int .i64 y] 66)).alloc (.cells #[.int .i64 h,.int .i64 z] 66)).cell? ⟨w.heap.size+1,0,none⟩=some (.int .i64 h):=by simp
 have U:((w.alloc (.cells #[.int .i64 x,.int .i64 y] 66)).alloc (.cells #[.int .i64 h,.int .i64 z] 66)).cell? ⟨w.heap.size+1,1,none⟩=some (.int .i64 z):=by simp
 have ab:=Nu ac I;have al:=Nu ad I;go_in
 go_upto_region 1 with fail
 generalize (w.alloc (.cells #[.int .i64 x,.int .i64 y] 66)).alloc (.cells #[.int .i64 h,.int .i64 z] 66)=N at *;have a7:=qX ao;clear ao;go_cut [7,8] (fun a2 aS aB=>a2=.int .i64 (miss x n)/\aS=.int .i64 (miss h n)/\zW N aB)
 case first=>
  go_region_with (first
   | (go_at_call_of 64 (Value.agg #[.int .i64 h,.int .i64 z]);go_must (refine(Hd h z n _ ad ar I am).mono ?_;rintro e aE ⟨rfl,aj⟩;have a0:Hid (zW N aE):=Q.o.tr aj;clear aj))
   | (go_at_call_of 64 (Value.agg #[.int .i64 x,.int .i64 y]);go_must (refine(Hd x y n _ ac a1 I am).mono ?_;rintro e a3 ⟨rfl,D⟩;have Q:Hid (zW N a3):=⟨D.os,D.tape,D.output,D.size,D.block⟩;have d2:=j7 Q.o an;have d3:=j7 Q.o U;clear D))
   | fail)
  all_goals (go_wp2_with fail;go_meet;exact⟨rfl,rfl,a0.o⟩)
 case rest=>
 obtain⟨rfl,rfl,H⟩:=hcut;have ai:=qX (a7.o.tr H);have bk:=j7 H Z;have be:=j7 H U;clear H aN Z an U;have a':Hid (miss (h,z).1 n=0->Cc (x,y) (h,z) n=decide (0<miss x n)):=fun O=>Ws O
 have a4:Hid (miss (h,z).1 n≠0->Cc (x,y) (h,z) n=decide (miss h n*y<miss x n*z)):=fun O=>U3 O
 obtain⟨A,W⟩:=ex (miss x n);obtain⟨B,K⟩:=ex (miss h n);have ap:=qX W;have J:=qX K;rw[W]at ab ⊢;rw[K]at al ⊢;clear W K;obtain⟨a6,bh⟩:=ab;obtain⟨av,bb⟩:=al;obtain⟨bg,bc⟩:=Za a6 (by omega) a9 a8;obtain⟨bd,bj⟩:=Za av (by omega) a5 aw;by_cases E:B=0
 ·
  have aq:(B==0)=true:=by simpa using E
  have Y:Hid (Cc (x,y) (h,z) n=decide (0<A)):=by show _=_;rw[a'.o (by show miss h n=0;rw[J.o];exact E),ap.o]
  clear E;go_wp2
  go_ret;exact⟨congrArg (fun V=>Ending.returned (.bool V)) Y.o.symm,ai.o⟩
 have aq:(B==0)=false:=by simpa using E
 have Y:Hid (Cc (x,y) (h,z) n=decide (B*y<A*z)):=by show _=_;rw[a4.o (by show miss h n≠0;rw[J.o];exact E),ap.o,J.o]
 clear E;go_wp2
 go_ret;exact⟨congrArg (fun V=>Ending.returned (.bool V)) Y.o.symm,ai.o⟩
theorem bR (x y n:Int)(w:World)(I:1<=x)(O:x<=20000)(ai:0<=y)(ac:y<=100000)(K:0<=n)(Q:n<=20020000)(N:miss x n=0\/0<y):Calls Tryz.prog 86 #[.agg #[.int .i64 x,.int .i64 y],.int .i64 n] w fun e w'=>e=.returned (.int .i64 (Cs (x,y) n))/\zW w w':=by
 have V:=Nu I K;obtain⟨A,E⟩:=ex (miss x n);have W:=qX E;have U:Hid (Cs (x,y) n=if A=0 then 0 else(A*1000+y-1)/y):=by show _=_;unfold Cs;rw[show miss (x,y).1 n=A from E]
 rw[E]at V N;clear E;obtain⟨aj,al⟩:=V;by_cases z:A=0
 ·
  subst z;go_in
  go_wp2_with fail;refine(Hd x y n _ I O K Q).mono ?_
  rintro e D ⟨rfl,h⟩;rw[W.o];have H:Hid (zW w D):=ba.trans (h.mono (by simp));clear h;go_wp2
  go_ret;exact⟨congrArg (fun J=>Ending.returned (.int .i64 J)) (by rw[U.o];simp),H.o⟩
 have Z:(A==0)=false:=by simpa using z
 have ad:0<y:=by omega
 have ab:(y==0)=false:=by simp;omega
 have Y:Hid (Cs (x,y) n=(A*1000+y-1)/y):=by show _=_;rw[U.o,if_neg z]
 clear N z;go_in
 go_wp2_with fail;refine(Hd x y n _ I O K Q).mono ?_
 rintro e D ⟨rfl,h⟩;rw[W.o];have H:Hid (zW w D):=ba.trans (h.mono (by simp));have d1:D.cell? ⟨w.heap.size,1,none⟩=some (.int .i64 y):=j7 h (by simp);clear h;go_wp2
 go_ret;exact⟨congrArg (fun J=>Ending.returned (.int .i64 J)) Y.o.symm,H.o⟩
theorem UY (n:Int)(r:lI):∀(x y:Int×Int),lastOf n x (r++[y])=if Cc y (lastOf n x r) n=true then y else lastOf n x r:=by
 induction r with
 | nil=>intro x y;rfl
 | cons z r h=>intro x y;exact h _ y
theorem RZ {w:World}{b h:Nat}{D z:Int}{r:lI}(E:∀ i x y,((D,z)::r)[i]? = some (x,y)->w.cell? ⟨b,h+i*2,none⟩=some (.int .i64 x)/\w.cell? ⟨b,h+i*2+1,none⟩=some (.int .i64 y)):(w.cell? ⟨b,h,none⟩=some (.int .i64 D)/\w.cell? ⟨b,h+1,none⟩=some (.int .i64 z))/\∀ i x y,r[i]? = some (x,y)->w.cell? ⟨b,h+2+i*2,none⟩=some (.int .i64 x)/\w.cell? ⟨b,h+2+i*2+1,none⟩=some (.int .i64 y):=by
 have H:=E 0 D z rfl;refine⟨⟨by simpa using H.1,by simpa using H.2⟩,fun i x y I=>?_⟩;have:=E (i+1) x y (by simpa using I);rw[show h+(i+1)*2=h+2+i*2 by omega]at this;exact this
theorem Nq (a:oA)(cap:Nat)(ls:lI)(w:World)(U:AQ w a ls)(aj:Ak ls)(Y:ls.length<=cap)(ar:cap<=maxLen):Calls Tryz.prog 39 #[.slice a ls.length cap] w fun e w'=>e=.returned (.int .i64 (Gy ls))/\zW w w':=by
 obtain⟨I,Z,ai⟩:=aj;obtain⟨b,E,rfl,ac,Q⟩:=U.some I;clear U;unfold maxLen at ar;obtain⟨V,h,r,rfl⟩:∃ x y r,ls=(x,y)::r:=by
  cases ls with
  | nil=>simp at I
  | cons p r=>exact⟨p.1,p.2,r,rfl⟩
 obtain⟨n,K⟩:=ex r.length;have D:=(show Hid (r.length=n)from K)
 have aN:n<=5:=by simp at Z;omega
 have aE:n+1<=cap:=by simp at Y;omega
 rw[show((V,h)::r).length=n+1 by simp[K]];clear I Z Y K;obtain⟨⟨aS,aB⟩,W⟩:=RZ Q;have O:=qX W;have ao:Hid (Gy ((V,h)::r)=Dh h r):=rfl;clear ai Q W;by_cases J:cap=1
 ·
  subst J;obtain rfl:n=0:=by omega
  have am:r=[]:=qN.1 D.o;subst am;clear O D;go_in
  go_wp2
  refine xG 1 ?_
  rw[xL];go_wp2
  go_ret;exact⟨rfl,br⟩
 have av:1<cap:=by omega
 clear J;go_in
 go_wp2
 go_loopw [3,13] (fun m i wr=>∃ k:Nat,k<=n/\i=.int .i64 k/\m=.int .i64 (Dh h (r.take k))/\zW w wr) (fun _ i _=>n-(intOf i).toNat)
 case atStart=>exact⟨0,qR _,rfl,rfl,br⟩
 case round=>
  obtain⟨k,aw,rfl,rfl,z⟩:=hrel;have al:=z.size;by_cases an:k<n
  ·
   obtain⟨⟨x,y⟩,H,-⟩:=Ab r k (by rw[D.o];exact an);have J:wr.cell? ⟨b,E+2+k*2,none⟩=some (.int .i64 x):=by rw[z.cell (p:=⟨b,E+2+k*2,none⟩) ac];exact(O.o k x y H).1
   have av:wr.cell? ⟨b,E+2+k*2+1,none⟩=some (.int .i64 y):=by rw[z.cell (p:=⟨b,E+2+k*2+1,none⟩) ac];exact(O.o k x y H).2
   have ab:r.take (k+1)=r.take k++[(x,y)]:=by rw[vF,H];rfl
   have ap:Hid (Dh h (r.take (k+1))=min (Dh h (r.take k)) y):=by show _=_;rw[ab];exact Qo _ _ _
   obtain⟨M,N⟩:=ex (Dh h (r.take k));rw[N];have ad:=qX N;clear N ab H;go_wp2
   all_goals
    go_roundw
    case rel=>
     refine⟨k+1,by omega,by go_num,?_,z.alloc al _⟩;rw[ap.o,ad.o]
     all_goals first | exact congrArg (Value.int .i64) (fH _ _) | exact congrArg (Value.int .i64) (by omega)
    case measure=>simp[intOf];omega
  go_wp2
  go_ret;refine⟨congrArg (fun aq=>Ending.returned (.int .i64 aq)) ?_,z⟩;rw[vP (by rw[D.o];omega)];exact ao.o.symm
structure Jv (b:Nat)(w:World)(x y:Value):Prop where
 c0:w.cell? ⟨b,0,none⟩=some x
 c1:w.cell? ⟨b,1,none⟩=some y
 f0:w.frozen? ⟨b,0,none⟩=false
 f1:w.frozen? ⟨b,1,none⟩=false
theorem Jv.lt {b:Nat}{w:World}{x y:Value}(h:Jv b w x y):b<w.heap.size:=Cg h.c0
theorem Jv.later {b:Nat}{w w':World}{x y:Value}(h:Jv b w x y)(z:zW w w'):Jv b w' x y:=
 ⟨j7 z h.c0,j7 z h.c1,by rw[z.frozen (p:=⟨b,0,none⟩) h.lt];exact h.f0,by rw[z.frozen (p:=⟨b,1,none⟩) h.lt];exact h.f1⟩
theorem Nh (w:World)(x y:Value)(t:TypeId):Jv w.heap.size (w.alloc (.cells #[x,y] t)) x y:=⟨by simp,by simp,by simp,by simp⟩
theorem CZ (w:World)(p a:Addr)(v:Value):(w.setCell p v).frozen? a=w.frozen? a:=by simp
theorem Jv.set {b:Nat}{w:World}{x y:Value}(h:Jv b w x y)(u v:Value):Jv b ((w.setCell ⟨b,0,none⟩ u).setCell ⟨b,1,none⟩ v) u v:=by
 have z:(w.setCell ⟨b,0,none⟩ u).cell? ⟨b,1,none⟩=some y:=by rw[j9 _ _ _ _ (by simp)];exact h.c1
 refine⟨?_,vD _ _ _ z,?_,?_⟩
 · rw[j9 _ _ _ _ (by simp)];exact vD _ _ _ h.c0
 · rw[CZ,CZ];exact h.f0
 rw[CZ,CZ];exact h.f1
theorem cell_far (w:World)(p a:Addr)(v:Value)(h:p.block≠a.block):(w.setCell p v).cell? a=w.cell? a:=yE (Below.heap_setCell w p v a.block (Ne.symm h))
theorem Jv.far {b c:Nat}{w:World}{x y:Value}(h:Jv b w x y)(z:c≠b)(u v:Value):Jv b ((w.setCell ⟨c,0,none⟩ u).setCell ⟨c,1,none⟩ v) x y:=by
 refine⟨?_,?_,?_,?_⟩
 · rw[cell_far _ _ _ _ z,cell_far _ _ _ _ z];exact h.c0
 · rw[cell_far _ _ _ _ z,cell_far _ _ _ _ z];exact h.c1
 · rw[CZ,CZ];exact h.f0
 rw[CZ,CZ];exact h.f1
theorem Ta (a:oA)(cap:Nat)(ls:lI)(m:Int)(w:World)(a0:AQ w a ls)(J:Ak ls)(be:ls.length<=cap)(bN:cap<=maxLen)(a7:0<=m)(bb:m<=20020000):Calls Tryz.prog 63 #[.slice a ls.length cap,.int .i64 m] w fun e w'=>e=.returned (.agg #[.int .i64 (Bv m ls).1,.int .i64 (Bv m ls).2])/\zW w w':=by
 obtain⟨ao,a',a6⟩:=J;obtain⟨b,Q,rfl,bc,aS⟩:=a0.some ao;clear a0;unfold maxLen at bN;obtain⟨h,z,r,rfl⟩:∃ x y r,ls=(x,y)::r:=by
  cases ls with
  | nil=>simp at ao
  | cons p r=>exact⟨p.1,p.2,r,rfl⟩
 obtain⟨n,ad⟩:=ex r.length;have V:=(show Hid (r.length=n)from ad)
 have cf:n<=5:=by simp at a';omega
 have ce:n+1<=cap:=by simp at be;omega
 rw[show((h,z)::r).length=n+1 by simp[ad]];clear ao a' be ad;obtain⟨⟨bt,bw⟩,a8⟩:=RZ aS;have aN:=qX a8;have W:=qX a6;have cd:Hid (Bv m ((h,z)::r)=lastOf m (h,z) r):=rfl;clear a6 aS a8
 -- the two blocks that the call makes first
 have aE:zW w ((w.alloc (.cells #[.int .i64 0,.int .i64 0] 66)).alloc (.cells #[.int .i64 h,.int .i64 z] 66)):=ba.alloc (by simp) _;have ac:Jv w.heap.size ((w.alloc (.cells #[.int .i64 0,.int .i64 0] 66)).alloc (.cells #[.int .i64 h,.int .i64 z] 66)) (.int .i64 0) (.int .i64 0):=(Nh w _ _ _).later ba;have ap:Jv (w.heap.size+1) ((w.alloc (.cells #[.int .i64 0,.int .i64 0] 66)).alloc (.cells #[.int .i64 h,.int .i64 z] 66)) (.int .i64 h) (.int .i64 z):=by
  have:=Nh (w.alloc (.cells #[.int .i64 0,.int .i64 0] 66)) (.int .i64 h) (.int .i64 z) 66;simpa using this
 by_cases a4:cap=1
 ·
  subst a4;obtain rfl:n=0:=by omega
  have bh:r=[]:=qN.1 V.o;subst bh;clear aN V W aE ac ap;go_in
  go_wp2
  refine xG 1 ?_
  rw[xL];go_wp2
  exact vB (v:=.agg #[.int .i64 h,.int .i64 z]) (by simp[results,Tryz.results63,go_sem]) rfl ⟨rfl,ba.alloc (by simp) _⟩
 have b3:1<cap:=by omega
 clear a4;go_in
 go_wp2
 clear bt bw;generalize (w.alloc (.cells #[.int .i64 0,.int .i64 0] 66)).alloc (.cells #[.int .i64 h,.int .i64 z] 66)=cb at *;go_loopw [14] (fun i wr=>∃ k:Nat,k<=n/\i=.int .i64 k/\zW w wr/\Jv w.heap.size wr (.int .i64 0) (.int .i64 0)/\Jv (w.heap.size+1) wr (.int .i64 (lastOf m (h,z) (r.take k)).1) (.int .i64 (lastOf m (h,z) (r.take k)).2)) (fun i _=>n-(intOf i).toNat)
 case atStart=>exact⟨0,qR _,rfl,aE,ac,ap⟩
 case round=>
  obtain⟨k,b2,rfl,I,aj,E⟩:=hrel;clear aE ac ap;have aw:=qX I;have a9:=qX aj;by_cases bv:k<n
  ·
   obtain⟨⟨x,y⟩,O,a5⟩:=Ab r k (by rw[V.o];exact bv);have b8:wr.cell? ⟨b,Q+2+k*2,none⟩=some (.int .i64 x):=by rw[I.cell (p:=⟨b,Q+2+k*2,none⟩) bc];exact(aN.o k x y O).1
   have b5:wr.cell? ⟨b,Q+2+k*2+1,none⟩=some (.int .i64 y):=by rw[I.cell (p:=⟨b,Q+2+k*2+1,none⟩) bc];exact(aN.o k x y O).2
   have a3:r.take (k+1)=r.take k++[(x,y)]:=by rw[vF,O];rfl
   have bg:Hid (lastOf m (h,z) (r.take (k+1))=if Cc (x,y) (lastOf m (h,z) (r.take k)) m=true then(x,y)else lastOf m (h,z) (r.take k)):=by show _=_;rw[a3];exact UY _ _ _ _
   have a1:BM (lastOf m (h,z) (r.take k)).1 (lastOf m (h,z) (r.take k)).2=true:=by
    rcases Py m (r.take k) (h,z)with J|J
    · rw[J];exact W.o _ (qA ..)
    exact W.o _ (qG _ (yM J))
   obtain⟨ar,an,al,av⟩:=AA (W.o _ (qG _ a5));obtain⟨ab,Y,aq,am⟩:=AA a1;generalize bd:lastOf m (h,z) (r.take k)=aB at *;have b9:=qX bd;obtain⟨X,N⟩:=aB;simp only[]at ar an al av ab Y aq am E;have Z:=qX E;have ai:zW wr (wr.alloc (.cells #[.int .i64 x,.int .i64 y] 66)):=ba;obtain⟨bT,bm,_,_⟩:=E.later ai;have a2:=qX ai;have bp:Hid (Jv wr.heap.size (wr.alloc (.cells #[.int .i64 x,.int .i64 y] 66)) (.int .i64 x) (.int .i64 y)):=Nh wr _ _ _;clear a3 O a5 a1 I aj E ai bd;cases U:Cc (x,y) (X,N) m with
   | true=>
    have K:=qX U;clear U;go_wp2_with fail;refine(Og x y X N m _ ar an al av ab Y aq am a7 bb).mono ?_
    rintro e bj ⟨rfl,H⟩;rw[K.o];have D:=qX (a2.o.tr H);obtain⟨b7,b0,_,_⟩:=bp.o.later H;have bq:=Z.o.later D.o;obtain⟨b',b4,cc,b1⟩:=bq;have hs2:w.heap.size<=w.heap.size+1:=by omega
    clear H;go_wp2
    go_roundw
    case rel=>
     refine⟨k+1,by omega,by go_num,?_,?_,?_⟩
     · exact((aw.o.tr D.o).setCell hs2 _).setCell hs2 _
     · exact(a9.o.later D.o).far (by omega) _ _
     rw[bg.o,if_pos K.o];exact(Z.o.later D.o).set _ _
    case measure=>simp[intOf];omega
   | false=>
    have K:=qX U;clear U;go_wp2_with fail;refine(Og x y X N m _ ar an al av ab Y aq am a7 bb).mono ?_
    rintro e bj ⟨rfl,H⟩;rw[K.o];have D:=qX (a2.o.tr H);clear H;go_wp2
    go_roundw
    case rel=>
     refine⟨k+1,by omega,by go_num,aw.o.tr D.o,a9.o.later D.o,?_⟩;rw[bg.o,if_neg (by rw[K.o];decide)];exact Z.o.later D.o
    case measure=>simp[intOf];omega
  have bs:k=n:=by omega
  subst bs;rw[vP (by rw[V.o];omega)]at E;have bx:Hid (Bv m ((h,z)::r)=lastOf m (h,z) r):=rfl;generalize lastOf m (h,z) r=aB at *;obtain⟨X,N⟩:=aB;simp only[]at E;obtain⟨bT,bm,_,_⟩:=E;obtain⟨bk,bl,b6,ca⟩:=aj;clear I;go_wp2_with fail;refine vB (v:=.agg #[.int .i64 X,.int .i64 N]) (by simp[results,Tryz.results63,go_sem,bk,bl]) rfl ⟨?_,(aw.o.setCell lr _).setCell lr _⟩;rw[bx.o]
def Eb (per:Int)(ls:lI)(n:Int):Int:=per*n-Cs (Bv n ls) n
theorem ig {per n:Int}(D:1<=per)(z:per<=1000)(h:0<=n)(n1:n<=20020000):0<=per*n/\per*n<=20020000000:=by
 refine⟨vG (by omega) h,?_⟩;have a:=vT z h;omega
theorem Vr {x y n:Int}(D:1<=x)(H:0<=y)(I:y<=100000)(E:0<=n)(n1:n<=20020000)(z:miss x n=0\/0<y):0<=Cs (x,y) n/\Cs (x,y) n<=20020100000:=by
 have K:=Nu D E;unfold Cs;split
 · omega
 next h=>
 have J:0<y:=by
  rcases z with z|z
  · exact absurd z h
  exact z
 refine⟨Int.ediv_nonneg (by simp only[];omega) H,?_⟩;have:=Int.ediv_le_self (a:=miss x n*1000+y-1) y (by omega);simp only[];omega
theorem YW (a:oA)(cap:Nat)(ls:lI)(per n:Int)(w:World)(H:AQ w a ls)(z:Ak ls)(O:ls.length<=cap)(U:cap<=maxLen)(ao:1<=per)(Z:per<=1000)(h:0<=n)(n1:n<=20020000)
  (D:miss (Bv n ls).1 n=0\/0<(Bv n ls).2) :
  Calls Tryz.prog 65 #[.slice a ls.length cap,.int .i64 per,.int .i64 n] w fun e w'=>e=.returned (.int .i64 (Eb per ls n))/\zW w w':=by
 have ab:=qX H;have an:=qX z;have N:=qY O U;obtain⟨av,aw⟩:=ig ao Z h n1;have I:=AA (z.2.2 _ (FY n ls z.1));have ar:Hid (Eb per ls n=per*n-Cs (Bv n ls) n):=rfl;have ac:Hid (Bv n ls=Bv n ls):=rfl;generalize K:Bv n ls=ap at *;have am:=qX K;obtain⟨X,aj⟩:=ap;simp only[]at I D;obtain⟨Q,Y,V,E⟩:=I;obtain⟨d1,d2⟩:=Vr Q V E h n1 D;have ad:=qX D;clear H z O U K ac D;go_in
 go_wp2_with fail;refine(Ta a cap ls n _ ab.o an.o N.o.1 N.o.2 h n1).mono ?_
 rintro e aE ⟨rfl,W⟩;rw[am.o];have ai:=qX W;clear W;go_wp2_with fail;refine(bR X aj n _ Q Y V E h n1 ad.o).mono ?_
 rintro e aB ⟨rfl,J⟩;have aq:=qX (ai.o.tr J);clear J;go_wp2
 go_ret;exact⟨congrArg (fun al=>Ending.returned (.int .i64 al)) ar.o.symm,aq.o⟩
theorem bz (a:oA)(cap:Nat)(ls:lI)(per n:Int)(w:World)(am U:Nat)(aq:w.cell? ⟨am,0,none⟩=some (.slice a ls.length cap))(an:w.cell? ⟨U,0,none⟩=some (.int .i64 per))
  (O:AQ w a ls) (z:Ak ls) (Z:ls.length<=cap) (ad:cap<=maxLen) (a9:1<=per) (aE:per<=1000) (D:0<=n) (n1:n<=20020000) :
  Calls Tryz.prog 62 #[.int .i64 n,.pointer (some ⟨am,0,none⟩),.pointer (some ⟨U,0,none⟩)] w fun e w'=>e=.returned (.bool (turns per ls n))/\zW w w':=by
 have aN:=qX O;have a2:=qX z;have Y:=qY Z ad;have Q:=AA (z.2.2 _ (FY n ls z.1));have W:Hid (turns per ls n=decide (0<miss (Bv n ls).1 n/\(Bv n ls).2*per<=1000)):=rfl;have aS:Hid (Bv n ls=Bv n ls):=rfl;generalize V:Bv n ls=a3 at *;have a1:=qX V;obtain⟨X,h⟩:=a3;simp only[]at Q;obtain⟨ac,av,ai,a4⟩:=Q;have al:=Nu ac D;have a5:0<=h*per:=vG ai (by omega);have bb:h*per<=100000000:=by
  have a7:=qP aE ai;omega
 have ar:=qX an;clear O z Z ad V aS an;go_in
 go_wp2_with fail;refine(Ta a cap ls n _ aN.o a2.o Y.o.1 Y.o.2 D n1).mono ?_
 rintro e a0 ⟨rfl,ao⟩;rw[a1.o];have H:=qX ao;have ab:=Nh a0 (.int .i64 X) (.int .i64 h) 66;have aw:=qX ab;clear ao ab aq;go_wp2_with fail;refine(Hd X h n _ ac av D n1).mono ?_
 rintro e aB ⟨rfl,E⟩;obtain⟨_,a6,_,_⟩:=aw.o.later E;have J:Hid (zW w aB):=(H.o.alloc H.o.size _).trans (E.mono (by have:=H.o.size;simp;omega));have d2:=j7 J.o ar.o;obtain⟨A,K⟩:=ex (miss X n);have ap:=qX K;rw[K]at al ⊢;obtain⟨a8,a'⟩:=al;clear E K;by_cases aj:0<A
 ·
  have N:Hid (turns per ls n=decide (h*per<=1000)):=by
   show _=_
   rw[W.o];simp only[ap.o];simp[aj]
  go_wp2
  go_ret;exact⟨congrArg (fun I=>Ending.returned (.bool I)) N.o.symm,J.o⟩
 have N:Hid (turns per ls n=false):=by
  show _=_
  rw[W.o];simp only[ap.o];simp[aj]
 go_wp2
 go_ret;exact⟨congrArg (fun I=>Ending.returned (.bool I)) N.o.symm,J.o⟩
structure Gt (per:Int)(ls:lI)(d:Int):Prop where
 upper:∀ t,0<=t->per*Bu t ls-t<=d
 at_:∃ k,d=Eb per ls k/\(miss (Bv k ls).1 k=0\/0<(Bv k ls).2)/\1<=k/\k<=20019999/\(turns per ls k=false\/turns per ls (k-1)=false)
theorem NA {per k:Int}{ls:lI}(h:Ak ls)(z:turns per ls k=false):miss (Bv k ls).1 k=0\/0<(Bv k ls).2:=by
 have E:=xE z;have I:=AA (h.2.2 _ (FY k ls h.1));have H:=FZ (Bv k ls).1 k;by_cases D:miss (Bv k ls).1 k=0
 · exact .inl D
 rcases vV 0 (Bv k ls).2 with h|h
 · exact .inr h
 have e:(Bv k ls).2=0:=by omega
 exact absurd ⟨by omega,by rw[e,Int.zero_mul];omega⟩ E
theorem aO {per T:Int}{ls:lI}(z:Ak ls)(E:1<=per)(O:2<=T)(K:T<=20019999)(D:turns per ls T=true)(h:turns per ls (T-1)=false)(H:¬0<(Bv T ls).2):Gt per ls (Eb per ls (T-1)):=by
 refine⟨fun t J=>?_,T-1,rfl,NA z h,by omega,by omega,.inl h⟩;rcases vV (Bu t ls) T with N|I
 · exact(QQ z E J h (by omega) (q8 _)).2
 exact absurd (OG z D I (q8 _)).1 H
theorem bK {per T:Int}{ls:lI}(z:Ak ls)(E:1<=per)(Q:2<=T)(N:T<=20019999)(D:turns per ls T=true)(h:turns per ls (T-1)=false)(H:0<(Bv T ls).2):Gt per ls (max (Eb per ls (T-1)) (Eb per ls T)):=by
 refine⟨fun t J=>?_,?_⟩
 ·
  rcases vV (Bu t ls) T with O|I
  ·
   have:=(QQ z E J h (n:=Bu t ls) (by omega) (q8 _)).2;show per*Bu t ls-t<=max (Eb per ls (T-1)) (Eb per ls T)
   unfold Eb;omega
  have:=(OG z D I (q8 _) (t:=t)).2;unfold Eb;omega
 by_cases K:Eb per ls (T-1)<=Eb per ls T
 · exact⟨T,by omega,.inr H,by omega,by omega,.inr h⟩
 exact⟨T-1,by omega,NA z h,by omega,by omega,.inl h⟩
theorem Y7 {per n:Int}{ls:lI}(D:Ak ls)(H:1<=per)(I:per<=1000)(z:0<=n)(n1:n<=20020000)(E:miss (Bv n ls).1 n=0\/0<(Bv n ls).2) : -20020100000<=Eb per ls n/\Eb per ls n<=20020000000:=by
 obtain⟨K,J⟩:=ig H I z n1;have h:=AA (D.2.2 _ (FY n ls D.1));have:=Vr (x:=(Bv n ls).1) (y:=(Bv n ls).2) h.1 h.2.2.1 h.2.2.2 z n1 E;have e:((Bv n ls).1,(Bv n ls).2)=Bv n ls:=rfl;rw[e]at this;unfold Eb;omega
theorem Tryz.fieldRate (x y:Value)(w:World):(Instr.field 66 (.agg #[x,y]) 1).run Tryz.prog w=.ok y w:=by kernel_rfl
theorem Yf (a:oA)(cap:Nat)(ls:lI)(per:Int)(w:World)(am:AQ w a ls)(D:Ak ls)(av:ls.length<=cap)(aE:cap<=maxLen)(I:1<=per)(K:per<=1000)(ao:Gy ls*per<=1000):Calls Tryz.prog 40 #[.slice a ls.length cap,.int .i64 per] w fun e w'=>∃ d,e=.returned (.int .i64 d)/\Gt per ls d/\zW w w':=by
 have E:Hid (Ak ls):=D;have H:Hid (ls.length<=cap/\cap<=maxLen):=⟨av,aE⟩
 have aj:zW w ((w.alloc (.cells #[.slice a ls.length cap] 54)).alloc (.cells #[.int .i64 per] 3)):=ba.alloc (by simp) _;have al:((w.alloc (.cells #[.slice a ls.length cap] 54)).alloc (.cells #[.int .i64 per] 3)).cell? ⟨w.heap.size,0,none⟩=some (.slice a ls.length cap):=by simp
 have a2:((w.alloc (.cells #[.slice a ls.length cap] 54)).alloc (.cells #[.int .i64 per] 3)).cell? ⟨w.heap.size+1,0,none⟩=some (.int .i64 per):=by simp
 have bg:Hid (turns per ls 20019999=true):=aK D I ao;have bh:Hid (turns per ls 1=false):=bD D;have aS:=am.below aj;have fl:=Tryz.fieldRate;go_in
 go_wp2_with fail;generalize (w.alloc (.cells #[.slice a ls.length cap] 54)).alloc (.cells #[.int .i64 per] 3)=z at *;have aB:Hid (zW w z):=aj;have U:Hid (AQ z a ls):=aS;have W:Hid (z.cell? ⟨w.heap.size,0,none⟩=some (.slice a ls.length cap)):=al;have V:Hid (z.cell? ⟨w.heap.size+1,0,none⟩=some (.int .i64 per)):=a2;clear aj aS al a2 am D av aE ao;refine (Xn 1 20020000 (.pointer (some ⟨w.heap.size,0,none⟩)) (.pointer (some ⟨w.heap.size+1,0,none⟩)) (turns per ls) z z br (by decide) (by decide) (by decide)
  (fun n a9 bl bm ab=>bz a cap ls per n a9 w.heap.size (w.heap.size+1) (j7 ab W.o) (j7 ab V.o) (U.o.below ab) E.o H.o.1 H.o.2 I K (by omega) (by omega))).mono ?_
 rintro e bb ⟨T,rfl,bk,bq,h,J,Z⟩;have aq:2<=T:=by
  rcases vV T 2 with D|D
  ·
   have Q:T=1:=by omega
   subst Q;rcases h with h|h
   · omega
   rw[bh.o]at h;cases h
  exact D
 have N:turns per ls (T-1)=false:=by
  rcases J with J|J
  · omega
  exact J
 have ap:T<=20019999:=by
  rcases vV 20019999 T with D|D
  ·
   have Q:T=20020000:=by omega
   subst Q;rw[show(20020000:Int)-1=20019999 from rfl,bg.o]at N;cases N
  exact D
 have aN:turns per ls T=true:=by
  rcases h with h|h
  · omega
  exact h
 have aw:Hid (turns per ls T=true):=aN;have a1:Hid (turns per ls (T-1)=false):=N;have ar:Hid (zW z bb):=Z;have ac:=NA E.o N;have bp:=Y7 (n:=T-1) E.o I K (by omega) (by omega) ac;have bj:Hid (miss (Bv (T-1) ls).1 (T-1)=0\/0<(Bv (T-1) ls).2):=ac;have d1:=j7 Z W.o;have d2:=j7 Z V.o;clear h J aN N ac Z;go_wp2_with fail;refine(YW a cap ls per (T-1) _ (U.o.below ar.o) E.o H.o.1 H.o.2 I K (by omega) (by omega) bj.o).mono ?_
 rintro e a8 ⟨rfl,an⟩;have Y:Hid (zW z a8):=ar.o.tr an;have Q:=j7 Y.o W.o;have bc:=j7 Y.o V.o;clear an d1 d2;go_wp2_with fail;refine(Ta a cap ls T _ (U.o.below Y.o) E.o H.o.1 H.o.2 (by omega) (by omega)).mono ?_
 rintro e be ⟨rfl,a3⟩;have O:Hid (zW z be):=Y.o.tr a3;have a5:=j7 O.o W.o;have a7:=j7 O.o V.o;clear a3 Q bc;by_cases ai:0<(Bv T ls).2
 ·
  have bs:=Y7 (n:=T) E.o I K (by omega) (by omega) (.inr ai);have a4:Hid (0<(Bv T ls).2):=ai;go_wp2_with fail;refine(YW a cap ls per T _ (U.o.below O.o) E.o H.o.1 H.o.2 I K (by omega) (by omega) (.inr a4.o)).mono ?_
  rintro e a' ⟨rfl,a0⟩;have a6:Hid (zW z a'):=O.o.tr a0;clear a0 a5 a7;have ad:Hid (Gt per ls (max (Eb per ls (T-1)) (Eb per ls T))):=bK E.o I aq ap aw.o a1.o a4.o;go_wp2_with fail
  all_goals
   go_ret;refine⟨_,congrArg (fun bd=>Ending.returned (.int .i64 bd)) ?_,ad.o,aB.o.tr a6.o⟩
   first | exact fT _ _ | omega
 have ad:Hid (Gt per ls (Eb per ls (T-1))):=aO E.o I aq ap aw.o a1.o ai;go_wp2
 go_ret;exact⟨_,rfl,ad.o,aB.o.tr O.o⟩
def Sd (ls:lI)(per c p:Int):Prop:=(Ch ls c p/\c≠0)\/(Ak ls/\(per<1\/1000<per)/\c=2/\p = -1)
def Ld (ls:lI)(per:Int):Prop:=Ak ls/\1<=per/\per<=1000
theorem Sd.ne {ls:lI}{per c p:Int}(h:Sd ls per c p):c=2\/c=3:=by
 rcases h with⟨h,z⟩|⟨_,_,h,_⟩
 ·
  rcases h.num with h|h
  · exact absurd h z
  exact h
 exact .inl h
theorem Uw (a:oA)(cap:Nat)(ls:lI)(per:Int)(w:World)(D:AQ w a ls)(J:Ld ls per):Calls Tryz.prog 38 #[.slice a ls.length cap,.int .i64 per] w fun e w'=>e=.returned .nilIface/\zW w w':=by
 obtain⟨z,K,N⟩:=J;have I:=qX D;have E:=qX z;clear D z;go_in
 go_wp2_with fail;refine(Gl a cap ls _ I.o E.o).mono ?_
 rintro e O ⟨rfl,h⟩;have H:=qX h;clear h;go_wp2
 go_ret;exact⟨rfl,H.o⟩
theorem Zh {ls:lI}{per:Int}(h:Ld ls per):0<=Gy ls*per/\Gy ls*per<=100000000:=by
 obtain⟨q,D,e⟩:=SA ls h.1.1;have z:=AA (h.1.2.2 q D);rw[e];refine⟨vG z.2.2.1 (by have:=h.2.1;omega),?_⟩;have E:=qP h.2.2 z.2.2.1;omega
theorem WS (a:oA)(cap:Nat)(ls:lI)(per:Int)(w:World)(I:Nat->Addr)(V:A8 w I)(E:AQ w a ls)(N:ls.length<=cap)(O:cap<=maxLen)(h:Ld ls per)(ad:1000<Gy ls*per):Calls Tryz.prog 28 #[.slice a ls.length cap,.int .i64 per] w fun e w'=>e=.returned (.tuple #[.int .i64 0,.iface 308 (.pointer (some (I 3)))])/\zW w w':=by
 have J:=qX E;have Q:=qX h;have K:=qY N O;have W:=qX V;obtain⟨Y,ac⟩:=Zh h;clear E N O V h;go_in
 go_wp2_with fail;refine(Uw a cap ls per _ J.o Q.o).mono ?_
 rintro e ab ⟨rfl,z⟩;have D:=qX z;clear z;go_wp2_with fail;refine(Nq a cap ls _ (J.o.below D.o) Q.o.1 K.o.1 K.o.2).mono ?_
 rintro e Z ⟨rfl,H⟩;have U:=qX (D.o.tr H);have ai:=(W.o.below U.o).c3;clear H;go_wp2
 go_quiet (fail);go_wp2
 go_ret2;exact⟨rfl,qL U.o _⟩
theorem fD (a:oA)(cap:Nat)(ls:lI)(per:Int)(w:World)(K:AQ w a ls)(O:ls.length<=cap)(Q:cap<=maxLen)(D:Ld ls per)(Y:Gy ls*per<=1000):Calls Tryz.prog 28 #[.slice a ls.length cap,.int .i64 per] w fun e w'=>∃ d,e=.returned (.tuple #[.int .i64 d,.nilIface])/\Gt per ls d/\zW w w':=by
 have E:=qX K;have h:=qX D;have z:=qY O Q;obtain⟨ab,ai⟩:=Zh D;have Z:=qX Y;clear K O Q D;go_in
 go_wp2_with fail;refine(Uw a cap ls per _ E.o h.o).mono ?_
 rintro e ad ⟨rfl,H⟩;have I:=qX H;clear H;go_wp2_with fail;refine(Nq a cap ls _ (E.o.below I.o) h.o.1 z.o.1 z.o.2).mono ?_
 rintro e ac ⟨rfl,N⟩;have V:=qX (I.o.tr N);clear N;go_wp2_with fail;refine(Yf a cap ls per _ (E.o.below V.o) h.o.1 z.o.1 z.o.2 h.o.2.1 h.o.2.2 Z.o).mono ?_
 rintro e aj ⟨d,rfl,J,W⟩;have U:=qY J (V.o.tr W);clear W J;go_wp2
 go_ret2;exact⟨d,rfl,U.o.1,U.o.2⟩
end Go.Proofs.YtejlihcdfffafaaGreatDoor
