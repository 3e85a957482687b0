import Derived.Test.YtejlihcdfffafaaGreatDoorP08
import Derived.Deep.Cut
set_option maxHeartbeats 1000000
set_option maxRecDepth 100000
namespace Go.Proofs.YtejlihcdfffafaaGreatDoor
structure Rb where
 burst:Int
 rate:Int
 has:Int
 tick:Int
 last:Int
def Rb.hasAt (m:Rb)(t:Int):Int:=if m.rate=0\/m.has=1000*m.burst then m.has else if (1000*m.burst-m.has)/m.rate<t-m.tick then 1000*m.burst else m.has+(t-m.tick)*m.rate
def Rb.take (m:Rb)(t n:Int):Rb:=if m.hasAt t<1000*n then⟨m.burst,m.rate,m.has,m.tick,t⟩else⟨m.burst,m.rate,m.hasAt t-1000*n,t,t⟩
def Rb.when (m:Rb)(t n:Int):Int:=
 if m.burst<n then -1
 else if 1000*n-m.hasAt t<=0 then t
 else if m.rate=0 then -1
 else if 1099511627776<t+(if (1000*n-m.hasAt t)/m.rate*m.rate<1000*n-m.hasAt t then(1000*n-m.hasAt t)/m.rate+1 else(1000*n-m.hasAt t)/m.rate)then -1
 else t+(if (1000*n-m.hasAt t)/m.rate*m.rate<1000*n-m.hasAt t then(1000*n-m.hasAt t)/m.rate+1 else(1000*n-m.hasAt t)/m.rate)
def MQ (p:Int×Int):Rb:=⟨p.1,p.2,1000*p.1,0,0⟩
structure RelB (b:Bk)(m:Rb):Prop where
 most:b.most=1000*m.burst
 rate:b.rate=m.rate
 last:m.last=b.last
 t0:0<=m.tick
 t1:m.tick<=m.last
 h0:0<=m.has
 h1:m.has<=1000*m.burst
 has:b.has=min b.most (m.has+m.rate*(m.last-m.tick))
theorem fI (p:Int×Int)(h:BM p.1 p.2=true):RelB (He p) (MQ p):=by
 obtain⟨a,b,c,d⟩:=AA h;constructor <;> simp[He,MQ] <;> omega
theorem RelB.hasAt {b:Bk}{m:Rb}(h:RelB b m)(D:b.Ok){t:Int}(N:b.last<=t):m.hasAt t=b.lev t:=by
 have W:=h.most;have I:=h.rate;have J:=h.last;have O:=h.has;have Y:=h.t1;have V:=h.h1;have K:=D.r0;have s1:=FW m.rate t m.last m.tick;have U:=vG (show 0<=m.rate by omega) (show 0<=t-m.last by omega);have Q:=vG (show 0<=m.rate by omega) (show 0<=m.last-m.tick by omega);have H:b.lev t=min b.most (m.has+m.rate*(t-m.tick)):=by
  unfold Bk.lev;rw[I,<- J];omega
 rw[H];unfold Rb.hasAt;split
 ·
  rename_i z
  rcases z with z|z
  · rw[z];omega
  omega
 rename_i z
 have E:0<m.rate:=by omega
 have d1:=Int.mul_ediv_add_emod (1000*m.burst-m.has) m.rate;have d2:=Int.emod_nonneg (1000*m.burst-m.has) (show m.rate≠0 by omega);have d3:=Int.emod_lt_of_pos (1000*m.burst-m.has) E;generalize (1000*m.burst-m.has)/m.rate=k at *;split
 ·
  rename_i hk
  have:=qP (show k+1<=t-m.tick by omega) (show 0<=m.rate by omega);rw[yY]at this;omega
 rename_i hk
 have:=qP (show t-m.tick<=k by omega) (show 0<=m.rate by omega);rw[xK (t-m.tick) m.rate];omega
theorem RelB.take {b:Bk}{m:Rb}(h:RelB b m)(z:b.Ok){t n:Int}(E:b.last<=t)(K:1<=n):RelB (b.take t n) (m.take t n):=by
 have e:=h.hasAt z E;have I:=h.most;have D:=h.rate;have J:=h.last;have W:=h.t1;have Q:=z.l0;have N:=z.lev_bd E;have U:=h.has;unfold Rb.take Bk.take;rw[e];by_cases H:n*1000<=b.lev t
 · rw[if_pos H,if_neg (by omega)];exact⟨I,D,rfl,by simp;omega,q8 _,by simp;omega,by simp;omega,by simp;omega⟩
 rw[if_neg H,if_pos (by omega)];refine⟨I,D,rfl,h.t0,by simp;omega,h.h0,h.h1,?_⟩;show b.lev t=min b.most (m.has+m.rate*(t-m.tick))
 have O:=z.r0;have s1:=FW m.rate t m.last m.tick;have V:=vG (show 0<=m.rate by omega) (show 0<=t-m.last by omega);unfold Bk.lev;rw[D,<- J];omega
theorem iX {r x:Int}(E:0<r):(if x/r*r<x then x/r+1 else x/r)=(x+r-1)/r:=by
 have H:=TK (r:=r) (x:=x) E;have d1:=Int.mul_ediv_add_emod x r;have d2:=Int.emod_nonneg x (show r≠0 by omega);have d3:=Int.emod_lt_of_pos x E;rw[xK (x/r) r];generalize x/r=k at *;generalize (x+r-1)/r=u at *;have h:∀ a c:Int,a<c->r*a+r<=r*c:=fun a c I=>by
  have:=qP (show a+1<=c by omega) (show 0<=r by omega);rwa[yY,Int.mul_one]at this
 split
 ·
  by_cases D:u<k+1
  · have:=h u (k+1) D;rw[yY,Int.mul_one]at this;omega
  by_cases z:k+1<u
  · have:=h (k+1) u z;rw[yY,Int.mul_one]at this;omega
  omega
 by_cases D:u<k
 · have:=h u k D;omega
 by_cases z:k<u
 · have:=h k u z;omega
 omega
theorem RelB.when {b:Bk}{m:Rb}(z:RelB b m)(h:b.Ok){t n:Int}(J:b.last<=t):m.when t n=match b.when t n with | some T=>T | none=>-1:=by
 have e:=z.hasAt h J;have N:=h.lev_bd J;have O:=z.most;have K:=z.rate;unfold Rb.when Bk.when;rw[e];by_cases H:n*1000<=b.lev t
 · rw[if_neg (by omega),if_pos (by omega),if_pos H]
 rw[if_neg H];by_cases D:m.burst<n
 · rw[if_pos D,if_pos (.inl (by omega))]
 rw[if_neg D,if_neg (by omega)];by_cases E:m.rate=0
 · rw[if_pos E,if_pos (.inr (by omega))]
 rw[if_neg E,iX (by have:=h.r0;omega),if_neg (show ¬(b.most<n*1000\/b.rate=0)by omega),<- K,xK n 1000];by_cases I:1099511627776-t<(1000*n-b.lev t+b.rate-1)/b.rate
 · rw[if_pos I,if_pos (by omega)]
 rw[if_neg I,if_neg (by omega)]
open Go.RowKit
structure FK (w:World)(g:Nat)(m:Rb):Prop where
 c0:w.cell? ⟨g,0,none⟩=some (.int .i64 m.burst)
 c1:w.cell? ⟨g,1,none⟩=some (.int .i64 m.rate)
 c2:w.cell? ⟨g,2,none⟩=some (.int .i64 m.has)
 c3:w.cell? ⟨g,3,none⟩=some (.int .i64 m.tick)
 c4:w.cell? ⟨g,4,none⟩=some (.int .i64 m.last)
 f2:w.frozen? ⟨g,2,none⟩=false
 f3:w.frozen? ⟨g,3,none⟩=false
 f4:w.frozen? ⟨g,4,none⟩=false
theorem FK.lt {w:World}{g:Nat}{m:Rb}(h:FK w g m):g<w.heap.size:=Cg h.c0
theorem FK.but {S:Nat->Prop}{w w':World}{g:Nat}{m:Rb}(h:FK w g m)(z:But S w w')(D:¬S g):FK w' g m:=
 have l:=h.lt
 ⟨by rw [z.cell (p:=⟨g,0,none⟩) l D];exact h.c0,by rw [z.cell (p:=⟨g,1,none⟩) l D];exact h.c1,by rw [z.cell (p:=⟨g,2,none⟩) l D];exact h.c2,by rw [z.cell (p:=⟨g,3,none⟩) l D];exact h.c3,by rw [z.cell (p:=⟨g,4,none⟩) l D];exact h.c4,
  by rw [z.frozen (p:=⟨g,2,none⟩) l D];exact h.f2,by rw [z.frozen (p:=⟨g,3,none⟩) l D];exact h.f3,by rw [z.frozen (p:=⟨g,4,none⟩) l D];exact h.f4⟩
theorem FK.below {w w':World}{g:Nat}{m:Rb}(h:FK w g m)(z:zW w w'):FK w' g m:=h.but (S:=fun _=>False) (.ofBelow z) id
theorem OQ (g:Nat)(B r h k t:Int)(w:World)(ai:w.cell? ⟨g,0,none⟩=some (.int .i64 B))(Q:w.cell? ⟨g,1,none⟩=some (.int .i64 r))(am:w.cell? ⟨g,2,none⟩=some (.int .i64 h))(ac:w.cell? ⟨g,3,none⟩=some (.int .i64 k))
  (O:1<=B) (ab:B<=20000) (K:0<=r) (J:r<=100000) (W:0<=h) (Z:h<=1000*B) (aj:0<=k) (al:k<=t) (V:t<=1099511627776) (v:Int)
  (z:v=if r=0\/h=1000*B then h else if (1000*B-h)/r<t-k then 1000*B else h+(t-k)*r) :
  Calls Tryz.prog 66 #[.pointer (some ⟨g,0,none⟩),.int .i64 t] w fun e w'=>e=.returned (.int .i64 v)/\zW w w':=by
 by_cases D:r=0
 ·
  rw[if_pos (.inl D)]at z;subst D z;go_in
  go_wp2
  go_ret;exact⟨rfl,br⟩
 have U:(r==0)=false:=by simpa using D
 by_cases E:h=1000*B
 ·
  rw[if_pos (.inr E)]at z;subst E z;go_in
  go_wp2
  go_ret;exact⟨rfl,br⟩
 have ad:(h==1000*B)=false:=by simpa using E
 rw[if_neg (by simp[D,E])]at z;have Y:1<=r:=by omega
 by_cases H:(1000*B-h)/r<t-k
 ·
  rw[if_pos H]at z;subst z;go_in
  go_wp2
  go_ret;exact⟨rfl,br⟩
 rw[if_neg H]at z;obtain⟨I,N⟩:=NH K J (show 0<=t-k by omega) (show t-k<=1099511627776 by omega);rw[xK]at I N;subst z;go_in
 go_wp2
 go_quiet (fail);go_wp2
 go_ret;exact⟨rfl,qL br _⟩
theorem ZV (g:Nat)(b:Bk)(m:Rb)(t:Int)(w:World)(z:FK w g m)(D:b.Ok)(h:RelB b m)(I:b.last<=t)(E:t<=1099511627776):qW 66 #[.pointer (some ⟨g,0,none⟩),.int .i64 t] w (.int .i64 (m.hasAt t)):=by
 have V:=h.most;have O:=h.rate;have Q:=h.last;have K:=h.t1;have N:=D.m0;have U:=D.m1;have H:=D.r0;have J:=D.r1;exact OQ g m.burst m.rate m.has m.tick t w z.c0 z.c1 z.c2 z.c3 (by omega) (by omega) (by omega) (by omega) h.h0 h.h1 h.t0 (by omega) E _ rfl
theorem FK.setLast {w:World}{g:Nat}{m:Rb}(h:FK w g m)(x:Int):FK (w.setCell ⟨g,4,none⟩ (.int .i64 x)) g ⟨m.burst,m.rate,m.has,m.tick,x⟩:=
 ⟨by rw [j9 _ _ _ _ (by simp)];exact h.c0,by rw [j9 _ _ _ _ (by simp)];exact h.c1,by rw [j9 _ _ _ _ (by simp)];exact h.c2,by rw [j9 _ _ _ _ (by simp)];exact h.c3,vD _ _ _ h.c4,
  by rw [qK];exact h.f2,by rw [qK];exact h.f3,by rw [qK];exact h.f4⟩
theorem FK.setHas {w:World}{g:Nat}{m:Rb}(h:FK w g m)(x:Int):FK (w.setCell ⟨g,2,none⟩ (.int .i64 x)) g ⟨m.burst,m.rate,x,m.tick,m.last⟩:=
 ⟨by rw [j9 _ _ _ _ (by simp)];exact h.c0,by rw [j9 _ _ _ _ (by simp)];exact h.c1,vD _ _ _ h.c2,by rw [j9 _ _ _ _ (by simp)];exact h.c3,by rw [j9 _ _ _ _ (by simp)];exact h.c4,
  by rw [qK];exact h.f2,by rw [qK];exact h.f3,by rw [qK];exact h.f4⟩
theorem FK.setTick {w:World}{g:Nat}{m:Rb}(h:FK w g m)(x:Int):FK (w.setCell ⟨g,3,none⟩ (.int .i64 x)) g ⟨m.burst,m.rate,m.has,x,m.last⟩:=
 ⟨by rw [j9 _ _ _ _ (by simp)];exact h.c0,by rw [j9 _ _ _ _ (by simp)];exact h.c1,by rw [j9 _ _ _ _ (by simp)];exact h.c2,vD _ _ _ h.c3,by rw [j9 _ _ _ _ (by simp)];exact h.c4,
  by rw [qK];exact h.f2,by rw [qK];exact h.f3,by rw [qK];exact h.f4⟩
theorem fP (g:Nat)(b:Bk)(m:Rb)(t n:Int)(w:World)(W:FK w g m)(z:b.Ok)(h:RelB b m)(ai:D9 b.last t n=0):Calls Tryz.prog 45 #[.pointer (some ⟨g,0,none⟩),.int .i64 t,.int .i64 n] w fun e w'=>e=.returned (.bool (decide (n*1000<=b.lev t)))/\FK w' g (m.take t n)/\But (fun k=>k=g) w w':=by
 obtain⟨av,n1,a3,ao,Z⟩:=FP.1 ai;have E:=h.hasAt z Z;have aE:=z.lev_bd Z;have a2:=z.m1;have aq:=qX W;have al:=qX (W.setLast t);have am:Hid (qW 66 #[.pointer (some ⟨g,0,none⟩),.int .i64 t] (w.setCell ⟨g,4,none⟩ (.int .i64 t)) (.int .i64 (b.lev t))):=by
  have a4:=h.most;have aS:=h.rate;have a0:=h.last;have aB:=h.t1;have ar:=z.m0;have a1:=z.m1;have aN:=z.r0;have aw:=z.r1;have O:=al.o;exact OQ g m.burst m.rate m.has m.tick t _ O.c0 O.c1 O.c2 O.c3 (by omega) (by omega) (by omega) (by omega) h.h0 h.h1 h.t0 (by omega) ao _ (by rw[<- E];rfl)
 by_cases I:n*1000<=b.lev t
 ·
  have ad:Hid (m.take t n=⟨m.burst,m.rate,b.lev t-1000*n,t,t⟩):=by show _=_;unfold Rb.take;rw[E,if_neg (by omega)]
  rw[show decide (n*1000<=b.lev t)=true by simpa using I];generalize b.lev t=v at *;have ap:¬v<1000*n:=by omega
  obtain⟨V,H,Y,U,N,K,Q,J⟩:=W;clear z ai h E Z I;go_in
  go_wp2_with fail;refine am.o.mono ?_
  rintro e ac ⟨rfl,D⟩;have aj:Hid (But (fun k=>k=g) w ac):=(But.setCell (S:=fun k=>k=g) (But.refl _ _) rfl _).trans (.ofBelow D);have an:=al.o.below D;have ab:=qX an;clear V H Y U N K Q J;obtain⟨V,H,Y,U,N,K,Q,J⟩:=an;clear D;go_wp2
  go_ret;refine⟨rfl,?_,?_⟩
  · rw[ad.o];exact(ab.o.setHas _).setTick t
  exact But.setCell (S:=fun k=>k=g) (But.setCell (S:=fun k=>k=g) aj.o rfl _) rfl _
 have ad:Hid (m.take t n=⟨m.burst,m.rate,m.has,m.tick,t⟩):=by show _=_;unfold Rb.take;rw[E,if_pos (by omega)]
 rw[show decide (n*1000<=b.lev t)=false by simpa using I];generalize b.lev t=v at *;have ap:v<1000*n:=by omega
 obtain⟨V,H,Y,U,N,K,Q,J⟩:=W;clear z ai h E Z I;go_in
 go_wp2_with fail;refine am.o.mono ?_
 rintro e ac ⟨rfl,D⟩;have aj:Hid (But (fun k=>k=g) w ac):=(But.setCell (S:=fun k=>k=g) (But.refl _ _) rfl _).trans (.ofBelow D);have ab:=qX (al.o.below D);clear D V H Y U N K Q J;go_wp2
 go_ret;refine⟨rfl,?_,aj.o⟩;rw[ad.o];exact ab.o
theorem Xc (g:Nat)(B r v t n R:Int)(w:World)(aq:w.cell? ⟨g,0,none⟩=some (.int .i64 B))(H:w.cell? ⟨g,1,none⟩=some (.int .i64 r))(ab:1<=B)(ao:B<=20000)(W:0<=r)(aj:r<=100000)(v0:0<=v)(v1:v<=1000*B)(ar:0<=t)(ai:t<=1099511627776)(ad:1<=n)(n1:n<=1500)
  (E:Hid (Calls Tryz.prog 66 #[.pointer (some ⟨g,0,none⟩),.int .i64 t] w fun e w'=>e=.returned (.int .i64 v)/\zW w w'))
  (z:R=if B < n then -1 else if 1000 * n - v <= 0 then t else if r=0 then -1
   else if 1099511627776<t+(if (1000*n-v)/r*r<1000*n-v then(1000*n-v)/r+1 else(1000*n-v)/r)then -1
   else t+(if (1000 * n - v) / r * r < 1000 * n - v then (1000 * n - v) / r+1 else (1000 * n - v) / r)) :
  Calls Tryz.prog 44 #[.pointer (some ⟨g,0,none⟩),.int .i64 t,.int .i64 n] w fun e w'=>e=.returned (.int .i64 R)/\zW w w':=by
 by_cases N:B<n
 ·
  rw[if_pos N]at z;subst z;go_in
  go_wp2
  go_ret;exact⟨rfl,br⟩
 rw[if_neg N]at z;by_cases Q:1000*n-v<=0
 ·
  rw[if_pos Q]at z;subst z;go_in
  go_wp2_with fail;refine E.o.mono ?_
  rintro e J ⟨rfl,h⟩;go_wp2
  go_ret;exact⟨rfl,h⟩
 rw[if_neg Q]at z;by_cases K:r=0
 ·
  rw[if_pos K]at z;subst z;go_in
  go_wp2_with fail;refine E.o.mono ?_
  rintro e J ⟨rfl,h⟩;have d1:=j7 h H;have D:=qX h;subst K;clear h;go_wp2
  go_ret;exact⟨rfl,D.o⟩
 rw[if_neg K]at z;have ap:(r==0)=false:=by simpa using K
 have al:1<=r:=by omega
 have an:=Int.ediv_le_self r (show 0<=1000*n-v by omega);have Z:0<=(1000*n-v)/r:=Int.ediv_nonneg (by omega) (by omega);have Y:=Int.mul_ediv_add_emod (1000*n-v) r;have U:=Int.emod_nonneg (1000*n-v) (show r≠0 by omega);have V:(1000*n-v)/r*r=r*((1000*n-v)/r):=xK _ _;have am:0<=(1000*n-v)/r*r:=vG Z W;have ac:(1000*n-v)/r*r<=1000*n-v:=by omega
 have av:Hid (1000*n-v<=30000000):=by show _<=_;omega
 clear Y U V;by_cases O:(1000*n-v)/r*r<1000*n-v
 ·
  rw[if_pos O]at z;by_cases I:1099511627776<t+((1000*n-v)/r+1)
  ·
   rw[if_pos I]at z;subst z;go_in
   go_wp2_with fail;refine E.o.mono ?_
   rintro e J ⟨rfl,h⟩;have d1:=j7 h H;have D:=qX h;clear h;go_wp2
   go_ret;exact⟨rfl,D.o⟩
  rw[if_neg I]at z;subst z;go_in
  go_wp2_with fail;refine E.o.mono ?_
  rintro e J ⟨rfl,h⟩;have d1:=j7 h H;have D:=qX h;clear h;go_wp2
  go_ret;exact⟨rfl,D.o⟩
 rw[if_neg O]at z;by_cases I:1099511627776<t+(1000*n-v)/r
 ·
  rw[if_pos I]at z;subst z;go_in
  go_wp2_with fail;refine E.o.mono ?_
  rintro e J ⟨rfl,h⟩;have d1:=j7 h H;have D:=qX h;clear h;go_wp2
  go_ret;exact⟨rfl,D.o⟩
 rw[if_neg I]at z;subst z;go_in
 go_wp2_with fail;refine E.o.mono ?_
 rintro e J ⟨rfl,h⟩;have d1:=j7 h H;have D:=qX h;clear h;go_wp2
 go_ret;exact⟨rfl,D.o⟩
def XD (o:Option Int):Int:=match o with | some T=>T | none=>-1
theorem dV (g:Nat)(b:Bk)(m:Rb)(t n:Int)(w:World)(E:FK w g m)(h:b.Ok)(z:RelB b m)(K:D9 b.last t n=0):qW 44 #[.pointer (some ⟨g,0,none⟩),.int .i64 t,.int .i64 n] w (.int .i64 (XD (b.when t n))):=by
 obtain⟨I,n1,J,H,D⟩:=FP.1 K;have ab:=z.most;have Y:=z.rate;have V:=h.m0;have Z:=h.m1;have O:=h.r0;have Q:=h.r1;have U:=z.hasAt h D;have W:=h.lev_bd D;have N:XD (b.when t n)=m.when t n:=by rw[z.when h D];rfl
 rw[N];exact Xc g m.burst m.rate (m.hasAt t) t n _ w E.c0 E.c1 (by omega) (by omega) (by omega) (by omega) (by omega) (by omega) J H I n1 (ZV g b m t w E h z D H) rfl
theorem kg {w:World}{g:Nat}{x y z:Int}(D:w.cell? ⟨g,0,none⟩=some (.int .i64 x))(H:w.cell? ⟨g,1,none⟩=some (.int .i64 y))(E:w.cell? ⟨g,2,none⟩=some (.int .i64 z)):∀ j u,[Value.int .i64 x,.int .i64 y,.int .i64 z][j]? = some u->w.cell? ((⟨g,0,none⟩:Addr).add j)=some u:=by
 intro j u h
 match j,h with
 | 0,h=>simp at h;subst h;simpa[Addr.add]using D
 | 1,h=>simp at h;subst h;simpa[Addr.add]using H
 | 2,h=>simp at h;subst h;simpa[Addr.add]using E
 | j+3,h=>simp at h
theorem XJ (x y z:Int):∀ u∈[Value.int .i64 x,.int .i64 y,.int .i64 z],u.oneCell'=true:=by
 intro u h;simp at h
 rcases h with rfl|rfl|rfl <;> rfl
theorem BD.snoc {w:World}{B:Nat}{v:Value}{q:List Pk}{x y h:Int}(z:w.ownsRow B 50 3 v (q.length+1) (BV q++[.int .i64 x,.int .i64 y,.int .i64 h])):BD w B v (q++[⟨x,y,h⟩]):=by
 unfold BD;rw[Fh,qJ];exact z
theorem C9 {S:Nat->Prop}{w w':World}{h:Nat}{e:TypeId}{D:Nat}{v:Value}{n:Nat}{xs:List Value}(E:w.ownsRow h e D v n xs)(H:But S w w')(Q:∀ k,v.ownBlock=some k->¬S k):w'.ownsRow h e D v n xs:=by
 have J:=World.ownsRow.lt E;obtain⟨z,K|⟨g,cap,O,rfl,N,I,r⟩⟩:=E
 · exact⟨z,.inl K⟩
 exact⟨z,.inr ⟨g,cap,O,rfl,N,by rw[H.block g (J g rfl).2 (Q g rfl)];exact I,r⟩⟩
def ptrs (z:List Nat):List Value:=z.map fun h=>.pointer (some ⟨h,0,none⟩)
structure Hy (w wr:World)(v:Value)(hs:List Nat)(ms:List Rb):Prop where
 len:hs.length=ms.length
 own:wr.ownsRow w.heap.size 93 1 v hs.length (ptrs hs)
 rb:∀(i:Nat) h m,hs[i]? = some h->ms[i]? = some m->FK wr h m
 new:∀ h,h∈hs->w.heap.size<=h/\v.ownBlock≠some h
 one:∀(i j:Nat) h,hs[i]? = some h->hs[j]? = some h->i=j
theorem Hy.but {S:Nat->Prop}{w wr w':World}{v:Value}{z:List Nat}{D:List Rb}(h:Hy w wr v z D)(E:But S wr w')(J:∀ k,v.ownBlock=some k->¬S k)(K:∀ q,q∈z->¬S q):Hy w w' v z D:=
 ⟨h.len,C9 h.own E J,fun i q m H I=>(h.rb i q m H I).but E (K q (q9 H)),h.new,h.one⟩
theorem Hy.below {w wr w':World}{v:Value}{z:List Nat}{h:List Rb}(D:Hy w wr v z h)(E:zW wr w'):Hy w w' v z h:=
 D.but (S:=fun _=>False) (.ofBelow E) (fun _ _=>id) (fun _ _=>id)
theorem Hy.lt {w wr:World}{v:Value}{z:List Nat}{D:List Rb}(H:Hy w wr v z D):∀ q,q∈z->q<wr.heap.size:=fun q J=>by
 obtain⟨i,E⟩:=xN.1 J;have I:i<D.length:=by
  rw[<- H.len];rcases qC i z.length with h|h
  · exact h
  simp[qH h]at E
 exact(H.rb i q _ E (qE I)).lt
theorem Hy.ptr {w wr:World}{G cap:Nat}{h:List Nat}{E:List Rb}(H:Hy w wr (.slice (some ⟨G,0,none⟩) h.length cap) h E)(i q:Nat)(D:h[i]? = some q):wr.cell? ⟨G,i,none⟩=some (.pointer (some ⟨q,0,none⟩)):=by
 have I:i<h.length:=by
  rcases qC i h.length with z|z
  · exact z
  simp[qH z]at D
 rw[H.own.cellAt i (by omega)];simp[ptrs,D]
theorem aZ (w wr:World):Hy w wr (.slice none 0 0) [] []:=
 ⟨rfl,qQ _ _ _ _,(fun i z m h=>by simp at h),(fun z D=>by cases D),(fun i j z h=>by simp at h)⟩
theorem Tryz.infoPRBk:(Tryz.prog.info? 93).map (fun i=>(i.zero,i.size,i.bytes))=some (some (.pointer none),1,8):=by kernel_rfl
theorem RX {w w':World}{v:Value}(h:w.grownBy w' v.ownBlock):But (fun j=>v.ownBlock=some j) w w':=⟨h.os,h.tape,h.output,h.size,fun j D z=>h.block j D (fun e=>z e.symm)⟩
theorem ik (u:World)(x y:Int):FK (u.alloc (.cells #[.int .i64 x,.int .i64 y,.int .i64 (1000*x),.int .i64 0,.int .i64 0] 95)) u.heap.size (MQ (x,y)):=by constructor <;> simp[MQ]
theorem Hy.more {w wr w':World}{v:Value}{H:List Nat}{O:List Rb}(z:Hy w wr v H O)(x y:Int)(g cap:Nat)(aj:w.heap.size<=wr.heap.size)
  (Y:w'.ownsRow w.heap.size 93 1 (.slice (some ⟨g,0,none⟩) (H.length+1) cap) (H.length+1) (ptrs H++[.pointer (some ⟨wr.heap.size,0,none⟩)]))
  (ai:World.grownBy ((wr.drew.alloc (.cells #[.int .i64 x,.int .i64 y,.int .i64 (1000*x),.int .i64 0,.int .i64 0] 95)).alloc (.cells #[.pointer (some ⟨wr.heap.size,0,none⟩)] 93)) w' v.ownBlock)
  (U:v.ownBlock=some g\/g=wr.heap.size+2) :
  Hy w w' (.slice (some ⟨g,0,none⟩) (H.length+1) cap) (H++[wr.heap.size]) (O++[MQ (x,y)]):=by
 have Q:=RX ai;have Z:zW wr ((wr.drew.alloc (.cells #[.int .i64 x,.int .i64 y,.int .i64 (1000*x),.int .i64 0,.int .i64 0] 95)).alloc (.cells #[.pointer (some ⟨wr.heap.size,0,none⟩)] 93)):=
  ((br.drew).alloc lr _).alloc (by simp) _
 have am:=z.below Z;have K:∀ k,v.ownBlock=some k->k<wr.heap.size:=fun k al=>(World.ownsRow.lt z.own k al).2
 refine⟨by simp[z.len],by simpa[ptrs]using Y,fun i q m J V=>?_,fun q J=>?_,fun i j q ab ad=>?_⟩
 ·
  rcases DZ J with⟨D,h⟩|⟨D,h⟩
  ·
   rcases DZ V with⟨I,E⟩|⟨I,E⟩
   · exact(am.rb i q m h E).but Q (fun e=>(z.new q (q9 h)).2 e)
   rw[z.len]at D;omega
  rcases DZ V with⟨I,E⟩|⟨I,E⟩
  · rw[z.len]at D;omega
  rw[h,E];have W:FK ((wr.drew.alloc (.cells #[.int .i64 x,.int .i64 y,.int .i64 (1000*x),.int .i64 0,.int .i64 0] 95)).alloc (.cells #[.pointer (some ⟨wr.heap.size,0,none⟩)] 93)) wr.heap.size (MQ (x,y)):=by
   have ac:=ik wr.drew x y;exact ac.below ba
  exact W.but Q (fun e=>by have:=K _ e;omega)
 ·
  rcases vI.1 J with D|D
  ·
   refine⟨(z.new q D).1,fun e=>?_⟩;have N:g=q:=Option.some.inj e;rcases U with h|h
   · exact(z.new q D).2 (by rw[h,N])
   have:=z.lt q D;omega
  simp at D
  subst D;refine⟨aj,fun e=>?_⟩;have N:g=wr.heap.size:=Option.some.inj e;rcases U with h|h
  · have:=K g h;omega
  omega
 rcases DZ ab with⟨D,h⟩|⟨D,h⟩ <;> rcases DZ ad with⟨I,E⟩|⟨I,E⟩
 · exact z.one i j q h E
 · have:=z.lt q (q9 h);omega
 · have:=z.lt q (q9 E);omega
 omega
theorem WJ {D:List Bk}{b:Bk}{t n u T:Int}(H:∀ c,c∈D->c.Ok)(E:b.Ok)(J:t<=1099511627776)(V:DN D t n=some u)(Y:b.when t n=some T):DN (D++[b]) t n=some (if u<T then T else u):=by
 obtain⟨ai,ac,W,N⟩:=JS D t u H J V;obtain⟨ab,al,aj,Q⟩:=b.when_some E J Y;have U:∀ c,c∈D++[b]->c.Ok:=fun c z=>by
  rcases vI.1 z with h|h
  · exact H c h
  simp at h;rw[h];exact E
 have Z:=fT u T;rw[Z];refine eB U (by omega) (by omega) (fun c z=>?_) (fun s K ad I=>?_)
 ·
  rcases vI.1 z with h|h
  · have:=W c h;have:=Bk.lev_mono (H c h).r0 (show u<=max u T by omega);omega
  simp at h;rw[h]
  have:=Bk.lev_mono E.r0 (show T<=max u T by omega);omega
 by_cases O:s<u
 · exact N s K O (fun c z=>I c (List.mem_append_left _ z))
 have:=Q s K (by omega);have:=I b (by simp);omega
theorem VD {h:List Bk}{b:Bk}{t n:Int}(D:∀ c,c∈h->c.Ok)(z:b∈h)(N:t<=1099511627776)(I:b.when t n=none):DN h t n=none:=by
 cases e:DN h t n with
 | none=>rfl
 | some E=>
  obtain⟨K,H,J,-⟩:=JS h t E D N e;have:=b.when_none (D b z) I E K H;have:=J b z;omega
end Go.Proofs.YtejlihcdfffafaaGreatDoor
