import Derived.BigRegion
import Derived.Test.YtejlihcdfffafaaGreatDoorP09
set_option maxHeartbeats 4000000
set_option maxRecDepth 100000
namespace Go.Proofs.YtejlihcdfffafaaGreatDoor
def xch (f:Nat->Nat)(i j:Nat):Nat->Nat:=fun k=>if k=i then f j else if k=j then f i else f k
def swr (f:Nat->Nat)(a b n:Nat):Nat->Nat:=fun k=>if a<=k/\k<a+n then f (k+b-a)else if b<=k/\k<b+n then f (k+a-b)else f k
def rot (f:Nat->Nat)(a m b:Nat):Nat->Nat:=fun k=>if a<=k/\k<a+b-m then f (k+m-a)else if a+b-m<=k/\k<b then f (k+m-b)else f k
theorem gI (f:Nat->Nat)(a b:Nat):swr f a b 0=f:=by
 funext k
 unfold swr;rw[if_neg (by omega),if_neg (by omega)]
theorem gH (f:Nat->Nat){a b n:Nat}(H:a+n<b):xch (swr f a b n) (a+n) (b+n)=swr f a b (n+1):=by
 funext k
 simp only[xch,swr];by_cases D:k=a+n
 ·
  subst D;rw[if_pos rfl,if_neg (by omega),if_neg (by omega),if_pos (by omega)]
  congr 1;omega
 rw[if_neg D];by_cases z:k=b+n
 ·
  subst z;rw[if_pos rfl,if_neg (by omega),if_neg (by omega),if_neg (by omega),if_pos (by omega)]
  congr 1;omega
 rw[if_neg z];by_cases h:a<=k/\k<a+n
 · rw[if_pos h,if_pos (by omega)]
 by_cases E:b<=k/\k<b+n
 · rw[if_neg h,if_pos E,if_neg (by omega),if_pos (by omega)]
 rw[if_neg h,if_neg E,if_neg (by omega),if_neg (by omega)]
theorem ed (f:Nat->Nat){m i j:Nat}(E:j<i)(H:i<=m):rot (swr f (m-i) m j) (m-(i-j)) m (m+j)=rot f (m-i) m (m+j):=by
 funext k
 simp only[rot,swr];by_cases D:m-i<=k/\k<m-i+j
 · rw[if_neg (by omega),if_neg (by omega),if_pos D,if_pos (by omega)]
 by_cases h:m-(i-j)<=k/\k<m-(i-j)+(m+j)-m
 ·
  rw[if_pos h,if_neg (by omega),if_pos (by omega),if_neg (by omega),if_pos (by omega)]
  congr 1;omega
 rw[if_neg h];by_cases z:m-(i-j)+(m+j)-m<=k/\k<m+j
 · rw[if_pos z,if_neg (by omega),if_neg (by omega),if_neg (by omega),if_pos (by omega)]
 rw[if_neg z,if_neg (by omega),if_neg (by omega),if_neg (by omega),if_neg (by omega)]
theorem ZF (f:Nat->Nat){m i j:Nat}(E:i<j)(H:i<=m):rot (swr f (m-i) (m+j-i) i) (m-i) m (m+(j-i))=rot f (m-i) m (m+j):=by
 funext k
 simp only[rot,swr];by_cases z:m-i<=k/\k<m-i+(m+(j-i))-m
 · rw[if_pos z,if_neg (by omega),if_neg (by omega),if_pos (by omega)]
 rw[if_neg z];by_cases h:m-i+(m+(j-i))-m<=k/\k<m+(j-i)
 ·
  rw[if_pos h,if_pos (by omega),if_pos (by omega)]
  congr 1;omega
 rw[if_neg h];by_cases D:m+j-i<=k/\k<m+j
 ·
  rw[if_neg (by omega),if_pos (by omega),if_neg (by omega),if_pos (by omega)]
  congr 1;omega
 rw[if_neg (by omega),if_neg (by omega),if_neg (by omega),if_neg (by omega)]
theorem cz (f:Nat->Nat){m i:Nat}(D:i<=m):swr f (m-i) m i=rot f (m-i) m (m+i):=by
 funext k
 simp only[rot,swr];by_cases h:m-i<=k/\k<m-i+i
 · rw[if_pos h,if_pos (by omega)]
 by_cases z:m<=k/\k<m+i
 ·
  rw[if_neg h,if_pos z,if_neg (by omega),if_pos (by omega)]
  congr 1;omega
 rw[if_neg h,if_neg z,if_neg (by omega),if_neg (by omega)]
theorem Qp (f:Nat->Nat)(a m:Nat):rot f a m m=f:=by
 funext k
 simp only[rot];by_cases z:a<=k/\k<m
 · rw[if_neg (by omega),if_pos (by omega)];congr 1;omega
 by_cases h:a<=k/\k<a+m-m
 · omega
 rw[if_neg h,if_neg (by omega)]
theorem O8 (f:Nat->Nat)(m b:Nat):rot f m m b=f:=by
 funext k
 simp only[rot];by_cases h:m<=k/\k<m+b-m
 · rw[if_pos h];congr 1;omega
 rw[if_neg h,if_neg (by omega)]
theorem jH (f:Nat->Nat){a k:Nat}(D:a<=k):xch (rot f a (a+1) (k+1)) k (k+1)=rot f a (a+1) (k+1+1):=by
 funext x
 simp only[xch,rot];by_cases z:x=k
 ·
  subst z;rw[if_pos rfl,if_neg (by omega),if_neg (by omega),if_pos (by omega)]
  congr 1;omega
 rw[if_neg z];by_cases h:x=k+1
 ·
  subst h;rw[if_pos rfl,if_neg (by omega),if_pos (by omega),if_neg (by omega),if_pos (by omega)]
  congr 1;omega
 rw[if_neg h];by_cases E:a<=x/\x<k
 · rw[if_pos (by omega),if_pos (by omega)]
 rw[if_neg (by omega),if_neg (by omega),if_neg (by omega),if_neg (by omega)]
theorem Wy (f:Nat->Nat){k m:Nat}(D:k<m):xch (rot f (k+1) m (m+1)) (k+1) k=rot f k m (m+1):=by
 funext x
 simp only[xch,rot];by_cases z:x=k+1
 ·
  subst z;rw[if_pos rfl,if_neg (by omega),if_neg (by omega),if_neg (by omega),if_pos (by omega)]
  congr 1;omega
 rw[if_neg z];by_cases h:x=k
 ·
  subst h;rw[if_pos rfl,if_pos (by omega),if_pos (by omega)]
  congr 1;omega
 rw[if_neg h];by_cases E:k+1<x/\x<m+1
 · rw[if_neg (by omega),if_pos (by omega),if_neg (by omega),if_pos (by omega)]
 rw[if_neg (by omega),if_neg (by omega),if_neg (by omega),if_neg (by omega)]
structure Gj (f g:Nat->Nat)(a b:Nat):Prop where
 out:∀ k,k<a\/b<=k->g k=f k
 of:∀ k,a<=k->k<b->∃ j,a<=j/\j<b/\g k=f j
 onto:∀ j,a<=j->j<b->∃ k,a<=k/\k<b/\g k=f j
theorem Gj.refl (f:Nat->Nat)(a b:Nat):Gj f f a b:=⟨fun _ _=>rfl,fun k z h=>⟨k,z,h,rfl⟩,fun k z h=>⟨k,z,h,rfl⟩⟩
theorem Gj.trans {f g J:Nat->Nat}{a b:Nat}(x:Gj f g a b)(y:Gj g J a b):Gj f J a b:=by
 refine⟨fun k I=>(y.out k I).trans (x.out k I),fun k E D=>?_,fun j E D=>?_⟩
 · obtain⟨j,N,Q,V⟩:=y.of k E D;obtain⟨i,H,h,z⟩:=x.of j N Q;exact⟨i,H,h,V.trans z⟩
 obtain⟨i,H,h,z⟩:=x.onto j E D;obtain⟨k,O,K,U⟩:=y.onto i H h;exact⟨k,O,K,U.trans z⟩
theorem Gj.wide {f g:Nat->Nat}{a b I H:Nat}(x:Gj f g a b)(Q:I<=a)(O:b<=H):Gj f g I H:=by
 refine⟨fun k N=>x.out k (by omega),fun k D z=>?_,fun k D z=>?_⟩
 ·
  by_cases h:a<=k/\k<b
  · obtain⟨j,J,K,E⟩:=x.of k h.1 h.2;exact⟨j,by omega,by omega,E⟩
  exact⟨k,D,z,x.out k (by omega)⟩
 by_cases h:a<=k/\k<b
 · obtain⟨j,J,K,E⟩:=x.onto k h.1 h.2;exact⟨j,by omega,by omega,E⟩
 exact⟨k,D,z,x.out k (by omega)⟩
theorem LB (f:Nat->Nat){a m b:Nat}(J:a<=m)(I:m<=b):Gj f (rot f a m b) a b:=by
 refine⟨fun k E=>?_,fun k z D=>?_,fun j H K=>?_⟩
 · simp only[rot];rw[if_neg (by omega),if_neg (by omega)]
 ·
  simp only[rot];by_cases h:k<a+b-m
  · rw[if_pos ⟨z,h⟩];exact⟨k+m-a,by omega,by omega,rfl⟩
  rw[if_neg (by omega),if_pos (by omega)];exact⟨k+m-b,by omega,by omega,rfl⟩
 simp only[rot];by_cases h:j<m
 ·
  refine⟨j+b-m,by omega,by omega,?_⟩;rw[if_neg (by omega),if_pos (by omega)]
  congr 1;omega
 refine⟨j+a-m,by omega,by omega,?_⟩;rw[if_pos (by omega)]
 congr 1;omega
section
variable {at_:Nat → Int}
def Cq (h:Nat->Int)(f:Nat->Nat)(a b:Nat):Prop:=∀ i j,a<=i->i<j->j<b->Ahead h (f i) (f j)
def Lower (f:Nat->Nat)(a m b:Nat):Prop:=∀ i j,a<=i->i<m->m<=j->j<b->f i<f j
def Merged (h:Nat->Int)(f g:Nat->Nat)(a b:Nat):Prop:=Gj f g a b/\Cq h g a b
theorem Cq.le {f:Nat->Nat}{a b:Nat}(E:Cq at_ f a b){i j:Nat}(D:a<=i)(H:i<=j)(z:j<b):at_ (f i)<=at_ (f j):=by
 rcases qC i j with h|h
 · have:=E i j D h z;unfold Ahead at this;omega
 obtain rfl:i=j:=by omega
 exact q8 _
theorem Cq.join {f:Nat->Nat}{a m b:Nat}(K:Cq at_ f a m)(I:Cq at_ f m b)(J:∀ i j,a<=i->i<m->m<=j->j<b->Ahead at_ (f i) (f j)):Cq at_ f a b:=fun i j H E D=>by
 rcases qC j m with z|z
 · exact K i j H E z
 rcases qC i m with h|h
 · exact J i j H h z D
 exact I i j h E D
theorem PK {f H I:Nat->Nat}{a m b:Nat}(Z:a<=m)(ai:m<=b)(z:Merged at_ f H a m)(h:Merged at_ H I m b)(ad:∀ i j,a<=i->i<m->m<=j->j<b->Ahead at_ (f i) (f j)):Merged at_ f I a b:=by
 refine⟨(z.1.wide lr ai).trans (h.1.wide Z lr),Cq.join (m:=m) (fun i j D ac E=>?_) h.2 (fun i j D Y E ab=>?_)⟩
 · rw[h.1.out i (by omega),h.1.out j (by omega)];exact z.2 i j D ac E
 rw[h.1.out i (by omega)];obtain⟨U,W,K,V⟩:=z.1.of i D Y;obtain⟨J,N,Q,O⟩:=h.1.of j E ab;rw[V,O,z.1.out J (by omega)];exact ad U J W K N Q
structure ND (at_:Nat->Int)(f:Nat->Nat)(a m b mid s e:Nat):Prop where
 sa:a<=s
 sm:s<=m
 me:m<=e
 eb:e<=b
 sum:s+e=mid+m
 low:s<m->m<e->at_ (f (e-1))<at_ (f s)
 high:a<s->e<b->at_ (f (s-1))<=at_ (f e)
section
variable {f:Nat → Nat} {a m b mid s e:Nat}
theorem ND.mid_in (h:ND at_ f a m b mid s e):a<=mid/\mid<=b/\s<=mid/\mid<=e:=by
 have:=h.sa;have:=h.sm;have:=h.me;have:=h.eb;have:=h.sum;omega
theorem ND.parts (D:ND at_ f a m b mid s e)(I:Cq at_ f a m)(N:Cq at_ f m b)(Q:Lower f a m b):(Cq at_ (rot f s m e) a s/\Cq at_ (rot f s m e) s mid/\Cq at_ (rot f s m e) mid e/\Cq at_ (rot f s m e) e b)/\Lower (rot f s m e) a s mid/\Lower (rot f s m e) mid e b/\(∀ i j,a<=i->i<mid->mid<=j->j<b->Ahead at_ (rot f s m e i) (rot f s m e j)):=by
 obtain⟨ao,aj,ar,ad⟩:=D.mid_in;have an:=D.sa;have aq:=D.sm;have al:=D.me;have ap:=D.eb;have ai:=D.sum;have v1:∀ k,k<s->rot f s m e k=f k:=fun k Z=>by
  simp only[rot];rw[if_neg (by omega),if_neg (by omega)]
 have v2:∀ k,s<=k->k<mid->rot f s m e k=f (k+m-s):=fun k W ab=>by
  simp only[rot];rw[if_pos (by omega)]
 have v3:∀ k,mid<=k->k<e->rot f s m e k=f (k+m-e):=fun k W ab=>by
  simp only[rot];rw[if_neg (by omega),if_pos (by omega)]
 have K:∀ k,e<=k->rot f s m e k=f k:=fun k Z=>by
  simp only[rot];rw[if_neg (by omega),if_neg (by omega)]
 refine⟨⟨fun i j h O z=>?_,fun i j h O z=>?_,fun i j h O z=>?_,fun i j h O z=>?_⟩,fun i j h J z H=>?_,fun i j h J z H=>?_,fun i j h J z H=>?_⟩
 · rw[v1 i (by omega),v1 j z];exact I i j h O (by omega)
 · rw[v2 i h (by omega),v2 j (by omega) z];exact N _ _ (by omega) (by omega) (by omega)
 · rw[v3 i h (by omega),v3 j (by omega) z];exact I _ _ (by omega) (by omega) (by omega)
 · rw[K i h,K j (by omega)];exact N _ _ (by omega) (by omega) (by omega)
 · rw[v1 i J,v2 j z H];exact Q _ _ h (by omega) (by omega) (by omega)
 · rw[v3 i h J,K j z];exact Q _ _ (by omega) (by omega) (by omega) (by omega)
 rcases qC i s with U|U
 ·
  rw[v1 i U];rcases qC j e with E|E
  · rw[v3 j z E];exact I _ _ h (by omega) (by omega)
  rw[K j E];have ac:=D.high (by omega) (by omega);have V:=I.le h (show i<=s-1 by omega) (by omega);have Y:=N.le D.me E H;have am:=Q i j h (by omega) (by omega) H;unfold Ahead;omega
 rw[v2 i U J];rcases qC j e with E|E
 · rw[v3 j z E];have ac:=D.low (by omega) (by omega);have V:=N.le (show m<=i+m-s by omega) (show i+m-s<=e-1 by omega) (by omega);have Y:=I.le D.sa (show s<=j+m-e by omega) (by omega);unfold Ahead;omega
 rw[K j E];exact N _ _ (by omega) (by omega) H
end
theorem fE {f:Nat->Nat}{a b i:Nat}(J:a+1<=i)(N:i<=b)(z:Cq at_ f (a+1) b)(Q:Lower f a (a+1) b)(Y:i=a+1\/at_ (f (i-1))<at_ (f a))(V:i=b\/at_ (f a)<=at_ (f i)):Merged at_ f (rot f a (a+1) i) a b:=by
 refine⟨(LB f (by omega) J).wide lr N,fun x y O Z E=>?_⟩;have v1:∀ k,a<=k->k<i-1->rot f a (a+1) i k=f (k+1):=fun k W h=>by
  simp only[rot];rw[if_pos (by omega)];congr 1;omega
 have v2:rot f a (a+1) i (i-1)=f a:=by
  simp only[rot];rw[if_neg (by omega),if_pos (by omega)];congr 1;omega
 have v3:∀ k,i<=k->rot f a (a+1) i k=f k:=fun k W=>by
  simp only[rot];rw[if_neg (by omega),if_neg (by omega)]
 rcases qC x (i-1)with I|I
 ·
  rw[v1 x O I];rcases qC y (i-1)with H|H
  · rw[v1 y (by omega) H];exact z _ _ (by omega) (by omega) (by omega)
  rcases qC y i with h|h
  ·
   obtain rfl:y=i-1:=by omega
   rw[v2];have U:at_ (f (i-1))<at_ (f a):=by
    rcases Y with D|D
    · omega
    exact D
   have K:=z.le (show a+1<=x+1 by omega) (show x+1<=i-1 by omega) (by omega);exact .inl (by omega)
  rw[v3 y h];exact z _ _ (by omega) (by omega) E
 rcases qC x i with h|h
 ·
  obtain rfl:x=i-1:=by omega
  rw[v2,v3 y (by omega)];have U:at_ (f a)<=at_ (f i):=by
   rcases V with D|D
   · omega
   exact D
  have K:=z.le J (show i<=y by omega) E;have ab:=Q a y lr (by omega) (by omega) E;unfold Ahead;omega
 rw[v3 x h,v3 y (by omega)];exact z _ _ (by omega) Z E
theorem YY {f:Nat->Nat}{a m i:Nat}(N:a<=i)(Q:i<=m)(z:Cq at_ f a m)(U:Lower f a m (m+1))(Z:i=a\/at_ (f (i-1))<=at_ (f m))(W:i=m\/at_ (f m)<at_ (f i)):Merged at_ f (rot f i m (m+1)) a (m+1):=by
 refine⟨(LB f Q (by omega)).wide N lr,fun x y E K H=>?_⟩;have v1:∀ k,k<i->rot f i m (m+1) k=f k:=fun k Y=>by
  simp only[rot];rw[if_neg (by omega),if_neg (by omega)]
 have v2:rot f i m (m+1) i=f m:=by
  simp only[rot];rw[if_pos (by omega)];congr 1;omega
 have v3:∀ k,i<k->k<m+1->rot f i m (m+1) k=f (k-1):=fun k Y h=>by
  simp only[rot];rw[if_neg (by omega),if_pos (by omega)];congr 1;omega
 rcases qC x i with J|J
 ·
  rw[v1 x J];rcases qC y i with I|I
  · rw[v1 y I];exact z _ _ E K (by omega)
  rcases qC i y with h|h
  · rw[v3 y h H];exact z _ _ E (by omega) (by omega)
  obtain rfl:y=i:=by omega
  rw[v2];have V:at_ (f (y-1))<=at_ (f m):=by
   rcases Z with D|D
   · omega
   exact D
  have O:=z.le E (show x<=y-1 by omega) (by omega);have ab:=U x m E (by omega) lr (by omega);unfold Ahead;omega
 rcases qC i x with h|h
 · rw[v3 x h (by omega),v3 y (by omega) H];exact z _ _ (by omega) (by omega) (by omega)
 obtain rfl:x=i:=by omega
 rw[v2,v3 y K H];have V:at_ (f m)<at_ (f x):=by
  rcases W with D|D
  · omega
  exact D
 have O:=z.le N (show x<=y-1 by omega) (by omega);exact .inl (by omega)
structure CB (at_:Nat->Int)(g:Nat->Nat)(x y:Nat):Prop where
 in_:∀ i,x<=i->i<y->x<=g i/\g i<y
 onto:∀ v,x<=v->v<y->∃ i,x<=i/\i<y/\g i=v
 rises:Cq at_ g x y
theorem CB.congr {g I:Nat->Nat}{x y:Nat}(o:CB at_ g x y)(e:∀ i,x<=i->i<y->I i=g i):CB at_ I x y:=by
 refine⟨fun i h z=>by rw[e i h z];exact o.in_ i h z,fun v h z=>?_,fun i j h z E=>by rw[e i h (by omega),e j (by omega) E];exact o.rises i j h z E⟩;obtain⟨i,H,D,J⟩:=o.onto v h z;exact⟨i,H,D,by rw[e i H D];exact J⟩
theorem CB.lower {g:Nat->Nat}{x m y:Nat}(E:CB at_ g x m)(H:CB at_ g m y):Lower g x m y:=fun i j D h z I=>by
 have:=E.in_ i D h;have:=H.in_ j z I;omega
theorem CB.merged {g U:Nat->Nat}{x m y:Nat}(V:x<=m)(W:m<=y)(O:CB at_ g x m)(Q:CB at_ g m y)(k:Merged at_ g U x y):CB at_ U x y:=by
 refine⟨fun i J H=>?_,fun v J H=>?_,k.2⟩
 ·
  obtain⟨j,I,K,N⟩:=k.1.of i J H;rw[N];rcases qC j m with h|h
  · have:=O.in_ j I h;omega
  have:=Q.in_ j h K;omega
 have:∃ j,x<=j/\j<y/\g j=v:=by
  rcases qC v m with h|h
  · obtain⟨i,E,D,z⟩:=O.onto v J h;exact⟨i,E,by omega,z⟩
  obtain⟨i,E,D,z⟩:=Q.onto v h H;exact⟨i,by omega,D,z⟩
 obtain⟨j,I,K,N⟩:=this;obtain⟨i,E,D,z⟩:=k.1.onto j I K;exact⟨i,E,D,z.trans N⟩
theorem CB.start {g H:Nat->Nat}{x y:Nat}(e:∀ i,x<=i->i<y->g i=i)(k:Merged at_ g H x y):CB at_ H x y:=by
 refine⟨fun i z h=>?_,fun v z h=>?_,k.2⟩
 · obtain⟨j,D,E,N⟩:=k.1.of i z h;rw[N,e j D E];exact⟨D,E⟩
 obtain⟨i,J,I,K⟩:=k.1.onto v z h;exact⟨i,J,I,by rw[K,e v z h]⟩
def CV (h:Nat->Int)(g:Nat->Nat)(B n x:Nat):Prop:=∀ q,x+q*B<n->CB h g (x+q*B) (min (x+q*B+B) n)
theorem CV.first {g:Nat->Nat}{B n x:Nat}(h:CV at_ g B n x)(z:x<n):CB at_ g x (min (x+B) n):=by
 have:=h 0 (by omega);simpa using this
theorem CV.rest {g:Nat->Nat}{B n x:Nat}(h:CV at_ g B n x):CV at_ g B n (x+B):=fun q z=>by
 have e:x+(q+1)*B=x+B+q*B:=by rw[Nat.succ_mul];omega
 have:=h (q+1) (by omega);rwa[e]at this
theorem CV.put {g:Nat->Nat}{B n x:Nat}(D:x<n->CB at_ g x (min (x+B) n))(z:CV at_ g B n (x+B)):CV at_ g B n x:=fun q h=>by
 cases q with
 | zero=>
  have:=D (by omega);simpa using this
 | succ q=>
  have e:x+(q+1)*B=x+B+q*B:=by rw[Nat.succ_mul];omega
  rw[e]at h ⊢;exact z q h
theorem CV.congr {g h:Nat->Nat}{B n x:Nat}(o:CV at_ g B n x)(e:∀ i,x<=i->h i=g i):CV at_ h B n x:=fun q z=>(o q z).congr fun i D _=>e i (by omega)
theorem CV.none {g:Nat->Nat}{B n x:Nat}(z:n<=x):CV at_ g B n x:=fun q h=>by omega
def FJ (z:Nat->Int)(g:Nat->Nat)(B n x:Nat):Prop:=∀ h:Nat->Nat,(∀ i,i<x->h i=g i)->CV z h B n x->CV z h B n 0
theorem FJ.start (g:Nat->Nat)(B n:Nat):FJ at_ g B n 0:=fun _ _ h=>h
theorem FJ.on {g g':Nat->Nat}{B n x:Nat}(E:FJ at_ g B n x)(e:∀ i,i<x->g' i=g i)(o:CB at_ g' x (min (x+B) n)):FJ at_ g' B n (x+B):=fun k h D=>by
 refine E k (fun i z=>(h i (by omega)).trans (e i z)) (CV.put (fun _=>o.congr fun i _ z=>h i (by omega)) D)
theorem FJ.last {g g':Nat->Nat}{B n x:Nat}(D:FJ at_ g B n x)(e:∀ i,i<x->g' i=g i)(z:n<=x+B)(o:x<n->CB at_ g' x n):CV at_ g' B n 0:=by
 refine D g' e (CV.put (fun h=>?_) (CV.none z));rw[show min (x+B) n=n by omega];exact o h
theorem CB.order {g:Nat->Nat}{n:Nat}(o:CB at_ g 0 n):Be at_ n ((List.range n).map g):=by
 refine⟨xC.2 fun i j z h H=>?_,fun j=>?_⟩
 · simp only[xZ,List.length_range]at z h;simp only[List.getElem_map,List.getElem_range];exact o.rises i j (qR _) H h
 rw[List.mem_map];constructor
 · rintro⟨i,z,rfl⟩;exact(o.in_ i (qR _) (List.mem_range.1 z)).2
 intro h;obtain⟨i,-,D,E⟩:=o.onto j (qR _) h;exact⟨i,List.mem_range.2 D,E⟩
theorem CV.order {g:Nat->Nat}{B n:Nat}(z:CV at_ g B n 0)(D:n<=B):Be at_ n ((List.range n).map g):=by
 rcases xP n with rfl|h
 · exact Be.start at_
 have:=z.first h;rw[show min (0+B) n=n by omega]at this;exact this.order
end
open Go.RowKit
structure Later (V:World) where
 w:World
 bel:zW V w
theorem Later.cell {h:World}{a:Addr}{v:Value}(z:h.cell? a=some v)(g:Later h):g.w.cell? a=some v:=j7 g.bel z
theorem BS {P:Program}{id:Nat}{h:Exit->Act->World->Prop}{a:Act}{w:World}{l:List Oper}(z:P.follows .mixedOrders=true)(D:Region.lexB .any l.toArray=true)
  (E:wpQuiet P l.toArray (fun w'=>∃ g:Later w,w'=g.w) (fun H=>∀ w',(∃ g:Later w,w'=g.w)->h .normal H w') l a):(Code.region id l.toArray true).wp P h a w:=
 wp_region_quiet (C:=fun w'=>∃ g:Later w,w'=g.w) z D ⟨⟨w.drew,qL br 1⟩,rfl⟩ (by simpa using E)
theorem Later.calls {P:Program}{f:FuncId}{args:Array Value}{h:World}{v:Value}(H:∀ z,zW h z->Calls P f args z fun e w'=>e=.returned v/\zW z w')(g:Later h):Calls P f args g.w fun e w'=>e=.returned v/\∃ g':Later h,w'=g'.w:=
 (H g.w g.bel).mono fun _ w' ⟨E,D⟩=>⟨E,⟨w',g.bel.tr D⟩,rfl⟩
structure F5 (w:World)(b off n:Nat)(pk:Nat->Pk)(f:Nat->Nat):Prop where
 lt:b<w.heap.size
 c0:∀ i,i<n->w.cell? ⟨b,off+i*3,none⟩=some (.int .i64 (pk (f i)).flow)
 c1:∀ i,i<n->w.cell? ⟨b,off+i*3+1,none⟩=some (.int .i64 (pk (f i)).size)
 c2:∀ i,i<n->w.cell? ⟨b,off+i*3+2,none⟩=some (.int .i64 (pk (f i)).tick)
 fz:∀ j,w.frozen? ⟨b,j,none⟩=false
def DD (w:World)(b o:Nat)(p:Pk):World:=((w.setCell ⟨b,o,none⟩ (.int .i64 p.flow)).setCell ⟨b,o+1,none⟩ (.int .i64 p.size)).setCell ⟨b,o+2,none⟩ (.int .i64 p.tick)
theorem ZY (w:World)(b o:Nat)(p:Pk):(DD w b o p).heap.size=w.heap.size:=by simp[DD]
theorem Ei (w:World)(b o:Nat)(p:Pk){j:Nat}(h:j<o\/o+3<=j):(DD w b o p).cell? ⟨b,j,none⟩=w.cell? ⟨b,j,none⟩:=by
 unfold DD;rw[j9 _ _ _ _ (fun e=>by injection e with _ e _;omega),j9 _ _ _ _ (fun e=>by injection e with _ e _;omega),j9 _ _ _ _ (fun e=>by injection e with _ e _;omega)]
theorem iK {w:World}{b o:Nat}(p:Pk){u0 u1 u2:Value}(D:w.cell? ⟨b,o,none⟩=some u0)(z:w.cell? ⟨b,o+1,none⟩=some u1)(h:w.cell? ⟨b,o+2,none⟩=some u2):(DD w b o p).cell? ⟨b,o,none⟩=some (.int .i64 p.flow)/\(DD w b o p).cell? ⟨b,o+1,none⟩=some (.int .i64 p.size)/\(DD w b o p).cell? ⟨b,o+2,none⟩=some (.int .i64 p.tick):=by
 unfold DD;refine⟨?_,?_,?_⟩
 · rw[j9 _ _ _ _ (fun e=>by injection e with _ e _;omega),j9 _ _ _ _ (fun e=>by injection e with _ e _;omega)];exact qT _ _ _ (by rw[D];rfl)
 · rw[j9 _ _ _ _ (fun e=>by injection e with _ e _;omega)];exact qT _ _ _ (by rw[j9 _ _ _ _ (fun e=>by injection e with _ e _;omega),z];rfl)
 exact qT _ _ _ (by rw[j9 _ _ _ _ (fun e=>by injection e with _ e _;omega),j9 _ _ _ _ (fun e=>by injection e with _ e _;omega),h];rfl)
theorem UW (w:World)(b o:Nat)(p:Pk)(a:Addr):(DD w b o p).frozen? a=w.frozen? a:=by simp[DD]
theorem Np {S:Nat->Prop}{a w:World}(z:But S a w){b:Nat}(h:S b)(o:Nat)(p:Pk):But S a (DD w b o p):=((z.setCell (p:=⟨b,o,none⟩) h _).setCell (p:=⟨b,o+1,none⟩) h _).setCell (p:=⟨b,o+2,none⟩) h _
section
variable {w w':World} {b off n:Nat} {pk:Nat → Pk} {f:Nat → Nat}
theorem F5.later (h:F5 w b off n pk f)(z:zW w w'):F5 w' b off n pk f:=
 ⟨qD h.lt z.size,fun i D=>j7 z (h.c0 i D),fun i D=>j7 z (h.c1 i D),fun i D=>j7 z (h.c2 i D),fun j=>(xY (w:=w) (z.block b h.lt)).trans (h.fz j)⟩
theorem F5.put (h:F5 w b off n pk f){i:Nat}(E:i<n)(x:Nat):F5 (DD w b (off+i*3) (pk x)) b off n pk (fun k=>if k=i then x else f k):=by
 have D:=iK (pk x) (h.c0 i E) (h.c1 i E) (h.c2 i E);have key:∀ k (c:Nat),k≠i->c<3->(DD w b (off+i*3) (pk x)).cell? ⟨b,off+k*3+c,none⟩=w.cell? ⟨b,off+k*3+c,none⟩:=fun k c z H=>Ei w b _ _ (by omega)
 refine⟨by rw[ZY];exact h.lt,fun k z=>?_,fun k z=>?_,fun k z=>?_,fun j=>by rw[UW];exact h.fz j⟩
 ·
  by_cases e:k=i
  · subst e;rw[if_pos rfl];exact D.1
  simp only[if_neg e];have:=key k 0 e (by omega);rw[Nat.add_zero]at this;rw[this];exact h.c0 k z
 ·
  by_cases e:k=i
  · subst e;rw[if_pos rfl];exact D.2.1
  simp only[if_neg e];rw[key k 1 e (by omega)];exact h.c1 k z
 by_cases e:k=i
 · subst e;rw[if_pos rfl];exact D.2.2
 simp only[if_neg e];rw[key k 2 e (by omega)];exact h.c2 k z
theorem F5.xch (E:F5 w b off n pk f){i j:Nat}(H:i<n)(D:j<n):F5 (DD (DD w b (off+i*3) (pk (f j))) b (off+j*3) (pk (f i))) b off n pk (xch f i j):=by
 have:=(E.put H (f j)).put D (f i);have e:(fun k=>if k=j then f i else if k=i then f j else f k)=Go.Proofs.YtejlihcdfffafaaGreatDoor.xch f i j:=by
  funext k
  unfold Go.Proofs.YtejlihcdfffafaaGreatDoor.xch;by_cases z:k=i
  ·
   subst z;by_cases h:k=j
   · subst h;simp
   simp[h]
  simp[z]
 rw[e]at this;exact this
end
structure Ap (w0:World)(b off n:Nat)(pk:Nat->Pk)(f:Nat->Nat)(w:World):Prop where
 row:F5 w b off n pk f
 but:But (fun k=>k=b) w0 w
section
variable {w0 w w':World} {b off n:Nat} {pk:Nat → Pk} {f:Nat → Nat}
theorem Ap.later (h:Ap w0 b off n pk f w)(z:zW w w'):Ap w0 b off n pk f w':=⟨h.row.later z,h.but.trans (.ofBelow z)⟩
theorem Ap.drew (h:Ap w0 b off n pk f w):Ap w0 b off n pk f w.drew:=h.later (qL br 1)
theorem Ap.xch (h:Ap w0 b off n pk f w){i j:Nat}(D:i<n)(z:j<n):Ap w0 b off n pk (xch f i j) (DD (DD w b (off+i*3) (pk (f j))) b (off+j*3) (pk (f i))):=
 ⟨h.row.xch D z,Np (Np h.but rfl _ _) rfl _ _⟩
end
theorem Tx (w0:World)(b h n cap:Nat)(z:Nat->Pk)(av:Value)(f:Nat->Nat)(x y m:Nat)(w:World)(ac:Ap w0 b h n z f w)(a6:x+m<=y)(bc:y+m<=n)(bd:n<=1000):Calls Tryz.prog 227 #[.slice (some ⟨b,h,none⟩) n cap,.int .i64 x,.int .i64 y,.int .i64 m,av] w fun e w'=>e=.returned (.tuple #[])/\Ap w0 b h n z (swr f x y m) w':=by
 have an:Hid (Ap w0 b h n z (swr f x y 0) w):=by show Ap _ _ _ _ _ _ _;rw[gI];exact ac
 clear ac;go_in
 go_wp2_with fail;go_loopg [10] m (fun a2 aB wr=>∃ i:Nat,aB=.int .i64 i/\i<=m/\m-i<=a2/\Hid (Ap w0 b h n z (swr f x y i) wr))
 case atStart=>exact⟨0,rfl,qR _,lr,an⟩
 case round=>
  clear an;obtain⟨i,rfl,bg,bb,D⟩:=hrel;by_cases bh:i<m
  ·
   have aS:(i:Int)<(m:Int):=by omega
   obtain⟨g,V⟩:=ex (swr f x y i);have W:Hid (xch g (x+i) (y+i)=swr f x y (i+1)):=by show _=_;rw[<- V];exact gH f (by omega)
   rw[V]at D;obtain⟨p,ao⟩:=ex (x+i);obtain⟨q,aj⟩:=ex (y+i);rw[ao,aj]at W;have K:p<n:=by omega
   have N:q<n:=by omega
   have be:p≠q:=by omega
   have a8:IntKind.i64.wrap ((x:Int)+(i:Int))=(p:Int):=by rw[IntKind.wrap_i64];omega
   have a':IntKind.i64.wrap ((y:Int)+(i:Int))=(q:Int):=by rw[IntKind.wrap_i64];omega
   have a7:(p:Int)<(n:Int):=by omega
   have a9:(q:Int)<(n:Int):=by omega
   have ad:=D.o.row.c0 p K;have al:=D.o.row.c1 p K;have ab:=D.o.row.c2 p K;have Y:=D.o.row.c0 q N;have O:=D.o.row.c1 q N;have Q:=D.o.row.c2 q N;have a3:=D.o.row.fz (h+p*3);have aw:=D.o.row.fz (h+p*3+1);have aN:=D.o.row.fz (h+p*3+2);have a5:=D.o.row.fz (h+q*3);have aE:=D.o.row.fz (h+q*3+1);have a1:=D.o.row.fz (h+q*3+2);have a0:∃ U,Hid ((DD (DD wr b (h+p*3) (z (g q))) b (h+q*3) (z (g p))).drew=U)/\Hid (Ap w0 b h n z (swr f x y (i+1)) U):=⟨_,rfl,by show Ap _ _ _ _ _ _ _;rw[<- W.o];exact(D.o.xch K N).drew⟩
   have I:(DD wr b (h+p*3) (z (g q))).cell? ⟨b,h+q*3,none⟩=some (.int .i64 (z (g q)).flow):=by rw[Ei _ _ _ _ (by omega)];exact Y
   have J:(DD wr b (h+p*3) (z (g q))).cell? ⟨b,h+q*3+1,none⟩=some (.int .i64 (z (g q)).size):=by rw[Ei _ _ _ _ (by omega)];exact O
   have H:(DD wr b (h+p*3) (z (g q))).cell? ⟨b,h+q*3+2,none⟩=some (.int .i64 (z (g q)).tick):=by rw[Ei _ _ _ _ (by omega)];exact Q
   obtain⟨U,E,a4⟩:=a0;unfold DD at E I J H;obtain⟨u0,ap⟩:=ex ((z (g p)).flow);obtain⟨u1,ai⟩:=ex ((z (g p)).size);obtain⟨u2,aq⟩:=ex ((z (g p)).tick);obtain⟨v0,ar⟩:=ex ((z (g q)).flow);obtain⟨v1,am⟩:=ex ((z (g q)).size);obtain⟨v2,Z⟩:=ex ((z (g q)).tick);rw[ap]at ad E;rw[ai]at al E;rw[aq]at ab E;rw[ar]at Y E I J H;rw[am]at O E I J H;rw[Z]at Q E I J H;clear ap ai aq ar am Z;clear V ao aj D W;go_wp2
   go_region;rw[E.o];clear E ad al ab Y O Q a3 aw aN a5 aE a1 I J H;go_wp2
   go_roundg (m-(i+1))
   case measure=>omega
   case rel=>exact⟨i+1,by go_num,by omega,lr,a4⟩
  have aS:¬(i:Int)<(m:Int):=by omega
  obtain rfl:i=m:=by omega
  go_wp2
  go_end0;exact⟨rfl,D.o⟩
theorem R8 (w0:World)(b D n cap:Nat)(I:Nat->Pk)(U:Value)(f:Nat->Nat)(x m y:Nat)(w:World)(Q:Ap w0 b D n I f w)(aS:x<m)(a2:m<y)(a3:y<=n)(aw:n<=1000):Calls Tryz.prog 216 #[.slice (some ⟨b,D,none⟩) n cap,.int .i64 x,.int .i64 m,.int .i64 y,U] w fun e w'=>e=.returned (.tuple #[])/\Ap w0 b D n I (rot f x m y) w':=by
 have W:Hid (∀(g:Nat->Nat)(x y m:Nat)(w:World),Ap w0 b D n I g w->x+m<=y->y+m<=n->Calls Tryz.prog 227 #[.slice (some ⟨b,D,none⟩) n cap,.int .i64 x,.int .i64 y,.int .i64 m,U] w fun e w'=>e=.returned (.tuple #[])/\Ap w0 b D n I (swr g x y m) w'):=fun g x y m w Q h aq=>Tx w0 b D n cap I U g x y m w Q h aq aw
 have Y:=qX Q;clear Q;go_in
 have an:(m:Int)-(x:Int)=((m-x:Nat):Int):=by omega
 have ar:(y:Int)-(m:Int)=((y-m:Nat):Int):=by omega
 go_wp2_with fail;go_loopg [10,11] (y-x) (fun av aj ai wr=>∃(i j:Nat)(g:Nat->Nat),aj=.int .i64 i/\ai=.int .i64 j/\1<=i/\i<=m-x/\1<=j/\j<=y-m/\i+j<=av/\Hid (rot g (m-i) m (m+j)=rot f x m y)/\Hid (Ap w0 b D n I g wr))
 case atStart=>exact⟨m-x,y-m,f,by go_num,by go_num,by omega,by omega,by omega,by omega,by omega,by show _=_;rw[show m-(m-x)=x by omega,show m+(y-m)=y by omega],Y⟩
 case round=>
  clear Y;obtain⟨i,j,g,rfl,rfl,ao,aE,aB,al,a1,K,J⟩:=hrel;have ad:(m:Int)-(i:Int)=((m-i:Nat):Int):=by omega
  obtain⟨s,V⟩:=ex (m-i);rw[V]at ad;have H:=qX V;clear V an ar;rcases yN i j with aN|ap|hgt
  ·
   have am:((i:Int)==(j:Int))=false:=by simp;omega
   have ac:¬(j:Int)<(i:Int):=by omega
   obtain⟨q,Z⟩:=ex (m+j-i);have a0:(m:Int)+(j:Int)-(i:Int)=(q:Int):=by omega
   have E:=W.o g s q i wr J.o (by have:=H.o;omega) (by omega);have z:=qX E;have N:Hid (rot (swr g s q i) s m (m+(j-i))=rot f x m y):=by show _=_;rw[<- K.o,<- Z,<- H.o];exact ZF g aN (by omega)
   clear E Z K J;go_wp2_with fail;refine z.o.mono ?_
   rintro e ab ⟨rfl,h⟩;have O:=qX h;clear h z;go_wp2
   go_roundg (i+(j-i))
   case measure=>omega
   case rel=>exact⟨i,j-i,_,rfl,by go_num,ao,aE,by omega,by omega,lr,by show _=_;rw[H.o];exact N.o,O⟩
  ·
   subst ap;have E:=W.o g s m i wr J.o (by have:=H.o;omega) (by omega);have z:=qX E;have N:Hid (swr g s m i=rot f x m y):=by show _=_;rw[<- K.o,<- H.o];exact cz g (by omega)
   clear E K J;go_wp2_with fail;refine z.o.mono ?_
   rintro e ab ⟨rfl,h⟩;rw[N.o]at h;have O:=qX h;clear h z;go_wp2
   go_end0;exact⟨rfl,O.o⟩
  have am:((i:Int)==(j:Int))=false:=by simp;omega
  have ac:(j:Int)<(i:Int):=by omega
  have E:=W.o g s m j wr J.o (by have:=H.o;omega) (by omega);have z:=qX E;have N:Hid (rot (swr g s m j) (m-(i-j)) m (m+j)=rot f x m y):=by show _=_;rw[<- K.o,<- H.o];exact ed g hgt (by omega)
  clear E K J;go_wp2_with fail;refine z.o.mono ?_
  rintro e ab ⟨rfl,h⟩;have O:=qX h;clear h z;go_wp2
  go_roundg (i-j+j)
  case measure=>omega
  case rel=>exact⟨i-j,j,_,by go_num,rfl,by omega,by omega,aB,al,lr,N,O⟩
theorem Tryz.callByTick (args:Array Value)(h:World):Sem.run Tryz.prog (callFunc 129 args) h=.ok (.enter 129 args) h:=by kernel_rfl
theorem Hl (p q:Pk)(w:World):Calls Tryz.prog 129 #[.agg #[.int .i64 p.flow,.int .i64 p.size,.int .i64 p.tick],.agg #[.int .i64 q.flow,.int .i64 q.size,.int .i64 q.tick]] w fun e w'=>e=.returned (.int .i64 (EL p.tick q.tick))/\zW w w':=by
 obtain⟨E,H,h⟩:=p;obtain⟨K,N,z⟩:=q;have J:Hid (∀ D:World,Calls Tryz.prog 130 #[.int .i64 h,.int .i64 z] D fun e w'=>e=.returned (.int .i64 (EL h z))/\w'=D):=fun D=>KZ h z D
 have I:zW w (w.alloc (.cells #[.int .i64 E,.int .i64 H,.int .i64 h] 50)):=ba;have O:Hid (zW w ((w.alloc (.cells #[.int .i64 E,.int .i64 H,.int .i64 h] 50)).alloc (.cells #[.int .i64 K,.int .i64 N,.int .i64 z] 50))):=I.alloc I.size _;show Calls Tryz.prog 129 #[.agg #[.int .i64 E,.int .i64 H,.int .i64 h],.agg #[.int .i64 K,.int .i64 N,.int .i64 z]] w fun e w'=>e=.returned (.int .i64 (EL h z))/\zW w w'
 generalize EL h z=r at J ⊢;clear I;go_in
 go_wp2_with fail;refine(J.o _).mono ?_
 rintro e Q ⟨rfl,rfl⟩;go_wp2
 go_ret;exact⟨rfl,O.o⟩
def Aa (h:Nat->Pk)(x:Nat):Int:=(h x).tick
theorem Uq (w0:World)(b off n cap:Nat)(pk:Nat->Pk)(f:Nat->Nat)(x y:Nat)(w:World)(h:Ap w0 b off n pk f w)(hxy:x<=y)(hy:y<=n)(hn:n<=1000)(hnum:∀ i j,x<=i->i<j->j<y->f i<f j):Calls Tryz.prog 187 #[.slice (some ⟨b,off,none⟩) n cap,.int .i64 x,.int .i64 y,.func (.func 129) #[] #[]] w fun e w'=>e=.returned (.tuple #[])/\∃ g,Merged (Aa pk) f g x y/\Ap w0 b off n pk g w':=by
 have H0:=qX h;have HN:=qX hnum;have hcall:=Tryz.callByTick;clear h hnum;go_in
 go_wp2_with fail;go_loopg [8] (y-x) (fun gk iv wr=>∃(i:Nat)(g:Nat->Nat),iv=.int .i64 i/\x<i/\(i<=y\/g=f/\i=x+1)/\y-i<=gk/\Hid (Merged (Aa pk) f g x i)/\Hid (Ap w0 b off n pk g wr))
 case atStart=>exact⟨x+1,f,by go_num,by omega,.inr ⟨rfl,rfl⟩,by omega,⟨Gj.refl _ _ _,fun i j h1 h2 h3=>by omega⟩,H0⟩
 case round=>
  clear H0;obtain⟨i,g,rfl,hxi,hiy,hgk,HM,H⟩:=hrel;by_cases hlt:i<y
  ·
   have hltz:(i:Int)<(y:Int):=by omega
   have HL:Hid (Lower g x i (i+1)):=fun k l h1 h2 h3 h4=>by
    obtain rfl:l=i:=by omega
    rw[HM.o.1.out l (by omega)];obtain⟨k',k1,k2,k3⟩:=HM.o.1.of k h1 h2;rw[k3];exact HN.o k' l k1 k2 hlt
   clear hiy;go_wp2_with fail;obtain⟨W0,hW0⟩:∃ W,W=wr:=⟨_,rfl⟩
   subst hW0;obtain⟨gO,hgO⟩:∃ z,z=gk:=⟨_,rfl⟩
   subst hgO;go_loopg [9] i (fun gk2 jv wr=>∃ p:Nat,jv=.int .i64 p/\x<=p/\p<=i/\p<=gk2/\Hid (p=i\/Aa pk (g i)<Aa pk (g p))/\Hid (Ap w0 b off n pk (rot g p i (i+1)) wr))
   case atStart=>exact⟨i,rfl,by omega,lr,lr,.inl rfl,by show Ap _ _ _ _ _ _ _;rw[O8];exact H.o⟩
   case round=>
    obtain⟨p,rfl,hxp,hpi,hgk2,HHi,H'⟩:=hrel;clear H;have OUT:Hid ((p=x\/Aa pk (g (p-1))<=Aa pk (g i))->Merged (Aa pk) f (rot g p i (i+1)) x (i+1)):=fun hlo=>by
     have hm:=YY hxp hpi HM.o.2 HL.o hlo HHi.o;exact⟨(HM.o.1.wide lr (by omega)).trans hm.1,hm.2⟩
    have EP:Hid (rot g p i (i+1) p=g i):=by show rot _ _ _ _ _=_;simp only[rot];rw[if_pos (by omega)];congr 1;omega
    by_cases hxp':x<p
    ·
     have hxz:(x:Int)<(p:Int):=by omega
     have hxd:decide ((x:Int)<(p:Int))=true:=by simpa using hxz
     obtain⟨q,hq⟩:=ex (p-1);have HQ:Hid (p=q+1):=by show _=_;omega
     have EQ:Hid (rot g p i (i+1) q=g q):=by show rot _ _ _ _ _=_;simp only[rot];rw[if_neg (by omega),if_neg (by omega)]
     have HG:Hid (xch (rot g p i (i+1)) p q=rot g q i (i+1)):=by show _=_;rw[HQ.o];exact Wy g (by omega)
     rw[hq]at OUT;obtain⟨k,hk⟩:=ex (rot g p i (i+1));rw[hk]at H' EP EQ HG OUT;have hpn:p<n:=by omega
     have hqn:q<n:=by omega
     have hpq:p≠q:=by omega
     have wq:IntKind.i64.wrap ((p:Int)-1)=(q:Int):=by rw[IntKind.wrap_i64];omega
     have wq':(p:Int)-1=(q:Int):=by omega
     clear hk hq;have a0:=H'.o.row.c0 p hpn;have a1:=H'.o.row.c1 p hpn;have a2:=H'.o.row.c2 p hpn;have b0:=H'.o.row.c0 q hqn;have b1:=H'.o.row.c1 q hqn;have b2:=H'.o.row.c2 q hqn;have hpz:(p:Int)<(n:Int):=by omega
     have hqz:(q:Int)<(n:Int):=by omega
     have HC:Hid (∀ l:Later wr,Calls Tryz.prog 129 #[.agg #[.int .i64 (pk (k p)).flow,.int .i64 (pk (k p)).size,.int .i64 (pk (k p)).tick],.agg #[.int .i64 (pk (k q)).flow,.int .i64 (pk (k q)).size,.int .i64 (pk (k q)).tick]] l.w fun e w'=>e=.returned (.int .i64 (EL (pk (k p)).tick (pk (k q)).tick))/\∃ l':Later wr,w'=l'.w):=Later.calls fun W _=>Hl _ _ W
     obtain⟨r,hr⟩:=ex (EL (pk (k p)).tick (pk (k q)).tick);have hrl:r<0↔(pk (k p)).tick<(pk (k q)).tick:=by rw[<- hr];exact KC
     have HRL:=qX hrl;rw[hr]at HC;generalize (pk (k p)).flow=u0 at a0 HC;generalize (pk (k p)).size=u1 at a1 HC;generalize (pk (k p)).tick=u2 at a2 HC;generalize (pk (k q)).flow=v0 at b0 HC;generalize (pk (k q)).size=v1 at b1 HC;generalize (pk (k q)).tick=v2 at b2 HC;have y0:=fun l:Later wr=>l.cell a0
     have y1:=fun l:Later wr=>l.cell a1
     have y2:=fun l:Later wr=>l.cell a2
     have y3:=fun l:Later wr=>l.cell b0
     have y4:=fun l:Later wr=>l.cell b1
     have y5:=fun l:Later wr=>l.cell b2
     have hne:Nonempty (Later wr):=⟨⟨wr,br⟩⟩
     clear hr hrl a0 a1 a2 b0 b1 b2;by_cases hless:r<0
     ·
      have hlt2:=HRL.o.1 hless;rw[EP.out,EQ.out]at hlt2;have HT:=qX hlt2;have hd:decide (r<0)=true:=by simpa using hless
      clear hlt2 HRL;go_wp2_with fail;refine BS (by kernel_rfl) (by kernel_rfl) ?_
      repeat (go_big_quiet_step (exact HC.o _))
      refine wpQuiet_nil ?_
      rintro _ ⟨gq,rfl⟩;have H1:=qX (H'.o.later gq.bel);generalize gq.w=W1 at H1 ⊢;clear HC y0 y1 y2 y3 y4 y5 hne gq;clear hless hd hxd;have hpz:(p:Int)<(n:Int):=by omega
      have hqz:(q:Int)<(n:Int):=by omega
      have a0:=H1.o.row.c0 p hpn;have a1:=H1.o.row.c1 p hpn;have a2:=H1.o.row.c2 p hpn;have b0:=H1.o.row.c0 q hqn;have b1:=H1.o.row.c1 q hqn;have b2:=H1.o.row.c2 q hqn;have f0:=H1.o.row.fz (off+p*3);have f1:=H1.o.row.fz (off+p*3+1);have f2:=H1.o.row.fz (off+p*3+2);have g0:=H1.o.row.fz (off+q*3);have g1:=H1.o.row.fz (off+q*3+1);have g2:=H1.o.row.fz (off+q*3+2);have H2:∃ V,Hid ((DD (DD W1 b (off+p*3) (pk (k q))) b (off+q*3) (pk (k p))).drew=V)/\Hid (Ap w0 b off n pk (rot g q i (i+1)) V):=⟨_,rfl,by show Ap _ _ _ _ _ _ _;rw[<- HG.o];exact(H1.o.xch hpn hqn).drew⟩
      have k0:(DD W1 b (off+p*3) (pk (k q))).cell? ⟨b,off+q*3,none⟩=some (.int .i64 (pk (k q)).flow):=by rw[Ei _ _ _ _ (by omega)];exact b0
      have k1:(DD W1 b (off+p*3) (pk (k q))).cell? ⟨b,off+q*3+1,none⟩=some (.int .i64 (pk (k q)).size):=by rw[Ei _ _ _ _ (by omega)];exact b1
      have k2:(DD W1 b (off+p*3) (pk (k q))).cell? ⟨b,off+q*3+2,none⟩=some (.int .i64 (pk (k q)).tick):=by rw[Ei _ _ _ _ (by omega)];exact b2
      obtain⟨V,HV,HVS⟩:=H2;unfold DD at HV k0 k1 k2;obtain⟨u0,hu0⟩:=ex ((pk (k p)).flow);obtain⟨u1,hu1⟩:=ex ((pk (k p)).size);obtain⟨u2,hu2⟩:=ex ((pk (k p)).tick);obtain⟨v0,hv0⟩:=ex ((pk (k q)).flow);obtain⟨v1,hv1⟩:=ex ((pk (k q)).size);obtain⟨v2,hv2⟩:=ex ((pk (k q)).tick);rw[hu0]at a0 HV;rw[hu1]at a1 HV;rw[hu2]at a2 HV;rw[hv0]at b0 HV k0 k1 k2;rw[hv1]at b1 HV k0 k1 k2;rw[hv2]at b2 HV k0 k1 k2;clear hu0 hu1 hu2 hv0 hv1 hv2;clear H1;go_wp2
      go_region;rw[HV.o];clear HV a0 a1 a2 b0 b1 b2 f0 f1 f2 g0 g1 g2 k0 k1 k2;go_wp2
      go_roundg q
      case measure=>have:=HQ.o;omega
      case rel=>exact⟨q,by go_num,by have:=HQ.o;omega,by have:=HQ.o;omega,lr,.inr HT.o,HVS⟩
     have hge:¬(pk (k p)).tick<(pk (k q)).tick:=fun h=>hless (HRL.o.2 h)
     rw[EP.out,EQ.out]at hge;have HM2:Hid (Merged (Aa pk) f k x (i+1)):=OUT.out (.inr (by unfold Aa;omega));have hd:decide (r<0)=false:=by simpa using hless
     clear hge HRL;go_wp2_with fail;refine BS (by kernel_rfl) (by kernel_rfl) ?_
     repeat (go_big_quiet_step (exact HC.o _))
     refine wpQuiet_nil ?_
     rintro _ ⟨gq,rfl⟩;have H1:=qX (H'.o.later gq.bel);generalize gq.w=W1 at H1 ⊢;clear HC y0 y1 y2 y3 y4 y5 hne gq;clear hless hd hxd;go_wp2
     go_roundg (y-(i+1))
     case measure=>omega
     case rel=>exact⟨i+1,k,by go_num,by omega,.inl (by omega),lr,HM2,H1⟩
    have hxz:¬(x:Int)<(p:Int):=by omega
    have hxd:decide ((x:Int)<(p:Int))=false:=by simpa using hxz
    have HM2:Hid (Merged (Aa pk) f (rot g p i (i+1)) x (i+1)):=OUT.out (.inl (by omega));have hne:Nonempty (Later wr):=⟨⟨wr,br⟩⟩
    go_wp2_with fail;refine BS (by kernel_rfl) (by kernel_rfl) ?_
    repeat (go_big_quiet_step (fail))
    refine wpQuiet_nil ?_
    rintro _ ⟨gq,rfl⟩;have H1:=qX (H'.o.later gq.bel);generalize gq.w=W1 at H1 ⊢;clear hne gq;go_wp2
    go_roundg (y-(i+1))
    case measure=>omega
    case rel=>exact⟨i+1,_,by go_num,by omega,.inl (by omega),lr,HM2,H1⟩
  have hltz:¬(i:Int)<(y:Int):=by omega
  have HM2:Hid (Merged (Aa pk) f g x y):=by
   rcases hiy with h|h
   ·
    obtain rfl:i=y:=by omega
    exact HM.o
   rw[h.1];have:=h.2;exact⟨Gj.refl _ _ _,fun k l h1 h2 h3=>by omega⟩
  go_wp2
  go_end0;exact⟨rfl,g,HM2.o,H.o⟩
end Go.Proofs.YtejlihcdfffafaaGreatDoor
