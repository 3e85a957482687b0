/- Own facts, put together: no statement of its own. -/
import Derived.Test.YtipdclphpkgceaaGreatDoorA03
import Derived.Test.YtipdclphpkgceaaGreatDoorA02

namespace Go.Proofs.YtipdclphpkgceaaGreatDoor
def Bd (ps:List Pk) (j:Nat):Int:=match ps[j]? with | some p=>p.size | none=>1
theorem Df {ps:List Pk} {j:Nat} {p:Pk} (h:ps[j]? = some p):Bd ps j=p.size:=by simp [Bd,h]
theorem Cr {ps:List Pk} (ho:Aj ps) (j:Nat):1 ≤ Bd ps j ∧ Bd ps j ≤ 1500:=by
 cases h:ps[j]? with
 | none=>simp [Bd,h]
 | some p=>
  rw [Df h]
  have:=Bb (ho.each _ p h).1
  omega
theorem QO {ps:List Pk} (ho:Aj ps) (j:Nat):Ae ps j < 8:=by
 cases h:ps[j]? with
 | none=>simp [Ae,h]
 | some p=>
  rw [ES h]
  have:=Bb (ho.each _ p h).1
  omega
def BN (ns:List Int) (f:Nat):Int:=ns.getD f 1
theorem IY {ns:List Int} {f:Nat} {x:Int} (h:ns[f]? = some x):BN ns f=x:=by simp [BN,List.getD,h]
theorem H9 {ns:List Int} {hi:Int} (h:∀ (i:Nat) x,ns[i]? = some x → 1 ≤ x ∧ x ≤ hi) (h1:1 ≤ hi) (f:Nat):1 ≤ BN ns f ∧ BN ns f ≤ hi:=by
 cases hx:ns[f]? with
 | none=>simp [BN,List.getD,hx];exact h1
 | some x=>rw [IY hx];exact h f x hx
def cnt (q:Nat → List Nat):Nat → Nat
 | 0=>0
 | n+1=>cnt q n+(q n).length
theorem Rc (q:Nat → List Nat) (f:Nat) (x:List Nat):∀ n,cnt (Au q f x) n+(if f < n then (q f).length else 0)=cnt q n+(if f < n then x.length else 0)
 | 0=>by simp [cnt]
 | n+1=>by
  have ih:=Rc q f x n
  simp only [cnt]
  by_cases e:n=f
  ·
   subst e
   rw [Aq,if_pos (Nat.lt_succ_self _),if_pos (Nat.lt_succ_self _)]
   rw [if_neg (Nat.lt_irrefl _),if_neg (Nat.lt_irrefl _)] at ih
   omega
  ·
   rw [Al _ _ e]
   by_cases h:f < n
   ·
    rw [if_pos h,if_pos h] at ih
    rw [if_pos (by omega),if_pos (by omega)]
    omega
   ·
    rw [if_neg h,if_neg h] at ih
    rw [if_neg (by omega),if_neg (by omega)]
    omega
theorem Qs (q:Nat → List Nat) {f:Nat}:∀ n,f < n → (q f).length ≤ cnt q n
 | 0,h=>by omega
 | n+1,h=>by
  simp only [cnt]
  by_cases e:f=n
  · subst e;omega
  · have:=Qs q n (show f < n by omega);omega
theorem Ns {q:Nat → List Nat} (h:∀ f,q f=[]):∀ n,cnt q n=0
 | 0=>rfl
 | n+1=>by simp only [cnt,h n,List.length_nil,Ns h n]
structure TQ where
 d:Drr
 n:Nat
def YB (ps:List Pk) (d:Drr):Nat:=2 * d.need (Bd ps)+5
def Zt (ps:List Pk) (ns:List Int) (d:Drr):Option (Nat × Drr):=Drr.go (Bd ps) (BN ns) (YB ps d) d
def BC (ps:List Pk) (ns:List Int):Que TQ where
 come q k:=⟨q.d.come (Ae ps) k,q.n+1⟩
 pick q:=match Zt ps ns q.d with | some x=>x.1 | none=>0
 left q:=match Zt ps ns q.d with | some x=>⟨x.2,q.n - 1⟩ | none=>q
 rest q:=q.n
def EO:TQ:=⟨⟨fun _=>[],fun _=>0,[],none⟩,0⟩
structure II (ps:List Pk) (ns:List Int) (M:Int) (q:TQ):Prop where
 state:Cy (Ae ps) (Bd ps) (BN ns) M q.d
 count:q.n=cnt q.d.qs 8
 few:∀ f,8 ≤ f → q.d.qs f=[]
section
variable {ps:List Pk} {ns:List Int} {M:Int}
theorem II.line {q:TQ} (h:II ps ns M q):q.n=0 ↔ q.d.line=[]:=by
 constructor
 ·
  intro h0
  have hz:∀ f,q.d.qs f=[]:=fun f=>by
   rcases Nat.lt_or_ge f 8 with hf | hf
   ·
    have:=Qs q.d.qs 8 hf
    have hc:=h.count
    exact List.length_eq_zero_iff.1 (by omega)
   · exact h.few f hf
  cases hl:q.d.line with
  | nil=>rfl
  | cons f r=>exact absurd (hz f) ((h.state.active f).1 (by rw [hl];exact List.mem_cons_self ..))
 ·
  intro hl
  rw [h.count]
  refine Ns (fun f=>?_) 8
  cases hf:q.d.qs f with
  | nil=>rfl
  | cons a b=>
   have:=(h.state.active f).2 (by rw [hf];simp)
   rw [hl] at this
   cases this
theorem II.picks {q:TQ} (hq:∀ f,1 ≤ BN ns f) (h:II ps ns M q) (h0:0 < q.n):∃ k e,Zt ps ns q.d=some (k,e) ∧ (BC ps ns).pick q=k ∧ (BC ps ns).left q=⟨e,q.n - 1⟩ ∧ ∃ f r c,VK (Ae ps) (Bd ps) (BN ns) M q.d k e f r c:=by
 have hne:q.d.line ≠ []:=fun e=>by have:=h.line.2 e;omega
 obtain ⟨⟨k,e⟩,hx⟩:=ZK hq (q.d.need (Bd ps)) q.d h.state hne (Nat.le_refl _)
 have hx':Zt ps ns q.d=some (k,e):=hx
 refine ⟨k,e,hx',?_,?_,S9 hq _ _ _ _ h.state hx⟩
 · simp only [BC,hx']
 · simp only [BC,hx']
theorem II.left {q:TQ} (hq:∀ f,1 ≤ BN ns f) (h:II ps ns M q) (h0:0 < q.n):II ps ns M ((BC ps ns).left q):=by
 obtain ⟨k,e,hx,h1,h2,f,r,c,sa⟩:=h.picks hq h0
 rw [h2]
 have hqs:e.qs=Au q.d.qs f r:=by rw [sa.left,Qd,sa.same]
 have hhead:q.d.qs f=k :: r:=by rw [← sa.same];exact sa.head
 have hf8:f < 8:=by
  rcases Nat.lt_or_ge f 8 with h' | h'
  · exact h'
  · have:=h.few f h';rw [hhead] at this;cases this
 refine ⟨by rw [sa.left];exact sa.ok.sent sa.srv sa.head sa.fit,?_,fun g hg=>?_⟩
 ·
  have hp:=Rc q.d.qs f r 8
  rw [if_pos hf8,if_pos hf8,hhead,List.length_cons] at hp
  have hc:=h.count
  show q.n - 1=cnt e.qs 8
  rw [hqs]
  omega
 ·
  show e.qs g=[]
  rw [hqs,Al _ _ (by omega)]
  exact h.few g hg
theorem II.come {q:TQ} (ho:Aj ps) (hM:∀ k,Bd ps k ≤ M) (h:II ps ns M q) (k:Nat):II ps ns M ((BC ps ns).come q k):=by
 have hf:=QO ho k
 have hqs:((BC ps ns).come q k).d.qs=Au q.d.qs (Ae ps k) (q.d.qs (Ae ps k) ++ [k]):=rfl
 refine ⟨h.state.come k (Cr ho k).1 (hM k),?_,fun g hg=>?_⟩
 ·
  have hp:=Rc q.d.qs (Ae ps k) (q.d.qs (Ae ps k) ++ [k]) 8
  rw [if_pos hf,if_pos hf,List.length_append,List.length_cons,List.length_nil] at hp
  have hc:=h.count
  show q.n+1=cnt _ 8
  rw [hqs]
  omega
 ·
  rw [hqs,Al _ _ (by omega)]
  exact h.few g hg
theorem Je (ho:Aj ps) (hq:∀ f,1 ≤ BN ns f) (h1:1 ≤ M) (hM:∀ k,Bd ps k ≤ M):Tv (BC ps ns) (Ae ps) (Bd ps) (BN ns) EO (II ps ns M) TQ.d where
 start:=⟨⟨Nu h1,(Ns (fun _=>rfl) 8).symm,fun _ _=>rfl⟩,rfl⟩
 come:=fun q k h=>⟨h.come ho hM k,rfl⟩
 pick:=fun q h h0=>⟨h.left hq h0,by
  obtain ⟨k,e,hx,e1,e2,-⟩:=h.picks hq h0
  rw [e1,e2]
  exact ⟨_,hx⟩⟩
 rest:=fun q h=>h.line
 idle:=fun q h _=>⟨h,rfl⟩
variable {per:Int}
theorem Jn (ho:Aj ps) (hq:∀ f,1 ≤ BN ns f):Ia (BC ps ns) per ps EO where
 none:=rfl
 come:=fun s _ _=>rfl
 left:=fun s hr h0=>by
  obtain ⟨H,r⟩:=KS (M:=1500) (Je ho hq (by omega) (fun k=>(Cr ho k).2)) hq (by omega) (fun k _=>Cr ho k) ho hr
  obtain ⟨k,e,hx,e1,e2,-⟩:=r.good.picks hq h0
  rw [e2]
  have h0':0 < s.q.n:=h0
  show s.q.n - 1+1=s.q.n
  omega
 pick:=fun s hr h0=>by
  obtain ⟨H,r⟩:=KS (M:=1500) (Je ho hq (by omega) (fun k=>(Cr ho k).2)) hq (by omega) (fun k _=>Cr ho k) ho hr
  obtain ⟨k,e,hx,e1,e2,f,t,c,sa⟩:=r.good.picks hq h0
  rw [e1]
  refine (r.only f k ?_).1
  rw [← sa.same,sa.head]
  exact List.mem_cons_self ..
 idle:=fun s _ h=>h
theorem FU (ho:Aj ps) (hq:∀ f,1 ≤ BN ns f) (h1:1 ≤ M) (hM:∀ k,Bd ps k ≤ M) {s:St TQ} (hr:Reaches (BC ps ns) per ps EO s):∃ H,N8 (Ae ps) (Bd ps) (BN ns) M ps (II ps ns M) TQ.d s H:=
 KS (Je ho hq h1 hM) hq h1 (fun k _=>⟨(Cr ho k).1,hM k⟩) ho hr
theorem RX (ho:Aj ps) (hq:∀ f,1 ≤ BN ns f) {s:St TQ} (hr:Reaches (BC ps ns) per ps EO s):II ps ns 1500 s.q:=by
 obtain ⟨H,r⟩:=FU (M:=1500) ho hq (by omega) (fun k=>(Cr ho k).2) hr
 exact r.good
theorem Xd (ho:Aj ps) (hq:∀ f,1 ≤ BN ns f) {s:St TQ} (hr:Reaches (BC ps ns) per ps EO s) (f:Nat):(s.q.d.qs f).length ≤ 300 ∧ ∀ k,k ∈ s.q.d.qs f → k < s.next ∧ Ae ps k=f:=by
 obtain ⟨H,r⟩:=FU (M:=1500) ho hq (by omega) (fun k=>(Cr ho k).2) hr
 refine ⟨?_,fun k hk=>⟨(r.only f k hk).1,(r.state.size f k hk).1⟩⟩
 rcases Nat.lt_or_ge f 8 with hf | hf
 ·
  have h1:=Qs s.q.d.qs 8 hf
  have h2:=r.good.count
  have h3:=hr.count (Jn ho hq)
  have h4:=hr.next_le
  have h5:=ho.few
  have h6:(BC ps ns).rest s.q=s.q.n:=rfl
  omega
 · rw [r.good.few f hf];simp
end
def Np {σ:Type} (Q:Que σ) (per:Int) (ps:List Pk) (s:St σ):Option (St σ):=
 match ps[s.next]? with
 | some p=>if p.tick ≤ s.now then some ⟨s.out,s.now,s.next+1,Q.come s.q s.next⟩ else if 0 < Q.rest s.q then (match ps[Q.pick s.q]? with | some p=>some ⟨s.out ++ [⟨Q.pick s.q,s.now,s.now+per * p.size⟩],s.now+per * p.size,s.next,Q.left s.q⟩ | none=>none) else some ⟨s.out,p.tick,s.next,Q.idle s.q⟩
 | none=>if 0 < Q.rest s.q then (match ps[Q.pick s.q]? with | some p=>some ⟨s.out ++ [⟨Q.pick s.q,s.now,s.now+per * p.size⟩],s.now+per * p.size,s.next,Q.left s.q⟩ | none=>none) else none
def JA {σ:Type} (Q:Que σ) (per:Int) (ps:List Pk) (s:St σ):Nat → Option (St σ)
 | 0=>some s
 | n+1=>(JA Q per ps s n).bind (Np Q per ps)
section
variable {σ:Type} {Q:Que σ} {per:Int} {ps:List Pk} {q0:σ}
theorem J7 {s:St σ} (h:Reaches Q per ps q0 s):∃ n,JA Q per ps ⟨[],0,0,q0⟩ n=some s:=by
 refine h.by_steps (C:=fun s=>∃ n,JA Q per ps ⟨[],0,0,q0⟩ n=some s) ⟨0,rfl⟩ ?_ ?_ ?_
 ·
  rintro s p _ hp ht ⟨n,hn⟩
  refine ⟨n+1,?_⟩
  rw [JA,hn,Option.bind_some,Np,hp]
  simp only [if_pos ht]
 ·
  rintro s p _ hall h0 hp ⟨n,hn⟩
  refine ⟨n+1,?_⟩
  rw [JA,hn,Option.bind_some,Np]
  cases hx:ps[s.next]? with
  | none=>simp only [if_pos h0,hp]
  | some r=>
   have:=hall r hx
   simp only [if_neg (show ¬ r.tick ≤ s.now by omega),if_pos h0,hp]
 ·
  rintro s p _ hp ht h0 ⟨n,hn⟩
  refine ⟨n+1,?_⟩
  rw [JA,hn,Option.bind_some,Np,hp]
  simp only [if_neg (show ¬ p.tick ≤ s.now by omega),if_neg (show ¬ 0 < Q.rest s.q by omega)]
theorem K8 {s0 s:St σ} {n:Nat} (h:JA Q per ps s0 n=some s) (he:Np Q per ps s=none):∀ k,JA Q per ps s0 (n+k+1)=none
 | 0=>by rw [Nat.add_zero,JA,h,Option.bind_some,he]
 | k+1=>by rw [show n+(k+1)+1=(n+k+1)+1 by omega,JA,K8 h he k];rfl
theorem KH {s t:St σ} (hs:Reaches Q per ps q0 s) (ht:Reaches Q per ps q0 t) (s1:¬ s.next < ps.length) (s2:Q.rest s.q=0) (t1:¬ t.next < ps.length) (t2:Q.rest t.q=0):s=t:=by
 have end_:∀ u:St σ,¬ u.next < ps.length → Q.rest u.q=0 → Np Q per ps u=none:=fun u h1 h2=>by
  rw [Np,List.getElem?_eq_none (by omega)]
  simp only [if_neg (show ¬ 0 < Q.rest u.q by omega)]
 obtain ⟨n,hn⟩:=J7 hs
 obtain ⟨m,hm⟩:=J7 ht
 rcases Nat.lt_trichotomy n m with h | h | h
 ·
  have:=K8 hn (end_ s s1 s2) (m - n - 1)
  rw [show n+(m - n - 1)+1=m by omega,hm] at this
  cases this
 ·
  subst h
  exact Option.some.inj (hn.symm.trans hm)
 ·
  have:=K8 hm (end_ t t1 t2) (n - m - 1)
  rw [show m+(n - m - 1)+1=n by omega,hn] at this
  cases this
end
def Dz (per:Int) (ps:List Pk) (ns:List Int) (l:List Sn):Prop:=∃ s,Reaches (BC ps ns) per ps EO s ∧ ¬ s.next < ps.length ∧ (BC ps ns).rest s.q=0 ∧ s.out=l
theorem Dz.same {per:Int} {ps:List Pk} {ns:List Int} {l m:List Sn} (h:Dz per ps ns l) (k:Dz per ps ns m):l=m:=by
 obtain ⟨s,h1,h2,h3,rfl⟩:=h
 obtain ⟨t,k1,k2,k3,rfl⟩:=k
 rw [KH h1 k1 h2 h3 k2 k3]
section
variable {per:Int} {ps:List Pk} {ns:List Int} {l:List Sn}
theorem Dz.length (ho:Aj ps) (hq:∀ f,1 ≤ BN ns f) (h:Dz per ps ns l):l.length=ps.length:=by
 obtain ⟨s,h1,h2,h3,rfl⟩:=h
 have:=h1.count (Jn ho hq)
 have:=h1.next_le
 omega
end
def JF (ps:List Pk) (out:List Sn) (f n:Nat):List Nat:=(List.range n).filter fun i=>Ae ps i == f && !AZ out i
theorem TT (ps:List Pk) (out:List Sn) (f n:Nat):JF ps out f (n+1)=JF ps out f n ++ if Ae ps n=f ∧ AZ out n=false then [n] else []:=by
 unfold JF
 rw [List.range_succ,List.filter_append]
 congr 1
 by_cases h:Ae ps n=f ∧ AZ out n=false
 · rw [if_pos h];simp [h.1,h.2]
 ·
  rw [if_neg h]
  simp only [List.filter_cons,List.filter_nil]
  rw [if_neg]
  intro h'
  rw [Bool.and_eq_true,beq_iff_eq,Bool.not_eq_true'] at h'
  exact h h'
section
variable {ps:List Pk} {ns:List Int} {per:Int}
theorem Sb (ho:Aj ps) (hq:∀ f,1 ≤ BN ns f) (hper:1 ≤ per) {s:St TQ} (hr:Reaches (BC ps ns) per ps EO s):(∀ i,i < s.next → Ay ps i ≤ s.now) ∧ ∀ f,s.q.d.qs f=JF ps s.out f s.next:=by
 refine hr.by_steps (C:=fun s=>(∀ i,i < s.next → Ay ps i ≤ s.now) ∧ ∀ f,s.q.d.qs f=JF ps s.out f s.next) ⟨fun i h=>absurd h (Nat.not_lt_zero _),fun f=>rfl⟩ ?_ ?_ ?_
 ·
  rintro s p hs hp ht ⟨i1,i2⟩
  refine ⟨fun i hi=>?_,fun f=>?_⟩
  ·
   rcases Nat.lt_or_ge i s.next with h | h
   · exact i1 i h
   ·
    obtain rfl:i=s.next:=by simp only at hi;omega
    rw [AJ hp];exact ht
  ·
   obtain ⟨H,r⟩:=FU (M:=1500) ho hq (by omega) (fun k=>(Cr ho k).2) hs
   have hnew:AZ s.out s.next=false:=by
    cases hd:AZ s.out s.next with
    | false=>rfl
    | true=>have:=r.gone _ hd;omega
   show Au s.q.d.qs (Ae ps s.next) (s.q.d.qs (Ae ps s.next) ++ [s.next]) f=JF ps s.out f (s.next+1)
   rw [TT]
   by_cases e:f=Ae ps s.next
   ·
    subst e
    rw [Aq,i2,if_pos ⟨rfl,hnew⟩]
   · rw [Al _ _ e,i2,if_neg (fun h=>e h.1.symm),List.append_nil]
 ·
  rintro s p hs hall h0 hp ⟨i1,i2⟩
  obtain ⟨H,r⟩:=FU (M:=1500) ho hq (by omega) (fun k=>(Cr ho k).2) hs
  obtain ⟨k,e,hx,e1,e2,f,t,c,sa⟩:=r.good.picks hq h0
  rw [e1] at hp ⊢
  obtain ⟨-,-,z1,-,-,-⟩:=Bb (ho.each _ p hp).1
  have a1:0 ≤ per * p.size:=Int.mul_nonneg (by omega) (by omega)
  have hqs:e.qs=Au s.q.d.qs f t:=by rw [sa.left,Qd,sa.same]
  have hhead:s.q.d.qs f=k :: t:=by rw [← sa.same];exact sa.head
  have hkf:Ae ps k=f:=(r.state.size f k (by rw [hhead];exact List.mem_cons_self ..)).1
  have hnd:=r.once f
  rw [hhead] at hnd
  obtain ⟨n1,-⟩:=List.nodup_cons.1 hnd
  refine ⟨fun i hi=>by have:=i1 i hi;simp only;omega,fun g=>?_⟩
  rw [e2]
  show e.qs g=JF ps (s.out ++ [(⟨(k:Nat),s.now,s.now+per * p.size⟩:Sn)]) g s.next
  have hfil:JF ps (s.out ++ [(⟨(k:Nat),s.now,s.now+per * p.size⟩:Sn)]) g s.next=(s.q.d.qs g).filter fun i=>!(i == k):=by
   rw [i2,JF,JF,List.filter_filter]
   refine List.filter_congr fun i _=>?_
   rw [Cq]
   have e3:(k == i)=(i == k):=by
    rw [Bool.eq_iff_iff,beq_iff_eq,beq_iff_eq]
    omega
   rw [e3]
   cases (Ae ps i == g) <;> cases AZ s.out i <;> cases (i == k) <;> rfl
  rw [hfil,hqs]
  by_cases eg:g=f
  ·
   subst eg
   rw [Aq,hhead,List.filter_cons,if_neg (by simp)]
   refine (List.filter_eq_self.2 fun i hi=>?_).symm
   have:i ≠ k:=fun e=>n1 (by rw [← e];exact hi)
   simp [this]
  ·
   rw [Al _ _ eg]
   refine (List.filter_eq_self.2 fun i hi=>?_).symm
   have:i ≠ k:=fun e=>eg (by rw [← (r.state.size g i hi).1,e];exact hkf)
   simp [this]
 ·
  rintro s p hs hp ht h0 ⟨i1,i2⟩
  exact ⟨fun i hi=>by have:=i1 i hi;simp only;omega,i2⟩
end
theorem VX (g:Nat → Nat) (n:Nat):∀ l:List Nat,l.Nodup → (l.map g).sum ≤ ((l.filter fun x=>x != n).map g).sum+g n
 | [],_=>by simp
 | x :: r,h=>by
  obtain ⟨h1,h2⟩:=List.nodup_cons.1 h
  have ih:=VX g n r h2
  by_cases e:x=n
  ·
   subst e
   have:r.filter (fun y=>y != x)=r:=List.filter_eq_self.2 fun y hy=>by
    have:y ≠ x:=fun e=>h1 (by rw [← e];exact hy)
    simp [this]
   simp [this]
   omega
  ·
   simp only [List.filter_cons,bne_iff_ne,ne_eq,e,not_false_eq_true,if_true,List.map_cons,List.sum_cons]
   omega
theorem Vm (g:Nat → Nat) (c:Nat):∀ (n:Nat) (l:List Nat),l.Nodup → (∀ x,x ∈ l → x < n) → (∀ x,g x ≤ c) → (l.map g).sum ≤ n * c
 | 0,l,_,hl,_=>by
  cases l with
  | nil=>simp
  | cons x r=>exact absurd (hl x (List.mem_cons_self ..)) (Nat.not_lt_zero _)
 | n+1,l,hn,hl,hc=>by
  have h1:=VX g n l hn
  have h2:=Vm g c n (l.filter fun x=>x != n) (hn.filter _) (fun x hx=>by
   rw [List.mem_filter,bne_iff_ne] at hx
   have:=hl x hx.1
   omega) hc
  have:=hc n
  rw [Nat.add_mul,Nat.one_mul]
  omega
section
end
structure FQ where
 q:List Nat
 tag:Nat → Int
 v:Int
 last:Nat → Int
section
variable (fl:Nat → Nat) (inc:Nat → Int)
def FQ.come (s:FQ) (k:Nat):FQ:=
 { q:=s.q ++ [k],tag:=Au s.tag k (max s.v (s.last (fl k))+inc k),v:=s.v,last:=Au s.last (fl k) (max s.v (s.last (fl k))+inc k) }
def FQ.left (s:FQ) (k:Nat):FQ:={ s with q:=s.q.filter fun i=>i != k,v:=s.tag k }
def FQ.rests (s:FQ):FQ:={ s with v:=0,last:=fun _=>0 }
def FQ.of (s:FQ) (f:Nat):List Nat:=s.q.filter fun i=>fl i == f
def FQ.begins (s:FQ) (f:Nat):Int:=match s.of fl f with | []=>s.v | k :: _=>s.tag k - inc k
def Ho (tag:Nat → Int) (inc:Nat → Int):List Nat → Prop
 | []=>True
 | [_]=>True
 | a :: b :: r=>tag b - inc b=tag a ∧ Ho tag inc (b :: r)
def Ex (tag:Nat → Int) (d:Int):List Nat → Int
 | []=>d
 | [a]=>tag a
 | _ :: b :: r=>Ex tag d (b :: r)
structure Js (s:FQ):Prop where
 nodup:s.q.Nodup
 low:∀ k,k ∈ s.q → s.v ≤ s.tag k
 begin:∀ f,s.begins fl inc f ≤ s.v
 chain:∀ f,Ho s.tag inc (s.of fl f)
 ends:∀ f,s.of fl f ≠ [] → s.last f=Ex s.tag 0 (s.of fl f)
 idle:∀ f,s.of fl f=[] → s.last f ≤ s.v
variable {fl inc} {s:FQ}
theorem of_append (s:FQ) (k f:Nat) (t:Nat → Int) (v:Int) (l:Nat → Int):(FQ.mk (s.q ++ [k]) t v l).of fl f=s.of fl f ++ if fl k=f then [k] else []:=by
 unfold FQ.of
 simp only [List.filter_append]
 congr 1
 by_cases h:fl k=f
 · simp [h]
 · simp [h]
theorem Lt {t u:Nat → Int}:∀ {l:List Nat},(∀ k,k ∈ l → t k=u k) → Ho t inc l → Ho u inc l
 | [],_,_=>trivial
 | [_],_,_=>trivial
 | a :: b :: r,h,hc=>by
  obtain ⟨h1,h2⟩:=hc
  refine ⟨?_,Lt (fun k hk=>h k (List.mem_cons_of_mem _ hk)) h2⟩
  rw [← h a (List.mem_cons_self ..),← h b (List.mem_cons_of_mem _ (List.mem_cons_self ..))]
  exact h1
theorem Gy {t u:Nat → Int} {d:Int}:∀ {l:List Nat},(∀ k,k ∈ l → t k=u k) → Ex t d l=Ex u d l
 | [],_=>rfl
 | [a],h=>h a (List.mem_cons_self ..)
 | a :: b :: r,h=>by
  simp only [Ex]
  exact Gy fun k hk=>h k (List.mem_cons_of_mem _ hk)
theorem KE (t:Nat → Int) (d:Int) (k:Nat):∀ l:List Nat,Ex t d (l ++ [k])=t k
 | []=>rfl
 | [a]=>rfl
 | a :: b :: r=>by
  simp only [List.cons_append,Ex]
  exact KE t d k (b :: r)
theorem MB {t:Nat → Int} {k:Nat}:∀ {l:List Nat},Ho t inc l → (l ≠ [] → t k - inc k=Ex t 0 l) → Ho t inc (l ++ [k])
 | [],_,_=>trivial
 | [a],_,h=>⟨h (by simp),trivial⟩
 | a :: b :: r,hc,h=>by
  obtain ⟨h1,h2⟩:=hc
  exact ⟨h1,MB h2 (fun _=>h (by simp))⟩
theorem MM {t:Nat → Int} {v:Int}:∀ {l:List Nat},l ≠ [] → (∀ k,k ∈ l → v ≤ t k) → v ≤ Ex t 0 l
 | [],h,_=>absurd rfl h
 | [a],_,h=>h a (List.mem_cons_self ..)
 | a :: b :: r,_,h=>by
  simp only [Ex]
  exact MM (by simp) fun k hk=>h k (List.mem_cons_of_mem _ hk)
theorem JQ {s:FQ} {f k:Nat}:k ∈ s.of fl f ↔ k ∈ s.q ∧ fl k=f:=by
 unfold FQ.of
 rw [List.mem_filter,beq_iff_eq]
theorem Js.start (fl:Nat → Nat) (inc:Nat → Int) (t:Nat → Int):Js fl inc ⟨[],t,0,fun _=>0⟩:=
 ⟨List.nodup_nil,(fun _ h=>by cases h),fun _=>Int.le_refl _,fun _=>trivial,fun _ h=>absurd rfl h,fun _ _=>Int.le_refl _⟩
theorem Js.rests (h:Js fl inc s) (h0:s.q=[]):Js fl inc s.rests:=by
 have e:∀ f,s.rests.of fl f=[]:=fun f=>by unfold FQ.of FQ.rests;simp [h0]
 refine ⟨h.nodup,fun k hk=>?_,fun f=>?_,fun f=>by rw [e];trivial,fun f hf=>absurd (e f) hf,fun f _=>Int.le_refl _⟩
 ·
  have hk':k ∈ s.q:=hk
  rw [h0] at hk'
  cases hk'
 ·
  unfold FQ.begins
  rw [e]
  exact Int.le_refl _
theorem Js.come (h:Js fl inc s) {k:Nat} (hk:k ∉ s.q) (hi:0 ≤ inc k):Js fl inc (s.come fl inc k):=by
 have hne:∀ i,i ∈ s.q → i ≠ k:=fun i hi e=>hk (by rw [← e];exact hi)
 have htag:∀ i,i ∈ s.q → s.tag i=(s.come fl inc k).tag i:=fun i hi=>(Al _ _ (hne i hi)).symm
 have htk:(s.come fl inc k).tag k=max s.v (s.last (fl k))+inc k:=Aq _ _ _
 have hof:∀ f,(s.come fl inc k).of fl f=s.of fl f ++ if fl k=f then [k] else []:=fun f=>of_append s k f _ _ _
 have hofm:∀ f i,i ∈ s.of fl f → s.tag i=(s.come fl inc k).tag i:=fun f i hi=>htag i (JQ.1 hi).1
 have hlast:s.of fl (fl k) ≠ [] → max s.v (s.last (fl k))=Ex s.tag 0 (s.of fl (fl k)):=fun hn=>by
  rw [h.ends _ hn]
  have:=MM hn (fun i hi=>h.low i (JQ.1 hi).1)
  omega
 refine ⟨List.nodup_append.2 ⟨h.nodup,List.nodup_cons.2 ⟨by simp,List.nodup_nil⟩,fun a ha b hb e=>hk (by rw [List.mem_singleton] at hb;rw [← hb,← e];exact ha)⟩,fun i hi'=>?_,fun f=>?_,fun f=>?_,fun f hf=>?_,fun f hf=>?_⟩
 ·
  show s.v ≤ (s.come fl inc k).tag i
  have hi2:i ∈ s.q ++ [k]:=hi'
  rcases List.mem_append.1 hi2 with h1 | h1
  · rw [← htag i h1];exact h.low i h1
  ·
   rw [List.mem_singleton] at h1
   rw [h1,htk]
   omega
 ·
  have hb:=h.begin f
  unfold FQ.begins at hb ⊢
  rw [hof]
  cases hq:s.of fl f with
  | nil=>
   rw [List.nil_append]
   by_cases e:fl k=f
   ·
    rw [if_pos e]
    show (s.come fl inc k).tag k - inc k ≤ s.v
    rw [htk]
    have:=h.idle f hq
    rw [e]
    omega
   ·
    rw [if_neg e]
    exact Int.le_refl _
  | cons a r=>
   rw [hq] at hb
   show (s.come fl inc k).tag a - inc a ≤ s.v
   rw [← hofm f a (by rw [hq];exact List.mem_cons_self ..)]
   exact hb
 ·
  rw [hof]
  have hc:=Lt (hofm f) (h.chain f)
  by_cases e:fl k=f
  ·
   rw [if_pos e]
   refine MB hc (fun hn=>?_)
   rw [htk,← Gy (hofm f),← e,← hlast (by rw [e];exact hn)]
   omega
  ·
   rw [if_neg e,List.append_nil]
   exact hc
 ·
  show Au s.last (fl k) (max s.v (s.last (fl k))+inc k) f=_
  rw [hof]
  by_cases e:fl k=f
  · rw [if_pos e,KE,htk,← e,Aq]
  ·
   rw [hof,if_neg e,List.append_nil] at hf
   rw [if_neg e,List.append_nil,Al _ _ (fun e'=>e e'.symm),← Gy (hofm f)]
   exact h.ends f hf
 ·
  have hf':=hf
  rw [hof] at hf'
  have e:fl k ≠ f:=fun e=>by rw [if_pos e] at hf';simp at hf'
  rw [if_neg e,List.append_nil] at hf'
  show Au s.last (fl k) _ f ≤ s.v
  rw [Al _ _ (fun e'=>e e'.symm)]
  exact h.idle f hf'
theorem Tc {k f:Nat} (hk:k ∉ s.q) (hf:s.of fl f ≠ []):(s.come fl inc k).begins fl inc f=s.begins fl inc f ∧ (s.come fl inc k).of fl f ≠ []:=by
 have hof:(s.come fl inc k).of fl f=s.of fl f ++ if fl k=f then [k] else []:=of_append s k f _ _ _
 cases hq:s.of fl f with
 | nil=>exact absurd hq hf
 | cons a r=>
  refine ⟨?_,by rw [hof,hq];simp⟩
  have ha:a ∈ s.q:=(JQ (fl:=fl) (f:=f).1 (by rw [hq];exact List.mem_cons_self ..)).1
  unfold FQ.begins
  rw [hof,hq]
  show (s.come fl inc k).tag a - inc a=s.tag a - inc a
  have:(s.come fl inc k).tag a=s.tag a:=Al _ _ (fun e=>hk (by rw [← e];exact ha))
  rw [this]
def FQ.Least (s:FQ) (k:Nat):Prop:=k ∈ s.q ∧ ∀ i,i ∈ s.q → s.tag k ≤ s.tag i
theorem LQ {t:Nat → Int}:∀ {l:List Nat} {a:Nat},Ho t inc (a :: l) → (∀ k,k ∈ l → 1 ≤ inc k) → ∀ k,k ∈ l → t a < t k
 | [],_,_,_=>fun k hk=>by cases hk
 | b :: r,a,hc,hi=>fun k hk=>by
  obtain ⟨h1,h2⟩:=hc
  have hb:=hi b (List.mem_cons_self ..)
  rcases List.mem_cons.1 hk with e | hk
  · rw [e];omega
  ·
   have:=LQ h2 (fun k hk=>hi k (List.mem_cons_of_mem _ hk)) k hk
   omega
theorem Nw (h:Js fl inc s) (hi:∀ k,k ∈ s.q → 1 ≤ inc k) {k:Nat} (hk:s.Least k):∃ r,s.of fl (fl k)=k :: r:=by
 have hm:k ∈ s.of fl (fl k):=JQ.2 ⟨hk.1,rfl⟩
 cases hq:s.of fl (fl k) with
 | nil=>rw [hq] at hm;cases hm
 | cons a r=>
  rw [hq] at hm
  rcases List.mem_cons.1 hm with e | hm
  · subst e;exact ⟨r,rfl⟩
  ·
   have hc:=h.chain (fl k)
   rw [hq] at hc
   have hall:∀ i,i ∈ a :: r → i ∈ s.q:=fun i hi'=>(JQ (fl:=fl) (f:=fl k).1 (by rw [hq];exact hi')).1
   have:=LQ hc (fun i hi'=>hi i (hall i (List.mem_cons_of_mem _ hi'))) k hm
   have:=hk.2 a (hall a (List.mem_cons_self ..))
   omega
theorem VI (s:FQ) (k f:Nat):(s.left k).of fl f=(s.of fl f).filter fun i=>i != k:=by
 unfold FQ.of FQ.left
 simp only [List.filter_filter]
 refine List.filter_congr fun i _=>?_
 cases (fl i == f) <;> cases (i != k) <;> rfl
theorem Ff {k f:Nat} (h:fl k ≠ f):(s.left k).of fl f=s.of fl f:=by
 rw [VI]
 refine List.filter_eq_self.2 fun i hi=>?_
 have:i ≠ k:=fun e=>h (by rw [← e];exact (JQ.1 hi).2)
 simp [this]
theorem FR (h:Js fl inc s) {k:Nat} {r:List Nat} (hr:s.of fl (fl k)=k :: r):(s.left k).of fl (fl k)=r:=by
 have hn:(s.of fl (fl k)).Nodup:=h.nodup.filter _
 rw [hr] at hn
 obtain ⟨n1,-⟩:=List.nodup_cons.1 hn
 rw [VI,hr,List.filter_cons,if_neg (by simp)]
 refine List.filter_eq_self.2 fun i hi=>?_
 have:i ≠ k:=fun e=>n1 (by rw [← e];exact hi)
 simp [this]
theorem Js.left (h:Js fl inc s) (hi:∀ k,k ∈ s.q → 1 ≤ inc k) {k:Nat} (hk:s.Least k):Js fl inc (s.left k):=by
 obtain ⟨r,hr⟩:=Nw h hi hk
 have hv:s.v ≤ s.tag k:=h.low k hk.1
 have hmem:∀ i,i ∈ (s.left k).q → i ∈ s.q:=fun i hi'=>(List.mem_filter.1 hi').1
 refine ⟨h.nodup.filter _,fun i hi'=>hk.2 i (hmem i hi'),fun f=>?_,fun f=>?_,fun f hf=>?_,fun f hf=>?_⟩
 ·
  show (s.left k).begins fl inc f ≤ s.tag k
  by_cases e:fl k=f
  ·
   subst e
   unfold FQ.begins
   rw [FR h hr]
   cases r with
   | nil=>exact Int.le_refl _
   | cons b r=>
    have hc:=h.chain (fl k)
    rw [hr] at hc
    show s.tag b - inc b ≤ s.tag k
    have:=hc.1
    omega
  ·
   have hb:=h.begin f
   unfold FQ.begins at hb ⊢
   rw [Ff e]
   cases hq:s.of fl f with
   | nil=>exact Int.le_refl _
   | cons a r=>
    rw [hq] at hb
    show s.tag a - inc a ≤ s.tag k
    simp only at hb
    omega
 ·
  by_cases e:fl k=f
  ·
   subst e
   rw [FR h hr]
   have hc:=h.chain (fl k)
   rw [hr] at hc
   cases r with
   | nil=>trivial
   | cons b r=>exact hc.2
  ·
   rw [Ff e]
   exact h.chain f
 ·
  by_cases e:fl k=f
  ·
   subst e
   rw [FR h hr] at hf ⊢
   have:=h.ends (fl k) (by rw [hr];simp)
   rw [hr] at this
   cases r with
   | nil=>exact absurd rfl hf
   | cons b r=>exact this
  ·
   rw [Ff e] at hf ⊢
   exact h.ends f hf
 ·
  show s.last f ≤ s.tag k
  by_cases e:fl k=f
  ·
   subst e
   rw [FR h hr] at hf
   subst hf
   have:=h.ends (fl k) (by rw [hr];simp)
   rw [hr] at this
   rw [this]
   exact Int.le_refl _
  ·
   rw [Ff e] at hf
   have:=h.idle f hf
   omega
end
def D8 (ps:List Pk) (ws:List Int) (k:Nat):Int:=Bd ps k * (12 / BN ws (Ae ps k))
def BD (ps:List Pk) (ws:List Int):Que FQ where
 come:=fun s k=>s.come (Ae ps) (D8 ps ws) k
 pick:=fun s=>s.q.getD (Ba s.tag s.q) 0
 left:=fun s=>s.left (s.q.getD (Ba s.tag s.q) 0)
 rest:=fun s=>s.q.length
 idle:=FQ.rests
def FJ:FQ:=⟨[],fun _=>0,0,fun _=>0⟩
def IG (ws:List Int):Prop:=∀ f,1 ≤ BN ws f ∧ 12 / BN ws f * BN ws f=12
section
variable {ps:List Pk} {ws:List Int} {per:Int}
theorem IG.part (h:IG ws) (f:Nat):1 ≤ 12 / BN ws f ∧ 12 / BN ws f ≤ 12:=by
 obtain ⟨h1,h2⟩:=h f
 have h3:0 ≤ 12 / BN ws f:=Int.ediv_nonneg (by omega) (by omega)
 constructor
 ·
  rcases Int.lt_or_le (12 / BN ws f) 1 with h4 | h4
  ·
   have:12 / BN ws f=0:=by omega
   rw [this] at h2
   omega
  · exact h4
 ·
  have:=Int.mul_le_mul_of_nonneg_left h1 h3
  omega
theorem I7 (hw:IG ws) (ho:Aj ps) (k:Nat):1 ≤ D8 ps ws k ∧ D8 ps ws k ≤ 18000:=by
 obtain ⟨h1,h2⟩:=hw.part (Ae ps k)
 obtain ⟨h3,h4⟩:=Cr ho k
 unfold D8
 have a1:1 * 1 ≤ Bd ps k * (12 / BN ws (Ae ps k)):=Int.mul_le_mul h3 h1 (by omega) (by omega)
 have a2:Bd ps k * (12 / BN ws (Ae ps k)) ≤ 1500 * 12:=Int.mul_le_mul h4 h2 (by omega) (by omega)
 omega
theorem Fv {tag:Nat → Int} {q:List Nat} (h:0 < q.length):q.getD (Ba tag q) 0 ∈ q ∧ ∀ i,i ∈ q → tag (q.getD (Ba tag q) 0) ≤ tag i:=by
 have hl:=FV tag h
 refine ⟨by rw [getD_lt hl];exact List.getElem_mem _,fun i hi=>?_⟩
 obtain ⟨j,hj,e⟩:=List.getElem_of_mem hi
 have:=F9 tag q q.length j hj
 rw [getD_lt (d:=0) hj,e] at this
 have e2:Ba tag q=AB tag q q.length:=rfl
 rw [e2]
 omega
theorem Qn {q:List Nat} (h:q.Nodup) {k:Nat} (hk:k ∈ q):(q.filter fun i=>i != k).length+1=q.length:=by
 have:=h.erase_eq_filter k
 rw [← this,List.length_erase_of_mem hk]
 have:0 < q.length:=List.length_pos_of_mem hk
 omega
structure FairRun (ps:List Pk) (ws:List Int) (s:St FQ) (H:List (FQ × FQ)):Prop where
 state:Js (Ae ps) (D8 ps ws) s.q
 rises:s.q.q.Pairwise (· < ·)
 len:H.length=s.out.length
 each:∀ (i:Nat) x h,s.out[i]? = some x → H[i]? = some h → ∃ k:Nat,x.num=k ∧ Js (Ae ps) (D8 ps ws) h.1 ∧ h.1.Least k ∧ h.2=h.1.left k ∧ ∀ w:Nat,w < ps.length → Ay ps w ≤ x.beg → AZ (s.out.take (i+1)) w=false → w ∈ h.2.q
 next:∀ (i:Nat) h h',H[i]? = some h → H[i+1]? = some h' → ∀ f,h.2.of (Ae ps) f ≠ [] → h'.1.begins (Ae ps) (D8 ps ws) f=h.2.begins (Ae ps) (D8 ps ws) f
 last:∀ h,H[H.length - 1]? = some h → 0 < H.length → ∀ f,h.2.of (Ae ps) f ≠ [] → s.q.of (Ae ps) f ≠ [] ∧ s.q.begins (Ae ps) (D8 ps ws) f=h.2.begins (Ae ps) (D8 ps ws) f
 clock:∀ x,s.out[s.out.length - 1]? = some x → x.fin ≤ s.now ∧ (x.fin=s.now → s.q.v=s.q.tag x.num.toNat)
 busy:∀ (i:Nat) x y,s.out[i]? = some x → s.out[i+1]? = some y → y.beg=x.fin → s.q.tag x.num.toNat ≤ s.q.tag y.num.toNat
 wait:∀ w,w < s.next → AZ s.out w=false → w ∈ s.q.q
 only:∀ w,w ∈ s.q.q → w < s.next ∧ AZ s.out w=false
 le:s.next ≤ ps.length
 gone:∀ w:Nat,AZ s.out w=true → w < s.next
 nums:∀ (i:Nat) x,s.out[i]? = some x → ∃ k:Nat,x.num=k ∧ k < s.next
 within:∀ (i:Nat) h,H[i]? = some h → ∀ k,k ∈ h.1.q → k < ps.length
theorem Fp {α:Type} {l:List α} {y x:α} {i:Nat} (h:(l ++ [y])[i]? = some x):(i < l.length ∧ l[i]? = some x) ∨ (i=l.length ∧ x=y):=by
 have hl:=Ad h
 rw [List.length_append,List.length_cons,List.length_nil] at hl
 rcases Nat.lt_or_ge i l.length with h' | h'
 · rw [List.getElem?_append_left h'] at h;exact .inl ⟨h',h⟩
 ·
  obtain rfl:i=l.length:=by omega
  rw [List.getElem?_append_right (Nat.le_refl _),Nat.sub_self,List.getElem?_cons_zero] at h
  exact .inr ⟨rfl,(Option.some.inj h).symm⟩
theorem fair_run (hw:IG ws) (ho:Aj ps) (hper:1 ≤ per) {s:St FQ} (h:Reaches (BD ps ws) per ps FJ s):∃ H,FairRun ps ws s H:=by
 refine h.by_steps (C:=fun s=>∃ H,FairRun ps ws s H) ?_ ?_ ?_ ?_
 · exact ⟨[],Js.start _ _ _,List.Pairwise.nil,rfl,(fun i x h hx=>by simp at hx),(fun i h h' hx=>by simp at hx),(fun h _ h0=>by simp at h0),(fun x hx=>by simp at hx),(fun i x y hx=>by simp at hx),(fun w hw=>absurd hw (Nat.not_lt_zero _)),(fun w hw=>by cases hw),Nat.zero_le _,(fun w hw=>by simp [AZ] at hw),(fun i x hx=>by simp at hx),fun i h hh=>by simp at hh⟩
 ·
  rintro s p hs hp ht ⟨H,r⟩
  have hlt:=Ad hp
  have hnew:AZ s.out s.next=false:=by
   cases hd:AZ s.out s.next with
   | false=>rfl
   | true=>have:=r.gone _ hd;omega
  have hk:s.next ∉ s.q.q:=fun hm=>by have:=(r.only _ hm).1;omega
  have hi:=(I7 hw ho s.next).1
  have htag:∀ (i:Nat) x,s.out[i]? = some x → ((BD ps ws).come s.q s.next).tag x.num.toNat=s.q.tag x.num.toNat:=fun i x hx=>by
   obtain ⟨k,e,hk'⟩:=r.nums i x hx
   refine Al _ _ ?_
   rw [e,Int.toNat_natCast]
   omega
  refine ⟨H,r.state.come hk (by omega),?_,r.len,r.each,r.next,fun h hh h0 f hf=>?_,fun x hx=>?_,fun i x y hx hy hb=>?_,fun w hw hd=>?_,fun w hw=>?_,hlt,fun w hw=>Nat.lt_succ_of_lt (r.gone w hw),fun i x hx=>?_,r.within⟩
  ·
   refine List.pairwise_append.2 ⟨r.rises,List.pairwise_singleton _ _,fun a ha b hb=>?_⟩
   rw [List.mem_singleton] at hb
   have:=(r.only a ha).1
   omega
  ·
   obtain ⟨g1,g2⟩:=r.last h hh h0 f hf
   obtain ⟨c1,c2⟩:=Tc (inc:=D8 ps ws) hk g1
   exact ⟨c2,c1.trans g2⟩
  ·
   obtain ⟨c1,c2⟩:=r.clock x hx
   refine ⟨c1,fun e=>?_⟩
   show s.q.v=_
   rw [htag _ x hx]
   exact c2 e
  ·
   show ((BD ps ws).come s.q s.next).tag _ ≤ ((BD ps ws).come s.q s.next).tag _
   rw [htag _ x hx,htag _ y hy]
   exact r.busy i x y hx hy hb
  ·
   show w ∈ s.q.q ++ [s.next]
   rcases Nat.lt_or_ge w s.next with hw' | hw'
   · exact List.mem_append.2 (.inl (r.wait w hw' hd))
   ·
    obtain rfl:w=s.next:=by simp only at hw;omega
    exact List.mem_append.2 (.inr (List.mem_singleton.2 rfl))
  ·
   have hw2:w ∈ s.q.q ++ [s.next]:=hw
   rcases List.mem_append.1 hw2 with hw3 | hw3
   ·
    obtain ⟨g1,g2⟩:=r.only w hw3
    exact ⟨Nat.lt_succ_of_lt g1,g2⟩
   ·
    rw [List.mem_singleton] at hw3
    subst hw3
    exact ⟨Nat.lt_succ_self _,hnew⟩
  ·
   obtain ⟨k,e,hk'⟩:=r.nums i x hx
   exact ⟨k,e,Nat.lt_succ_of_lt hk'⟩
 ·
  rintro s p hs hall h0 hp ⟨H,r⟩
  obtain ⟨l1,l2⟩:=Fv (tag:=s.q.tag) (q:=s.q.q) h0
  obtain ⟨k,hk⟩:∃ k,k=(BD ps ws).pick s.q:=⟨_,rfl⟩
  have hkd:s.q.q.getD (Ba s.q.tag s.q.q) 0=k:=hk.symm
  have hleft:(BD ps ws).left s.q=s.q.left k:=by rw [hk];rfl
  rw [hkd] at l1 l2
  rw [← hk] at hp ⊢
  rw [hleft]
  have hL:s.q.Least k:=⟨l1,l2⟩
  have hinc:∀ i,i ∈ s.q.q → 1 ≤ D8 ps ws i:=fun i _=>(I7 hw ho i).1
  obtain ⟨-,-,z1,-,-,-⟩:=Bb (ho.each _ p hp).1
  have hpos:1 * 1 ≤ per * p.size:=Int.mul_le_mul hper z1 (by omega) (by omega)
  obtain ⟨k1,k2⟩:=r.only k l1
  have hstay:∀ w,w ∈ s.q.q → w ≠ k → w ∈ (s.q.left k).q:=fun w hw hne=>List.mem_filter.2 ⟨hw,by simp [hne]⟩
  have hnd:∀ w:Nat,AZ (s.out ++ [⟨(k:Nat),s.now,s.now+per * p.size⟩]) w=false → AZ s.out w=false ∧ w ≠ k:=by
   intro w hw
   rw [Cq,Bool.or_eq_false_iff] at hw
   exact ⟨hw.1,fun e=>beq_eq_false_iff_ne.1 hw.2 e.symm⟩
  refine ⟨H ++ [(s.q,s.q.left k)],r.state.left hinc hL,r.rises.filter _,by simp [r.len],fun i x h hx hh=>?_,fun i h h' hh hh' f hf=>?_,fun h hh _ f hf=>?_,fun x hx=>?_,fun i x y hx hy hb=>?_,fun w hw hd=>?_,fun w hw=>?_,r.le,fun w hw=>?_,fun i x hx=>?_,fun i h hh=>?_⟩
  ·
   rcases Fp hx with ⟨h',hx⟩ | ⟨rfl,rfl⟩
   ·
    rw [List.getElem?_append_left (by rw [r.len];exact h')] at hh
    simp only [List.take_append_of_le_length (show i+1 ≤ s.out.length by omega)]
    exact r.each i x h hx hh
   ·
    rw [List.getElem?_append_right (by rw [r.len];exact Nat.le_refl _),r.len,Nat.sub_self,List.getElem?_cons_zero] at hh
    have hh:=Option.some.inj hh
    subst hh
    refine ⟨k,rfl,r.state,hL,rfl,fun w hw ht hd=>?_⟩
    rw [List.take_of_length_le (by simp)] at hd
    obtain ⟨d1,d2⟩:=hnd w hd
    refine hstay w (r.wait w ?_ d1) d2
    rcases Nat.lt_or_ge w s.next with h3 | h3
    · exact h3
    ·
     have hnl:s.next < ps.length:=by omega
     have e:ps[s.next]? = some ps[s.next]:=List.getElem?_eq_getElem hnl
     have a1:=hall _ e
     have a2:=D6 ho h3 hw
     rw [AJ e] at a2
     simp only at ht
     omega
  ·
   have hil:=Ad hh'
   simp only [List.length_append,List.length_cons,List.length_nil] at hil
   rcases Nat.lt_or_ge (i+1) H.length with h3 | h3
   ·
    rw [List.getElem?_append_left (by omega)] at hh
    rw [List.getElem?_append_left h3] at hh'
    exact r.next i h h' hh hh' f hf
   ·
    have e1:i+1=H.length:=by omega
    rw [List.getElem?_append_left (by omega)] at hh
    rw [List.getElem?_append_right (by omega),e1,Nat.sub_self,List.getElem?_cons_zero] at hh'
    have hh':=Option.some.inj hh'
    subst hh'
    exact (r.last h (by rw [show H.length - 1=i by omega];exact hh) (by omega) f hf).2
  ·
   simp only [List.length_append,List.length_cons,List.length_nil,Nat.add_sub_cancel] at hh
   rw [List.getElem?_append_right (Nat.le_refl _),Nat.sub_self,List.getElem?_cons_zero] at hh
   have hh:=Option.some.inj hh
   subst hh
   exact ⟨hf,rfl⟩
  ·
   simp only [List.length_append,List.length_cons,List.length_nil,Nat.add_sub_cancel] at hx
   rw [List.getElem?_append_right (Nat.le_refl _),Nat.sub_self,List.getElem?_cons_zero] at hx
   have hx:=Option.some.inj hx
   subst hx
   refine ⟨Int.le_refl _,fun _=>?_⟩
   show s.q.tag k=s.q.tag ((k:Nat):Int).toNat
   rw [Int.toNat_natCast]
  ·
   show s.q.tag _ ≤ s.q.tag _
   rcases Fp hy with ⟨h',hy⟩ | ⟨e,rfl⟩
   ·
    rcases Fp hx with ⟨-,hx⟩ | ⟨e,-⟩
    · exact r.busy i x y hx hy hb
    · omega
   ·
    rcases Fp hx with ⟨-,hx⟩ | ⟨e',-⟩
    ·
     obtain ⟨-,c2⟩:=r.clock x (by rw [show s.out.length - 1=i by omega];exact hx)
     have hv:=c2 hb.symm
     have:=r.state.low k l1
     simp only [Int.toNat_natCast]
     omega
    · omega
  ·
   obtain ⟨d1,d2⟩:=hnd w hd
   exact hstay w (r.wait w hw d1) d2
  ·
   obtain ⟨w1,w2⟩:=List.mem_filter.1 (show w ∈ s.q.q.filter fun i=>i != k from hw)
   obtain ⟨g1,g2⟩:=r.only w w1
   refine ⟨g1,?_⟩
   rw [Cq,g2,Bool.false_or]
   exact beq_eq_false_iff_ne.2 (fun e=>(bne_iff_ne.1 w2) e.symm)
  ·
   rw [Cq,Bool.or_eq_true] at hw
   show w < s.next
   rcases hw with hw | hw
   · exact r.gone w hw
   ·
    have:=beq_iff_eq.1 hw
    omega
  ·
   rcases Fp hx with ⟨-,hx⟩ | ⟨-,rfl⟩
   · exact r.nums i x hx
   · exact ⟨k,rfl,k1⟩
  ·
   rcases Fp hh with ⟨-,hh⟩ | ⟨-,rfl⟩
   · exact r.within i h hh
   · exact fun k hk=>Nat.lt_of_lt_of_le (r.only k hk).1 r.le
 ·
  rintro s p hs hp ht h0 ⟨H,r⟩
  have hq:s.q.q=[]:=List.length_eq_zero_iff.1 h0
  refine ⟨H,r.state.rests hq,r.rises,r.len,r.each,r.next,fun h hh h0 f hf=>?_,fun x hx=>?_,r.busy,r.wait,r.only,r.le,r.gone,r.nums,r.within⟩
  ·
   obtain ⟨g1,-⟩:=r.last h hh h0 f hf
   refine absurd ?_ g1
   unfold FQ.of
   rw [hq]
   rfl
  ·
   obtain ⟨c1,-⟩:=r.clock x hx
   refine ⟨by simp only;omega,fun e=>?_⟩
   simp only at e
   omega
end
section
variable {ps:List Pk} {ws:List Int} {per:Int}
theorem NT (hw:IG ws) (ho:Aj ps) (hper:1 ≤ per):Ia (BD ps ws) per ps FJ where
 none:=rfl
 come:=fun s _ _=>by
  show (s.q.q ++ [s.next]).length=_
  simp [BD]
 left:=fun s hr h0=>by
  obtain ⟨H,r⟩:=fair_run hw ho hper hr
  obtain ⟨l1,-⟩:=Fv (tag:=s.q.tag) (q:=s.q.q) h0
  exact Qn r.state.nodup l1
 pick:=fun s hr h0=>by
  obtain ⟨H,r⟩:=fair_run hw ho hper hr
  obtain ⟨l1,-⟩:=Fv (tag:=s.q.tag) (q:=s.q.q) h0
  exact (r.only _ l1).1
 idle:=fun s _ h=>h
theorem Xm (hw:IG ws) (ho:Aj ps) {s:St FQ} (h:Reaches (BD ps ws) per ps FJ s):(0 ≤ s.q.v ∧ s.q.v ≤ 18000 * (s.next:Int)) ∧ (∀ f,0 ≤ s.q.last f ∧ s.q.last f ≤ 18000 * (s.next:Int)) ∧ ∀ k,0 ≤ s.q.tag k ∧ s.q.tag k ≤ 18000 * (s.next:Int):=by
 refine h.by_steps (C:=fun s:St FQ=>(0 ≤ s.q.v ∧ s.q.v ≤ 18000 * (s.next:Int)) ∧ (∀ f,0 ≤ s.q.last f ∧ s.q.last f ≤ 18000 * (s.next:Int)) ∧ ∀ k,0 ≤ s.q.tag k ∧ s.q.tag k ≤ 18000 * (s.next:Int)) ⟨⟨Int.le_refl _,Int.le_refl _⟩,fun _=>⟨Int.le_refl _,Int.le_refl _⟩,fun _=>⟨Int.le_refl _,Int.le_refl _⟩⟩ ?_ ?_ ?_
 ·
  rintro s p hs hp ht ⟨⟨a1,a2⟩,b,c⟩
  obtain ⟨i1,i2⟩:=I7 hw ho s.next
  obtain ⟨f1,f2⟩:=b (Ae ps s.next)
  refine ⟨⟨a1,?_⟩,fun f=>?_,fun k=>?_⟩
  ·
   show s.q.v ≤ _
   simp only
   omega
  ·
   show 0 ≤ Au s.q.last (Ae ps s.next) (max s.q.v (s.q.last (Ae ps s.next))+D8 ps ws s.next) f ∧ Au s.q.last (Ae ps s.next) (max s.q.v (s.q.last (Ae ps s.next))+D8 ps ws s.next) f ≤ 18000 * ((s.next+1:Nat):Int)
   by_cases e:f=Ae ps s.next
   ·
    rw [e,Aq]
    omega
   ·
    rw [Al _ _ e]
    have:=b f
    omega
  ·
   show 0 ≤ Au s.q.tag s.next (max s.q.v (s.q.last (Ae ps s.next))+D8 ps ws s.next) k ∧ Au s.q.tag s.next (max s.q.v (s.q.last (Ae ps s.next))+D8 ps ws s.next) k ≤ 18000 * ((s.next+1:Nat):Int)
   by_cases e:k=s.next
   ·
    rw [e,Aq]
    omega
   ·
    rw [Al _ _ e]
    have:=c k
    omega
 ·
  rintro s p hs hall h0 hp ⟨a,b,c⟩
  exact ⟨c _,b,c⟩
 ·
  rintro s p hs hp ht h0 ⟨a,b,c⟩
  exact ⟨⟨Int.le_refl _,by simp only [BD,FQ.rests];omega⟩,fun f=>⟨Int.le_refl _,by simp only [BD,FQ.rests];omega⟩,c⟩
end
end Go.Proofs.YtipdclphpkgceaaGreatDoor
