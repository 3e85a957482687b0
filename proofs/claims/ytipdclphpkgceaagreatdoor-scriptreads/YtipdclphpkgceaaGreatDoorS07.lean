/- Own facts, put together: no statement of its own. -/
import Derived.Test.YtipdclphpkgceaaGreatDoorS06
import Derived.Test.YtipdclphpkgceaaGreatDoorS04

namespace Go.Proofs.YtipdclphpkgceaaGreatDoor
def sizeAt (ps:List Pk) (j:Nat):Int:=match ps[j]? with | some p=>p.size | none=>1
theorem sizeAt_get {ps:List Pk} {j:Nat} {p:Pk} (h:ps[j]? = some p):sizeAt ps j=p.size:=by simp [sizeAt,h]
theorem sizeAt_in {ps:List Pk} (ho:OkPks ps) (j:Nat):1 ≤ sizeAt ps j ∧ sizeAt ps j ≤ 1500:=by
 cases h:ps[j]? with
 | none=>simp [sizeAt,h]
 | some p=>
  rw [sizeAt_get h]
  have:=okPk_true (ho.each _ p h).1
  omega
theorem flow_lt {ps:List Pk} (ho:OkPks ps) (j:Nat):flowOf ps j < 8:=by
 cases h:ps[j]? with
 | none=>simp [flowOf,h]
 | some p=>
  rw [flowOf_get h]
  have:=okPk_true (ho.each _ p h).1
  omega
def quOf (ns:List Int) (f:Nat):Int:=ns.getD f 1
theorem quOf_get {ns:List Int} {f:Nat} {x:Int} (h:ns[f]? = some x):quOf ns f=x:=by simp [quOf,List.getD,h]
theorem quOf_in {ns:List Int} {hi:Int} (h:∀ (i:Nat) x,ns[i]? = some x → 1 ≤ x ∧ x ≤ hi) (h1:1 ≤ hi) (f:Nat):1 ≤ quOf ns f ∧ quOf ns f ≤ hi:=by
 cases hx:ns[f]? with
 | none=>simp [quOf,List.getD,hx];exact h1
 | some x=>rw [quOf_get hx];exact h f x hx
def cnt (q:Nat → List Nat):Nat → Nat
 | 0=>0
 | n+1=>cnt q n+(q n).length
theorem cnt_put (q:Nat → List Nat) (f:Nat) (x:List Nat):∀ n,cnt (put1 q f x) n+(if f < n then (q f).length else 0)=cnt q n+(if f < n then x.length else 0)
 | 0=>by simp [cnt]
 | n+1=>by
  have ih:=cnt_put q f x n
  simp only [cnt]
  by_cases e:n=f
  ·
   subst e
   rw [put1_same,if_pos (Nat.lt_succ_self _),if_pos (Nat.lt_succ_self _)]
   rw [if_neg (Nat.lt_irrefl _),if_neg (Nat.lt_irrefl _)] at ih
   omega
  ·
   rw [put1_other _ _ e]
   by_cases h:f < n
   ·
    rw [if_pos h,if_pos h] at ih
    rw [if_pos (by omega),if_pos (by omega)]
    omega
   ·
    rw [if_neg h,if_neg h] at ih
    rw [if_neg (by omega),if_neg (by omega)]
    omega
theorem cnt_le (q:Nat → List Nat) {f:Nat}:∀ n,f < n → (q f).length ≤ cnt q n
 | 0,h=>by omega
 | n+1,h=>by
  simp only [cnt]
  by_cases e:f=n
  · subst e;omega
  · have:=cnt_le q n (show f < n by omega);omega
theorem cnt_zero {q:Nat → List Nat} (h:∀ f,q f=[]):∀ n,cnt q n=0
 | 0=>rfl
 | n+1=>by simp only [cnt,h n,List.length_nil,cnt_zero h n]
structure TQ where
 d:Drr
 n:Nat
def fuelOf (ps:List Pk) (d:Drr):Nat:=2 * d.need (sizeAt ps)+5
def goOf (ps:List Pk) (ns:List Int) (d:Drr):Option (Nat × Drr):=Drr.go (sizeAt ps) (quOf ns) (fuelOf ps d) d
def turnsQ (ps:List Pk) (ns:List Int):Que TQ where
 come q k:=⟨q.d.come (flowOf ps) k,q.n+1⟩
 pick q:=match goOf ps ns q.d with | some x=>x.1 | none=>0
 left q:=match goOf ps ns q.d with | some x=>⟨x.2,q.n - 1⟩ | none=>q
 rest q:=q.n
def turns0:TQ:=⟨⟨fun _=>[],fun _=>0,[],none⟩,0⟩
structure TQOk (ps:List Pk) (ns:List Int) (M:Int) (q:TQ):Prop where
 state:DrrOk (flowOf ps) (sizeAt ps) (quOf ns) M q.d
 count:q.n=cnt q.d.qs 8
 few:∀ f,8 ≤ f → q.d.qs f=[]
section
variable {ps:List Pk} {ns:List Int} {M:Int}
theorem TQOk.line {q:TQ} (h:TQOk ps ns M q):q.n=0 ↔ q.d.line=[]:=by
 constructor
 ·
  intro h0
  have hz:∀ f,q.d.qs f=[]:=fun f=>by
   rcases Nat.lt_or_ge f 8 with hf | hf
   ·
    have:=cnt_le q.d.qs 8 hf
    have hc:=h.count
    exact List.length_eq_zero_iff.1 (by omega)
   · exact h.few f hf
  cases hl:q.d.line with
  | nil=>rfl
  | cons f r=>exact absurd (hz f) ((h.state.active f).1 (by rw [hl];exact List.mem_cons_self ..))
 ·
  intro hl
  rw [h.count]
  refine cnt_zero (fun f=>?_) 8
  cases hf:q.d.qs f with
  | nil=>rfl
  | cons a b=>
   have:=(h.state.active f).2 (by rw [hf];simp)
   rw [hl] at this
   cases this
theorem TQOk.picks {q:TQ} (hq:∀ f,1 ≤ quOf ns f) (h:TQOk ps ns M q) (h0:0 < q.n):∃ k e,goOf ps ns q.d=some (k,e) ∧ (turnsQ ps ns).pick q=k ∧ (turnsQ ps ns).left q=⟨e,q.n - 1⟩ ∧ ∃ f r c,SendsAt (flowOf ps) (sizeAt ps) (quOf ns) M q.d k e f r c:=by
 have hne:q.d.line ≠ []:=fun e=>by have:=h.line.2 e;omega
 obtain ⟨⟨k,e⟩,hx⟩:=go_ends hq (q.d.need (sizeAt ps)) q.d h.state hne (Nat.le_refl _)
 have hx':goOf ps ns q.d=some (k,e):=hx
 refine ⟨k,e,hx',?_,?_,go_sends hq _ _ _ _ h.state hx⟩
 · simp only [turnsQ,hx']
 · simp only [turnsQ,hx']
theorem TQOk.left {q:TQ} (hq:∀ f,1 ≤ quOf ns f) (h:TQOk ps ns M q) (h0:0 < q.n):TQOk ps ns M ((turnsQ ps ns).left q):=by
 obtain ⟨k,e,hx,h1,h2,f,r,c,sa⟩:=h.picks hq h0
 rw [h2]
 have hqs:e.qs=put1 q.d.qs f r:=by rw [sa.left,sent_qs,sa.same]
 have hhead:q.d.qs f=k :: r:=by rw [← sa.same];exact sa.head
 have hf8:f < 8:=by
  rcases Nat.lt_or_ge f 8 with h' | h'
  · exact h'
  · have:=h.few f h';rw [hhead] at this;cases this
 refine ⟨by rw [sa.left];exact sa.ok.sent sa.srv sa.head sa.fit,?_,fun g hg=>?_⟩
 ·
  have hp:=cnt_put q.d.qs f r 8
  rw [if_pos hf8,if_pos hf8,hhead,List.length_cons] at hp
  have hc:=h.count
  show q.n - 1=cnt e.qs 8
  rw [hqs]
  omega
 ·
  show e.qs g=[]
  rw [hqs,put1_other _ _ (by omega)]
  exact h.few g hg
theorem TQOk.come {q:TQ} (ho:OkPks ps) (hM:∀ k,sizeAt ps k ≤ M) (h:TQOk ps ns M q) (k:Nat):TQOk ps ns M ((turnsQ ps ns).come q k):=by
 have hf:=flow_lt ho k
 have hqs:((turnsQ ps ns).come q k).d.qs=put1 q.d.qs (flowOf ps k) (q.d.qs (flowOf ps k) ++ [k]):=rfl
 refine ⟨h.state.come k (sizeAt_in ho k).1 (hM k),?_,fun g hg=>?_⟩
 ·
  have hp:=cnt_put q.d.qs (flowOf ps k) (q.d.qs (flowOf ps k) ++ [k]) 8
  rw [if_pos hf,if_pos hf,List.length_append,List.length_cons,List.length_nil] at hp
  have hc:=h.count
  show q.n+1=cnt _ 8
  rw [hqs]
  omega
 ·
  rw [hqs,put1_other _ _ (by omega)]
  exact h.few g hg
theorem turns_round (ho:OkPks ps) (hq:∀ f,1 ≤ quOf ns f) (h1:1 ≤ M) (hM:∀ k,sizeAt ps k ≤ M):RoundLaw (turnsQ ps ns) (flowOf ps) (sizeAt ps) (quOf ns) turns0 (TQOk ps ns M) TQ.d where
 start:=⟨⟨drrOk_none h1,(cnt_zero (fun _=>rfl) 8).symm,fun _ _=>rfl⟩,rfl⟩
 come:=fun q k h=>⟨h.come ho hM k,rfl⟩
 pick:=fun q h h0=>⟨h.left hq h0,by
  obtain ⟨k,e,hx,e1,e2,-⟩:=h.picks hq h0
  rw [e1,e2]
  exact ⟨_,hx⟩⟩
 rest:=fun q h=>h.line
 idle:=fun q h _=>⟨h,rfl⟩
variable {per:Int}
theorem turns_law (ho:OkPks ps) (hq:∀ f,1 ≤ quOf ns f):QueLaw (turnsQ ps ns) per ps turns0 where
 none:=rfl
 come:=fun s _ _=>rfl
 left:=fun s hr h0=>by
  obtain ⟨H,r⟩:=round_run (M:=1500) (turns_round ho hq (by omega) (fun k=>(sizeAt_in ho k).2)) hq (by omega) (fun k _=>sizeAt_in ho k) ho hr
  obtain ⟨k,e,hx,e1,e2,-⟩:=r.good.picks hq h0
  rw [e2]
  have h0':0 < s.q.n:=h0
  show s.q.n - 1+1=s.q.n
  omega
 pick:=fun s hr h0=>by
  obtain ⟨H,r⟩:=round_run (M:=1500) (turns_round ho hq (by omega) (fun k=>(sizeAt_in ho k).2)) hq (by omega) (fun k _=>sizeAt_in ho k) ho hr
  obtain ⟨k,e,hx,e1,e2,f,t,c,sa⟩:=r.good.picks hq h0
  rw [e1]
  refine (r.only f k ?_).1
  rw [← sa.same,sa.head]
  exact List.mem_cons_self ..
 idle:=fun s _ h=>h
theorem turns_run (ho:OkPks ps) (hq:∀ f,1 ≤ quOf ns f) (h1:1 ≤ M) (hM:∀ k,sizeAt ps k ≤ M) {s:St TQ} (hr:Reaches (turnsQ ps ns) per ps turns0 s):∃ H,RoundRun (flowOf ps) (sizeAt ps) (quOf ns) M ps (TQOk ps ns M) TQ.d s H:=
 round_run (turns_round ho hq h1 hM) hq h1 (fun k _=>⟨(sizeAt_in ho k).1,hM k⟩) ho hr
theorem turns_ok (ho:OkPks ps) (hq:∀ f,1 ≤ quOf ns f) {s:St TQ} (hr:Reaches (turnsQ ps ns) per ps turns0 s):TQOk ps ns 1500 s.q:=by
 obtain ⟨H,r⟩:=turns_run (M:=1500) ho hq (by omega) (fun k=>(sizeAt_in ho k).2) hr
 exact r.good
theorem turns_few (ho:OkPks ps) (hq:∀ f,1 ≤ quOf ns f) {s:St TQ} (hr:Reaches (turnsQ ps ns) per ps turns0 s) (f:Nat):(s.q.d.qs f).length ≤ 300 ∧ ∀ k,k ∈ s.q.d.qs f → k < s.next ∧ flowOf ps k=f:=by
 obtain ⟨H,r⟩:=turns_run (M:=1500) ho hq (by omega) (fun k=>(sizeAt_in ho k).2) hr
 refine ⟨?_,fun k hk=>⟨(r.only f k hk).1,(r.state.size f k hk).1⟩⟩
 rcases Nat.lt_or_ge f 8 with hf | hf
 ·
  have h1:=cnt_le s.q.d.qs 8 hf
  have h2:=r.good.count
  have h3:=hr.count (turns_law ho hq)
  have h4:=hr.next_le
  have h5:=ho.few
  have h6:(turnsQ ps ns).rest s.q=s.q.n:=rfl
  omega
 · rw [r.good.few f hf];simp
end
def stepS {σ:Type} (Q:Que σ) (per:Int) (ps:List Pk) (s:St σ):Option (St σ):=
 match ps[s.next]? with
 | some p=>if p.tick ≤ s.now then some ⟨s.out,s.now,s.next+1,Q.come s.q s.next⟩ else if 0 < Q.rest s.q then (match ps[Q.pick s.q]? with | some p=>some ⟨s.out ++ [⟨Q.pick s.q,s.now,s.now+per * p.size⟩],s.now+per * p.size,s.next,Q.left s.q⟩ | none=>none) else some ⟨s.out,p.tick,s.next,Q.idle s.q⟩
 | none=>if 0 < Q.rest s.q then (match ps[Q.pick s.q]? with | some p=>some ⟨s.out ++ [⟨Q.pick s.q,s.now,s.now+per * p.size⟩],s.now+per * p.size,s.next,Q.left s.q⟩ | none=>none) else none
def iterS {σ:Type} (Q:Que σ) (per:Int) (ps:List Pk) (s:St σ):Nat → Option (St σ)
 | 0=>some s
 | n+1=>(iterS Q per ps s n).bind (stepS Q per ps)
section
variable {σ:Type} {Q:Que σ} {per:Int} {ps:List Pk} {q0:σ}
theorem reaches_iter {s:St σ} (h:Reaches Q per ps q0 s):∃ n,iterS Q per ps ⟨[],0,0,q0⟩ n=some s:=by
 refine h.by_steps (C:=fun s=>∃ n,iterS Q per ps ⟨[],0,0,q0⟩ n=some s) ⟨0,rfl⟩ ?_ ?_ ?_
 ·
  rintro s p _ hp ht ⟨n,hn⟩
  refine ⟨n+1,?_⟩
  rw [iterS,hn,Option.bind_some,stepS,hp]
  simp only [if_pos ht]
 ·
  rintro s p _ hall h0 hp ⟨n,hn⟩
  refine ⟨n+1,?_⟩
  rw [iterS,hn,Option.bind_some,stepS]
  cases hx:ps[s.next]? with
  | none=>simp only [if_pos h0,hp]
  | some r=>
   have:=hall r hx
   simp only [if_neg (show ¬ r.tick ≤ s.now by omega),if_pos h0,hp]
 ·
  rintro s p _ hp ht h0 ⟨n,hn⟩
  refine ⟨n+1,?_⟩
  rw [iterS,hn,Option.bind_some,stepS,hp]
  simp only [if_neg (show ¬ p.tick ≤ s.now by omega),if_neg (show ¬ 0 < Q.rest s.q by omega)]
theorem iter_none {s0 s:St σ} {n:Nat} (h:iterS Q per ps s0 n=some s) (he:stepS Q per ps s=none):∀ k,iterS Q per ps s0 (n+k+1)=none
 | 0=>by rw [Nat.add_zero,iterS,h,Option.bind_some,he]
 | k+1=>by rw [show n+(k+1)+1=(n+k+1)+1 by omega,iterS,iter_none h he k];rfl
theorem reaches_same {s t:St σ} (hs:Reaches Q per ps q0 s) (ht:Reaches Q per ps q0 t) (s1:¬ s.next < ps.length) (s2:Q.rest s.q=0) (t1:¬ t.next < ps.length) (t2:Q.rest t.q=0):s=t:=by
 have end_:∀ u:St σ,¬ u.next < ps.length → Q.rest u.q=0 → stepS Q per ps u=none:=fun u h1 h2=>by
  rw [stepS,List.getElem?_eq_none (by omega)]
  simp only [if_neg (show ¬ 0 < Q.rest u.q by omega)]
 obtain ⟨n,hn⟩:=reaches_iter hs
 obtain ⟨m,hm⟩:=reaches_iter ht
 rcases Nat.lt_trichotomy n m with h | h | h
 ·
  have:=iter_none hn (end_ s s1 s2) (m - n - 1)
  rw [show n+(m - n - 1)+1=m by omega,hm] at this
  cases this
 ·
  subst h
  exact Option.some.inj (hn.symm.trans hm)
 ·
  have:=iter_none hm (end_ t t1 t2) (n - m - 1)
  rw [show m+(n - m - 1)+1=n by omega,hn] at this
  cases this
end
def RoundSent (per:Int) (ps:List Pk) (ns:List Int) (l:List Sn):Prop:=∃ s,Reaches (turnsQ ps ns) per ps turns0 s ∧ ¬ s.next < ps.length ∧ (turnsQ ps ns).rest s.q=0 ∧ s.out=l
theorem RoundSent.same {per:Int} {ps:List Pk} {ns:List Int} {l m:List Sn} (h:RoundSent per ps ns l) (k:RoundSent per ps ns m):l=m:=by
 obtain ⟨s,h1,h2,h3,rfl⟩:=h
 obtain ⟨t,k1,k2,k3,rfl⟩:=k
 rw [reaches_same h1 k1 h2 h3 k2 k3]
section
variable {per:Int} {ps:List Pk} {ns:List Int} {l:List Sn}
theorem RoundSent.length (ho:OkPks ps) (hq:∀ f,1 ≤ quOf ns f) (h:RoundSent per ps ns l):l.length=ps.length:=by
 obtain ⟨s,h1,h2,h3,rfl⟩:=h
 have:=h1.count (turns_law ho hq)
 have:=h1.next_le
 omega
end
def cameL (ps:List Pk) (out:List Sn) (f n:Nat):List Nat:=(List.range n).filter fun i=>flowOf ps i == f && !isDone out i
theorem cameL_succ (ps:List Pk) (out:List Sn) (f n:Nat):cameL ps out f (n+1)=cameL ps out f n ++ if flowOf ps n=f ∧ isDone out n=false then [n] else []:=by
 unfold cameL
 rw [List.range_succ,List.filter_append]
 congr 1
 by_cases h:flowOf ps n=f ∧ isDone out n=false
 · rw [if_pos h];simp [h.1,h.2]
 ·
  rw [if_neg h]
  simp only [List.filter_cons,List.filter_nil]
  rw [if_neg]
  intro h'
  rw [Bool.and_eq_true,beq_iff_eq,Bool.not_eq_true'] at h'
  exact h h'
section
variable {ps:List Pk} {ns:List Int} {per:Int}
theorem turns_lists (ho:OkPks ps) (hq:∀ f,1 ≤ quOf ns f) (hper:1 ≤ per) {s:St TQ} (hr:Reaches (turnsQ ps ns) per ps turns0 s):(∀ i,i < s.next → tickOf ps i ≤ s.now) ∧ ∀ f,s.q.d.qs f=cameL ps s.out f s.next:=by
 refine hr.by_steps (C:=fun s=>(∀ i,i < s.next → tickOf ps i ≤ s.now) ∧ ∀ f,s.q.d.qs f=cameL ps s.out f s.next) ⟨fun i h=>absurd h (Nat.not_lt_zero _),fun f=>rfl⟩ ?_ ?_ ?_
 ·
  rintro s p hs hp ht ⟨i1,i2⟩
  refine ⟨fun i hi=>?_,fun f=>?_⟩
  ·
   rcases Nat.lt_or_ge i s.next with h | h
   · exact i1 i h
   ·
    obtain rfl:i=s.next:=by simp only at hi;omega
    rw [tickOf_get hp];exact ht
  ·
   obtain ⟨H,r⟩:=turns_run (M:=1500) ho hq (by omega) (fun k=>(sizeAt_in ho k).2) hs
   have hnew:isDone s.out s.next=false:=by
    cases hd:isDone s.out s.next with
    | false=>rfl
    | true=>have:=r.gone _ hd;omega
   show put1 s.q.d.qs (flowOf ps s.next) (s.q.d.qs (flowOf ps s.next) ++ [s.next]) f=cameL ps s.out f (s.next+1)
   rw [cameL_succ]
   by_cases e:f=flowOf ps s.next
   ·
    subst e
    rw [put1_same,i2,if_pos ⟨rfl,hnew⟩]
   · rw [put1_other _ _ e,i2,if_neg (fun h=>e h.1.symm),List.append_nil]
 ·
  rintro s p hs hall h0 hp ⟨i1,i2⟩
  obtain ⟨H,r⟩:=turns_run (M:=1500) ho hq (by omega) (fun k=>(sizeAt_in ho k).2) hs
  obtain ⟨k,e,hx,e1,e2,f,t,c,sa⟩:=r.good.picks hq h0
  rw [e1] at hp ⊢
  obtain ⟨-,-,z1,-,-,-⟩:=okPk_true (ho.each _ p hp).1
  have a1:0 ≤ per * p.size:=Int.mul_nonneg (by omega) (by omega)
  have hqs:e.qs=put1 s.q.d.qs f t:=by rw [sa.left,sent_qs,sa.same]
  have hhead:s.q.d.qs f=k :: t:=by rw [← sa.same];exact sa.head
  have hkf:flowOf ps k=f:=(r.state.size f k (by rw [hhead];exact List.mem_cons_self ..)).1
  have hnd:=r.once f
  rw [hhead] at hnd
  obtain ⟨n1,-⟩:=List.nodup_cons.1 hnd
  refine ⟨fun i hi=>by have:=i1 i hi;simp only;omega,fun g=>?_⟩
  rw [e2]
  show e.qs g=cameL ps (s.out ++ [(⟨(k:Nat),s.now,s.now+per * p.size⟩:Sn)]) g s.next
  have hfil:cameL ps (s.out ++ [(⟨(k:Nat),s.now,s.now+per * p.size⟩:Sn)]) g s.next=(s.q.d.qs g).filter fun i=>!(i == k):=by
   rw [i2,cameL,cameL,List.filter_filter]
   refine List.filter_congr fun i _=>?_
   rw [isDone_snoc]
   have e3:(k == i)=(i == k):=by
    rw [Bool.eq_iff_iff,beq_iff_eq,beq_iff_eq]
    omega
   rw [e3]
   cases (flowOf ps i == g) <;> cases isDone s.out i <;> cases (i == k) <;> rfl
  rw [hfil,hqs]
  by_cases eg:g=f
  ·
   subst eg
   rw [put1_same,hhead,List.filter_cons,if_neg (by simp)]
   refine (List.filter_eq_self.2 fun i hi=>?_).symm
   have:i ≠ k:=fun e=>n1 (by rw [← e];exact hi)
   simp [this]
  ·
   rw [put1_other _ _ eg]
   refine (List.filter_eq_self.2 fun i hi=>?_).symm
   have:i ≠ k:=fun e=>eg (by rw [← (r.state.size g i hi).1,e];exact hkf)
   simp [this]
 ·
  rintro s p hs hp ht h0 ⟨i1,i2⟩
  exact ⟨fun i hi=>by have:=i1 i hi;simp only;omega,i2⟩
end
theorem sum_but (g:Nat → Nat) (n:Nat):∀ l:List Nat,l.Nodup → (l.map g).sum ≤ ((l.filter fun x=>x != n).map g).sum+g n
 | [],_=>by simp
 | x :: r,h=>by
  obtain ⟨h1,h2⟩:=List.nodup_cons.1 h
  have ih:=sum_but g n r h2
  by_cases e:x=n
  ·
   subst e
   have:r.filter (fun y=>y != x)=r:=List.filter_eq_self.2 fun y hy=>by
    have:y ≠ x:=fun e=>h1 (by rw [← e];exact hy)
    simp [this]
   simp [this]
   omega
  ·
   simp only [List.filter_cons,bne_iff_ne,ne_eq,e,not_false_eq_true,if_true,List.map_cons,List.sum_cons]
   omega
theorem sum_le (g:Nat → Nat) (c:Nat):∀ (n:Nat) (l:List Nat),l.Nodup → (∀ x,x ∈ l → x < n) → (∀ x,g x ≤ c) → (l.map g).sum ≤ n * c
 | 0,l,_,hl,_=>by
  cases l with
  | nil=>simp
  | cons x r=>exact absurd (hl x (List.mem_cons_self ..)) (Nat.not_lt_zero _)
 | n+1,l,hn,hl,hc=>by
  have h1:=sum_but g n l hn
  have h2:=sum_le g c n (l.filter fun x=>x != n) (hn.filter _) (fun x hx=>by
   rw [List.mem_filter,bne_iff_ne] at hx
   have:=hl x hx.1
   omega) hc
  have:=hc n
  rw [Nat.add_mul,Nat.one_mul]
  omega
section
end
structure FQ where
 q:List Nat
 tag:Nat → Int
 v:Int
 last:Nat → Int
section
variable (fl:Nat → Nat) (inc:Nat → Int)
def FQ.come (s:FQ) (k:Nat):FQ:=
 { q:=s.q ++ [k],tag:=put1 s.tag k (max s.v (s.last (fl k))+inc k),v:=s.v,last:=put1 s.last (fl k) (max s.v (s.last (fl k))+inc k) }
def FQ.left (s:FQ) (k:Nat):FQ:={ s with q:=s.q.filter fun i=>i != k,v:=s.tag k }
def FQ.rests (s:FQ):FQ:={ s with v:=0,last:=fun _=>0 }
def FQ.of (s:FQ) (f:Nat):List Nat:=s.q.filter fun i=>fl i == f
def FQ.begins (s:FQ) (f:Nat):Int:=match s.of fl f with | []=>s.v | k :: _=>s.tag k - inc k
def InChain (tag:Nat → Int) (inc:Nat → Int):List Nat → Prop
 | []=>True
 | [_]=>True
 | a :: b :: r=>tag b - inc b=tag a ∧ InChain tag inc (b :: r)
def lastTag (tag:Nat → Int) (d:Int):List Nat → Int
 | []=>d
 | [a]=>tag a
 | _ :: b :: r=>lastTag tag d (b :: r)
structure FQOk (s:FQ):Prop where
 nodup:s.q.Nodup
 low:∀ k,k ∈ s.q → s.v ≤ s.tag k
 begin:∀ f,s.begins fl inc f ≤ s.v
 chain:∀ f,InChain s.tag inc (s.of fl f)
 ends:∀ f,s.of fl f ≠ [] → s.last f=lastTag s.tag 0 (s.of fl f)
 idle:∀ f,s.of fl f=[] → s.last f ≤ s.v
variable {fl inc} {s:FQ}
theorem of_append (s:FQ) (k f:Nat) (t:Nat → Int) (v:Int) (l:Nat → Int):(FQ.mk (s.q ++ [k]) t v l).of fl f=s.of fl f ++ if fl k=f then [k] else []:=by
 unfold FQ.of
 simp only [List.filter_append]
 congr 1
 by_cases h:fl k=f
 · simp [h]
 · simp [h]
theorem chain_congr {t u:Nat → Int}:∀ {l:List Nat},(∀ k,k ∈ l → t k=u k) → InChain t inc l → InChain u inc l
 | [],_,_=>trivial
 | [_],_,_=>trivial
 | a :: b :: r,h,hc=>by
  obtain ⟨h1,h2⟩:=hc
  refine ⟨?_,chain_congr (fun k hk=>h k (List.mem_cons_of_mem _ hk)) h2⟩
  rw [← h a (List.mem_cons_self ..),← h b (List.mem_cons_of_mem _ (List.mem_cons_self ..))]
  exact h1
theorem lastTag_congr {t u:Nat → Int} {d:Int}:∀ {l:List Nat},(∀ k,k ∈ l → t k=u k) → lastTag t d l=lastTag u d l
 | [],_=>rfl
 | [a],h=>h a (List.mem_cons_self ..)
 | a :: b :: r,h=>by
  simp only [lastTag]
  exact lastTag_congr fun k hk=>h k (List.mem_cons_of_mem _ hk)
theorem lastTag_snoc (t:Nat → Int) (d:Int) (k:Nat):∀ l:List Nat,lastTag t d (l ++ [k])=t k
 | []=>rfl
 | [a]=>rfl
 | a :: b :: r=>by
  simp only [List.cons_append,lastTag]
  exact lastTag_snoc t d k (b :: r)
theorem chain_snoc {t:Nat → Int} {k:Nat}:∀ {l:List Nat},InChain t inc l → (l ≠ [] → t k - inc k=lastTag t 0 l) → InChain t inc (l ++ [k])
 | [],_,_=>trivial
 | [a],_,h=>⟨h (by simp),trivial⟩
 | a :: b :: r,hc,h=>by
  obtain ⟨h1,h2⟩:=hc
  exact ⟨h1,chain_snoc h2 (fun _=>h (by simp))⟩
theorem lastTag_ge {t:Nat → Int} {v:Int}:∀ {l:List Nat},l ≠ [] → (∀ k,k ∈ l → v ≤ t k) → v ≤ lastTag t 0 l
 | [],h,_=>absurd rfl h
 | [a],_,h=>h a (List.mem_cons_self ..)
 | a :: b :: r,_,h=>by
  simp only [lastTag]
  exact lastTag_ge (by simp) fun k hk=>h k (List.mem_cons_of_mem _ hk)
theorem mem_of {s:FQ} {f k:Nat}:k ∈ s.of fl f ↔ k ∈ s.q ∧ fl k=f:=by
 unfold FQ.of
 rw [List.mem_filter,beq_iff_eq]
theorem FQOk.start (fl:Nat → Nat) (inc:Nat → Int) (t:Nat → Int):FQOk fl inc ⟨[],t,0,fun _=>0⟩:=
 ⟨List.nodup_nil,(fun _ h=>by cases h),fun _=>Int.le_refl _,fun _=>trivial,fun _ h=>absurd rfl h,fun _ _=>Int.le_refl _⟩
theorem FQOk.rests (h:FQOk fl inc s) (h0:s.q=[]):FQOk fl inc s.rests:=by
 have e:∀ f,s.rests.of fl f=[]:=fun f=>by unfold FQ.of FQ.rests;simp [h0]
 refine ⟨h.nodup,fun k hk=>?_,fun f=>?_,fun f=>by rw [e];trivial,fun f hf=>absurd (e f) hf,fun f _=>Int.le_refl _⟩
 ·
  have hk':k ∈ s.q:=hk
  rw [h0] at hk'
  cases hk'
 ·
  unfold FQ.begins
  rw [e]
  exact Int.le_refl _
theorem FQOk.come (h:FQOk fl inc s) {k:Nat} (hk:k ∉ s.q) (hi:0 ≤ inc k):FQOk fl inc (s.come fl inc k):=by
 have hne:∀ i,i ∈ s.q → i ≠ k:=fun i hi e=>hk (by rw [← e];exact hi)
 have htag:∀ i,i ∈ s.q → s.tag i=(s.come fl inc k).tag i:=fun i hi=>(put1_other _ _ (hne i hi)).symm
 have htk:(s.come fl inc k).tag k=max s.v (s.last (fl k))+inc k:=put1_same _ _ _
 have hof:∀ f,(s.come fl inc k).of fl f=s.of fl f ++ if fl k=f then [k] else []:=fun f=>of_append s k f _ _ _
 have hofm:∀ f i,i ∈ s.of fl f → s.tag i=(s.come fl inc k).tag i:=fun f i hi=>htag i (mem_of.1 hi).1
 have hlast:s.of fl (fl k) ≠ [] → max s.v (s.last (fl k))=lastTag s.tag 0 (s.of fl (fl k)):=fun hn=>by
  rw [h.ends _ hn]
  have:=lastTag_ge hn (fun i hi=>h.low i (mem_of.1 hi).1)
  omega
 refine ⟨List.nodup_append.2 ⟨h.nodup,List.nodup_cons.2 ⟨by simp,List.nodup_nil⟩,fun a ha b hb e=>hk (by rw [List.mem_singleton] at hb;rw [← hb,← e];exact ha)⟩,fun i hi'=>?_,fun f=>?_,fun f=>?_,fun f hf=>?_,fun f hf=>?_⟩
 ·
  show s.v ≤ (s.come fl inc k).tag i
  have hi2:i ∈ s.q ++ [k]:=hi'
  rcases List.mem_append.1 hi2 with h1 | h1
  · rw [← htag i h1];exact h.low i h1
  ·
   rw [List.mem_singleton] at h1
   rw [h1,htk]
   omega
 ·
  have hb:=h.begin f
  unfold FQ.begins at hb ⊢
  rw [hof]
  cases hq:s.of fl f with
  | nil=>
   rw [List.nil_append]
   by_cases e:fl k=f
   ·
    rw [if_pos e]
    show (s.come fl inc k).tag k - inc k ≤ s.v
    rw [htk]
    have:=h.idle f hq
    rw [e]
    omega
   ·
    rw [if_neg e]
    exact Int.le_refl _
  | cons a r=>
   rw [hq] at hb
   show (s.come fl inc k).tag a - inc a ≤ s.v
   rw [← hofm f a (by rw [hq];exact List.mem_cons_self ..)]
   exact hb
 ·
  rw [hof]
  have hc:=chain_congr (hofm f) (h.chain f)
  by_cases e:fl k=f
  ·
   rw [if_pos e]
   refine chain_snoc hc (fun hn=>?_)
   rw [htk,← lastTag_congr (hofm f),← e,← hlast (by rw [e];exact hn)]
   omega
  ·
   rw [if_neg e,List.append_nil]
   exact hc
 ·
  show put1 s.last (fl k) (max s.v (s.last (fl k))+inc k) f=_
  rw [hof]
  by_cases e:fl k=f
  · rw [if_pos e,lastTag_snoc,htk,← e,put1_same]
  ·
   rw [hof,if_neg e,List.append_nil] at hf
   rw [if_neg e,List.append_nil,put1_other _ _ (fun e'=>e e'.symm),← lastTag_congr (hofm f)]
   exact h.ends f hf
 ·
  have hf':=hf
  rw [hof] at hf'
  have e:fl k ≠ f:=fun e=>by rw [if_pos e] at hf';simp at hf'
  rw [if_neg e,List.append_nil] at hf'
  show put1 s.last (fl k) _ f ≤ s.v
  rw [put1_other _ _ (fun e'=>e e'.symm)]
  exact h.idle f hf'
theorem begins_come {k f:Nat} (hk:k ∉ s.q) (hf:s.of fl f ≠ []):(s.come fl inc k).begins fl inc f=s.begins fl inc f ∧ (s.come fl inc k).of fl f ≠ []:=by
 have hof:(s.come fl inc k).of fl f=s.of fl f ++ if fl k=f then [k] else []:=of_append s k f _ _ _
 cases hq:s.of fl f with
 | nil=>exact absurd hq hf
 | cons a r=>
  refine ⟨?_,by rw [hof,hq];simp⟩
  have ha:a ∈ s.q:=(mem_of (fl:=fl) (f:=f).1 (by rw [hq];exact List.mem_cons_self ..)).1
  unfold FQ.begins
  rw [hof,hq]
  show (s.come fl inc k).tag a - inc a=s.tag a - inc a
  have:(s.come fl inc k).tag a=s.tag a:=put1_other _ _ (fun e=>hk (by rw [← e];exact ha))
  rw [this]
def FQ.Least (s:FQ) (k:Nat):Prop:=k ∈ s.q ∧ ∀ i,i ∈ s.q → s.tag k ≤ s.tag i
theorem chain_rises {t:Nat → Int}:∀ {l:List Nat} {a:Nat},InChain t inc (a :: l) → (∀ k,k ∈ l → 1 ≤ inc k) → ∀ k,k ∈ l → t a < t k
 | [],_,_,_=>fun k hk=>by cases hk
 | b :: r,a,hc,hi=>fun k hk=>by
  obtain ⟨h1,h2⟩:=hc
  have hb:=hi b (List.mem_cons_self ..)
  rcases List.mem_cons.1 hk with e | hk
  · rw [e];omega
  ·
   have:=chain_rises h2 (fun k hk=>hi k (List.mem_cons_of_mem _ hk)) k hk
   omega
theorem least_head (h:FQOk fl inc s) (hi:∀ k,k ∈ s.q → 1 ≤ inc k) {k:Nat} (hk:s.Least k):∃ r,s.of fl (fl k)=k :: r:=by
 have hm:k ∈ s.of fl (fl k):=mem_of.2 ⟨hk.1,rfl⟩
 cases hq:s.of fl (fl k) with
 | nil=>rw [hq] at hm;cases hm
 | cons a r=>
  rw [hq] at hm
  rcases List.mem_cons.1 hm with e | hm
  · subst e;exact ⟨r,rfl⟩
  ·
   have hc:=h.chain (fl k)
   rw [hq] at hc
   have hall:∀ i,i ∈ a :: r → i ∈ s.q:=fun i hi'=>(mem_of (fl:=fl) (f:=fl k).1 (by rw [hq];exact hi')).1
   have:=chain_rises hc (fun i hi'=>hi i (hall i (List.mem_cons_of_mem _ hi'))) k hm
   have:=hk.2 a (hall a (List.mem_cons_self ..))
   omega
theorem of_left (s:FQ) (k f:Nat):(s.left k).of fl f=(s.of fl f).filter fun i=>i != k:=by
 unfold FQ.of FQ.left
 simp only [List.filter_filter]
 refine List.filter_congr fun i _=>?_
 cases (fl i == f) <;> cases (i != k) <;> rfl
theorem of_left_other {k f:Nat} (h:fl k ≠ f):(s.left k).of fl f=s.of fl f:=by
 rw [of_left]
 refine List.filter_eq_self.2 fun i hi=>?_
 have:i ≠ k:=fun e=>h (by rw [← e];exact (mem_of.1 hi).2)
 simp [this]
theorem of_left_same (h:FQOk fl inc s) {k:Nat} {r:List Nat} (hr:s.of fl (fl k)=k :: r):(s.left k).of fl (fl k)=r:=by
 have hn:(s.of fl (fl k)).Nodup:=h.nodup.filter _
 rw [hr] at hn
 obtain ⟨n1,-⟩:=List.nodup_cons.1 hn
 rw [of_left,hr,List.filter_cons,if_neg (by simp)]
 refine List.filter_eq_self.2 fun i hi=>?_
 have:i ≠ k:=fun e=>n1 (by rw [← e];exact hi)
 simp [this]
theorem FQOk.left (h:FQOk fl inc s) (hi:∀ k,k ∈ s.q → 1 ≤ inc k) {k:Nat} (hk:s.Least k):FQOk fl inc (s.left k):=by
 obtain ⟨r,hr⟩:=least_head h hi hk
 have hv:s.v ≤ s.tag k:=h.low k hk.1
 have hmem:∀ i,i ∈ (s.left k).q → i ∈ s.q:=fun i hi'=>(List.mem_filter.1 hi').1
 refine ⟨h.nodup.filter _,fun i hi'=>hk.2 i (hmem i hi'),fun f=>?_,fun f=>?_,fun f hf=>?_,fun f hf=>?_⟩
 ·
  show (s.left k).begins fl inc f ≤ s.tag k
  by_cases e:fl k=f
  ·
   subst e
   unfold FQ.begins
   rw [of_left_same h hr]
   cases r with
   | nil=>exact Int.le_refl _
   | cons b r=>
    have hc:=h.chain (fl k)
    rw [hr] at hc
    show s.tag b - inc b ≤ s.tag k
    have:=hc.1
    omega
  ·
   have hb:=h.begin f
   unfold FQ.begins at hb ⊢
   rw [of_left_other e]
   cases hq:s.of fl f with
   | nil=>exact Int.le_refl _
   | cons a r=>
    rw [hq] at hb
    show s.tag a - inc a ≤ s.tag k
    simp only at hb
    omega
 ·
  by_cases e:fl k=f
  ·
   subst e
   rw [of_left_same h hr]
   have hc:=h.chain (fl k)
   rw [hr] at hc
   cases r with
   | nil=>trivial
   | cons b r=>exact hc.2
  ·
   rw [of_left_other e]
   exact h.chain f
 ·
  by_cases e:fl k=f
  ·
   subst e
   rw [of_left_same h hr] at hf ⊢
   have:=h.ends (fl k) (by rw [hr];simp)
   rw [hr] at this
   cases r with
   | nil=>exact absurd rfl hf
   | cons b r=>exact this
  ·
   rw [of_left_other e] at hf ⊢
   exact h.ends f hf
 ·
  show s.last f ≤ s.tag k
  by_cases e:fl k=f
  ·
   subst e
   rw [of_left_same h hr] at hf
   subst hf
   have:=h.ends (fl k) (by rw [hr];simp)
   rw [hr] at this
   rw [this]
   exact Int.le_refl _
  ·
   rw [of_left_other e] at hf
   have:=h.idle f hf
   omega
end
def incOf (ps:List Pk) (ws:List Int) (k:Nat):Int:=sizeAt ps k * (12 / quOf ws (flowOf ps k))
def fairQ (ps:List Pk) (ws:List Int):Que FQ where
 come:=fun s k=>s.come (flowOf ps) (incOf ps ws) k
 pick:=fun s=>s.q.getD (pickAt s.tag s.q) 0
 left:=fun s=>s.left (s.q.getD (pickAt s.tag s.q) 0)
 rest:=fun s=>s.q.length
 idle:=FQ.rests
def fair0:FQ:=⟨[],fun _=>0,0,fun _=>0⟩
def WtsOk (ws:List Int):Prop:=∀ f,1 ≤ quOf ws f ∧ 12 / quOf ws f * quOf ws f=12
section
variable {ps:List Pk} {ws:List Int} {per:Int}
theorem WtsOk.part (h:WtsOk ws) (f:Nat):1 ≤ 12 / quOf ws f ∧ 12 / quOf ws f ≤ 12:=by
 obtain ⟨h1,h2⟩:=h f
 have h3:0 ≤ 12 / quOf ws f:=Int.ediv_nonneg (by omega) (by omega)
 constructor
 ·
  rcases Int.lt_or_le (12 / quOf ws f) 1 with h4 | h4
  ·
   have:12 / quOf ws f=0:=by omega
   rw [this] at h2
   omega
  · exact h4
 ·
  have:=Int.mul_le_mul_of_nonneg_left h1 h3
  omega
theorem incOf_in (hw:WtsOk ws) (ho:OkPks ps) (k:Nat):1 ≤ incOf ps ws k ∧ incOf ps ws k ≤ 18000:=by
 obtain ⟨h1,h2⟩:=hw.part (flowOf ps k)
 obtain ⟨h3,h4⟩:=sizeAt_in ho k
 unfold incOf
 have a1:1 * 1 ≤ sizeAt ps k * (12 / quOf ws (flowOf ps k)):=Int.mul_le_mul h3 h1 (by omega) (by omega)
 have a2:sizeAt ps k * (12 / quOf ws (flowOf ps k)) ≤ 1500 * 12:=Int.mul_le_mul h4 h2 (by omega) (by omega)
 omega
theorem least_first {tag:Nat → Int} {q:List Nat} (h:0 < q.length):q.getD (pickAt tag q) 0 ∈ q ∧ ∀ i,i ∈ q → tag (q.getD (pickAt tag q) 0) ≤ tag i:=by
 have hl:=pickAt_lt tag h
 refine ⟨by rw [getD_lt hl];exact List.getElem_mem _,fun i hi=>?_⟩
 obtain ⟨j,hj,e⟩:=List.getElem_of_mem hi
 have:=firstLeast_min tag q q.length j hj
 rw [getD_lt (d:=0) hj,e] at this
 have e2:pickAt tag q=firstLeast tag q q.length:=rfl
 rw [e2]
 omega
theorem filter_erase {q:List Nat} (h:q.Nodup) {k:Nat} (hk:k ∈ q):(q.filter fun i=>i != k).length+1=q.length:=by
 have:=h.erase_eq_filter k
 rw [← this,List.length_erase_of_mem hk]
 have:0 < q.length:=List.length_pos_of_mem hk
 omega
structure FairRun (ps:List Pk) (ws:List Int) (s:St FQ) (H:List (FQ × FQ)):Prop where
 state:FQOk (flowOf ps) (incOf ps ws) s.q
 rises:s.q.q.Pairwise (· < ·)
 len:H.length=s.out.length
 each:∀ (i:Nat) x h,s.out[i]? = some x → H[i]? = some h → ∃ k:Nat,x.num=k ∧ FQOk (flowOf ps) (incOf ps ws) h.1 ∧ h.1.Least k ∧ h.2=h.1.left k ∧ ∀ w:Nat,w < ps.length → tickOf ps w ≤ x.beg → isDone (s.out.take (i+1)) w=false → w ∈ h.2.q
 next:∀ (i:Nat) h h',H[i]? = some h → H[i+1]? = some h' → ∀ f,h.2.of (flowOf ps) f ≠ [] → h'.1.begins (flowOf ps) (incOf ps ws) f=h.2.begins (flowOf ps) (incOf ps ws) f
 last:∀ h,H[H.length - 1]? = some h → 0 < H.length → ∀ f,h.2.of (flowOf ps) f ≠ [] → s.q.of (flowOf ps) f ≠ [] ∧ s.q.begins (flowOf ps) (incOf ps ws) f=h.2.begins (flowOf ps) (incOf ps ws) f
 clock:∀ x,s.out[s.out.length - 1]? = some x → x.fin ≤ s.now ∧ (x.fin=s.now → s.q.v=s.q.tag x.num.toNat)
 busy:∀ (i:Nat) x y,s.out[i]? = some x → s.out[i+1]? = some y → y.beg=x.fin → s.q.tag x.num.toNat ≤ s.q.tag y.num.toNat
 wait:∀ w,w < s.next → isDone s.out w=false → w ∈ s.q.q
 only:∀ w,w ∈ s.q.q → w < s.next ∧ isDone s.out w=false
 le:s.next ≤ ps.length
 gone:∀ w:Nat,isDone s.out w=true → w < s.next
 nums:∀ (i:Nat) x,s.out[i]? = some x → ∃ k:Nat,x.num=k ∧ k < s.next
 within:∀ (i:Nat) h,H[i]? = some h → ∀ k,k ∈ h.1.q → k < ps.length
theorem snoc_get {α:Type} {l:List α} {y x:α} {i:Nat} (h:(l ++ [y])[i]? = some x):(i < l.length ∧ l[i]? = some x) ∨ (i=l.length ∧ x=y):=by
 have hl:=lt_of_get h
 rw [List.length_append,List.length_cons,List.length_nil] at hl
 rcases Nat.lt_or_ge i l.length with h' | h'
 · rw [List.getElem?_append_left h'] at h;exact .inl ⟨h',h⟩
 ·
  obtain rfl:i=l.length:=by omega
  rw [List.getElem?_append_right (Nat.le_refl _),Nat.sub_self,List.getElem?_cons_zero] at h
  exact .inr ⟨rfl,(Option.some.inj h).symm⟩
theorem fair_run (hw:WtsOk ws) (ho:OkPks ps) (hper:1 ≤ per) {s:St FQ} (h:Reaches (fairQ ps ws) per ps fair0 s):∃ H,FairRun ps ws s H:=by
 refine h.by_steps (C:=fun s=>∃ H,FairRun ps ws s H) ?_ ?_ ?_ ?_
 · exact ⟨[],FQOk.start _ _ _,List.Pairwise.nil,rfl,(fun i x h hx=>by simp at hx),(fun i h h' hx=>by simp at hx),(fun h _ h0=>by simp at h0),(fun x hx=>by simp at hx),(fun i x y hx=>by simp at hx),(fun w hw=>absurd hw (Nat.not_lt_zero _)),(fun w hw=>by cases hw),Nat.zero_le _,(fun w hw=>by simp [isDone] at hw),(fun i x hx=>by simp at hx),fun i h hh=>by simp at hh⟩
 ·
  rintro s p hs hp ht ⟨H,r⟩
  have hlt:=lt_of_get hp
  have hnew:isDone s.out s.next=false:=by
   cases hd:isDone s.out s.next with
   | false=>rfl
   | true=>have:=r.gone _ hd;omega
  have hk:s.next ∉ s.q.q:=fun hm=>by have:=(r.only _ hm).1;omega
  have hi:=(incOf_in hw ho s.next).1
  have htag:∀ (i:Nat) x,s.out[i]? = some x → ((fairQ ps ws).come s.q s.next).tag x.num.toNat=s.q.tag x.num.toNat:=fun i x hx=>by
   obtain ⟨k,e,hk'⟩:=r.nums i x hx
   refine put1_other _ _ ?_
   rw [e,Int.toNat_natCast]
   omega
  refine ⟨H,r.state.come hk (by omega),?_,r.len,r.each,r.next,fun h hh h0 f hf=>?_,fun x hx=>?_,fun i x y hx hy hb=>?_,fun w hw hd=>?_,fun w hw=>?_,hlt,fun w hw=>Nat.lt_succ_of_lt (r.gone w hw),fun i x hx=>?_,r.within⟩
  ·
   refine List.pairwise_append.2 ⟨r.rises,List.pairwise_singleton _ _,fun a ha b hb=>?_⟩
   rw [List.mem_singleton] at hb
   have:=(r.only a ha).1
   omega
  ·
   obtain ⟨g1,g2⟩:=r.last h hh h0 f hf
   obtain ⟨c1,c2⟩:=begins_come (inc:=incOf ps ws) hk g1
   exact ⟨c2,c1.trans g2⟩
  ·
   obtain ⟨c1,c2⟩:=r.clock x hx
   refine ⟨c1,fun e=>?_⟩
   show s.q.v=_
   rw [htag _ x hx]
   exact c2 e
  ·
   show ((fairQ ps ws).come s.q s.next).tag _ ≤ ((fairQ ps ws).come s.q s.next).tag _
   rw [htag _ x hx,htag _ y hy]
   exact r.busy i x y hx hy hb
  ·
   show w ∈ s.q.q ++ [s.next]
   rcases Nat.lt_or_ge w s.next with hw' | hw'
   · exact List.mem_append.2 (.inl (r.wait w hw' hd))
   ·
    obtain rfl:w=s.next:=by simp only at hw;omega
    exact List.mem_append.2 (.inr (List.mem_singleton.2 rfl))
  ·
   have hw2:w ∈ s.q.q ++ [s.next]:=hw
   rcases List.mem_append.1 hw2 with hw3 | hw3
   ·
    obtain ⟨g1,g2⟩:=r.only w hw3
    exact ⟨Nat.lt_succ_of_lt g1,g2⟩
   ·
    rw [List.mem_singleton] at hw3
    subst hw3
    exact ⟨Nat.lt_succ_self _,hnew⟩
  ·
   obtain ⟨k,e,hk'⟩:=r.nums i x hx
   exact ⟨k,e,Nat.lt_succ_of_lt hk'⟩
 ·
  rintro s p hs hall h0 hp ⟨H,r⟩
  obtain ⟨l1,l2⟩:=least_first (tag:=s.q.tag) (q:=s.q.q) h0
  obtain ⟨k,hk⟩:∃ k,k=(fairQ ps ws).pick s.q:=⟨_,rfl⟩
  have hkd:s.q.q.getD (pickAt s.q.tag s.q.q) 0=k:=hk.symm
  have hleft:(fairQ ps ws).left s.q=s.q.left k:=by rw [hk];rfl
  rw [hkd] at l1 l2
  rw [← hk] at hp ⊢
  rw [hleft]
  have hL:s.q.Least k:=⟨l1,l2⟩
  have hinc:∀ i,i ∈ s.q.q → 1 ≤ incOf ps ws i:=fun i _=>(incOf_in hw ho i).1
  obtain ⟨-,-,z1,-,-,-⟩:=okPk_true (ho.each _ p hp).1
  have hpos:1 * 1 ≤ per * p.size:=Int.mul_le_mul hper z1 (by omega) (by omega)
  obtain ⟨k1,k2⟩:=r.only k l1
  have hstay:∀ w,w ∈ s.q.q → w ≠ k → w ∈ (s.q.left k).q:=fun w hw hne=>List.mem_filter.2 ⟨hw,by simp [hne]⟩
  have hnd:∀ w:Nat,isDone (s.out ++ [⟨(k:Nat),s.now,s.now+per * p.size⟩]) w=false → isDone s.out w=false ∧ w ≠ k:=by
   intro w hw
   rw [isDone_snoc,Bool.or_eq_false_iff] at hw
   exact ⟨hw.1,fun e=>beq_eq_false_iff_ne.1 hw.2 e.symm⟩
  refine ⟨H ++ [(s.q,s.q.left k)],r.state.left hinc hL,r.rises.filter _,by simp [r.len],fun i x h hx hh=>?_,fun i h h' hh hh' f hf=>?_,fun h hh _ f hf=>?_,fun x hx=>?_,fun i x y hx hy hb=>?_,fun w hw hd=>?_,fun w hw=>?_,r.le,fun w hw=>?_,fun i x hx=>?_,fun i h hh=>?_⟩
  ·
   rcases snoc_get hx with ⟨h',hx⟩ | ⟨rfl,rfl⟩
   ·
    rw [List.getElem?_append_left (by rw [r.len];exact h')] at hh
    simp only [List.take_append_of_le_length (show i+1 ≤ s.out.length by omega)]
    exact r.each i x h hx hh
   ·
    rw [List.getElem?_append_right (by rw [r.len];exact Nat.le_refl _),r.len,Nat.sub_self,List.getElem?_cons_zero] at hh
    have hh:=Option.some.inj hh
    subst hh
    refine ⟨k,rfl,r.state,hL,rfl,fun w hw ht hd=>?_⟩
    rw [List.take_of_length_le (by simp)] at hd
    obtain ⟨d1,d2⟩:=hnd w hd
    refine hstay w (r.wait w ?_ d1) d2
    rcases Nat.lt_or_ge w s.next with h3 | h3
    · exact h3
    ·
     have hnl:s.next < ps.length:=by omega
     have e:ps[s.next]? = some ps[s.next]:=List.getElem?_eq_getElem hnl
     have a1:=hall _ e
     have a2:=ticks_le ho h3 hw
     rw [tickOf_get e] at a2
     simp only at ht
     omega
  ·
   have hil:=lt_of_get hh'
   simp only [List.length_append,List.length_cons,List.length_nil] at hil
   rcases Nat.lt_or_ge (i+1) H.length with h3 | h3
   ·
    rw [List.getElem?_append_left (by omega)] at hh
    rw [List.getElem?_append_left h3] at hh'
    exact r.next i h h' hh hh' f hf
   ·
    have e1:i+1=H.length:=by omega
    rw [List.getElem?_append_left (by omega)] at hh
    rw [List.getElem?_append_right (by omega),e1,Nat.sub_self,List.getElem?_cons_zero] at hh'
    have hh':=Option.some.inj hh'
    subst hh'
    exact (r.last h (by rw [show H.length - 1=i by omega];exact hh) (by omega) f hf).2
  ·
   simp only [List.length_append,List.length_cons,List.length_nil,Nat.add_sub_cancel] at hh
   rw [List.getElem?_append_right (Nat.le_refl _),Nat.sub_self,List.getElem?_cons_zero] at hh
   have hh:=Option.some.inj hh
   subst hh
   exact ⟨hf,rfl⟩
  ·
   simp only [List.length_append,List.length_cons,List.length_nil,Nat.add_sub_cancel] at hx
   rw [List.getElem?_append_right (Nat.le_refl _),Nat.sub_self,List.getElem?_cons_zero] at hx
   have hx:=Option.some.inj hx
   subst hx
   refine ⟨Int.le_refl _,fun _=>?_⟩
   show s.q.tag k=s.q.tag ((k:Nat):Int).toNat
   rw [Int.toNat_natCast]
  ·
   show s.q.tag _ ≤ s.q.tag _
   rcases snoc_get hy with ⟨h',hy⟩ | ⟨e,rfl⟩
   ·
    rcases snoc_get hx with ⟨-,hx⟩ | ⟨e,-⟩
    · exact r.busy i x y hx hy hb
    · omega
   ·
    rcases snoc_get hx with ⟨-,hx⟩ | ⟨e',-⟩
    ·
     obtain ⟨-,c2⟩:=r.clock x (by rw [show s.out.length - 1=i by omega];exact hx)
     have hv:=c2 hb.symm
     have:=r.state.low k l1
     simp only [Int.toNat_natCast]
     omega
    · omega
  ·
   obtain ⟨d1,d2⟩:=hnd w hd
   exact hstay w (r.wait w hw d1) d2
  ·
   obtain ⟨w1,w2⟩:=List.mem_filter.1 (show w ∈ s.q.q.filter fun i=>i != k from hw)
   obtain ⟨g1,g2⟩:=r.only w w1
   refine ⟨g1,?_⟩
   rw [isDone_snoc,g2,Bool.false_or]
   exact beq_eq_false_iff_ne.2 (fun e=>(bne_iff_ne.1 w2) e.symm)
  ·
   rw [isDone_snoc,Bool.or_eq_true] at hw
   show w < s.next
   rcases hw with hw | hw
   · exact r.gone w hw
   ·
    have:=beq_iff_eq.1 hw
    omega
  ·
   rcases snoc_get hx with ⟨-,hx⟩ | ⟨-,rfl⟩
   · exact r.nums i x hx
   · exact ⟨k,rfl,k1⟩
  ·
   rcases snoc_get hh with ⟨-,hh⟩ | ⟨-,rfl⟩
   · exact r.within i h hh
   · exact fun k hk=>Nat.lt_of_lt_of_le (r.only k hk).1 r.le
 ·
  rintro s p hs hp ht h0 ⟨H,r⟩
  have hq:s.q.q=[]:=List.length_eq_zero_iff.1 h0
  refine ⟨H,r.state.rests hq,r.rises,r.len,r.each,r.next,fun h hh h0 f hf=>?_,fun x hx=>?_,r.busy,r.wait,r.only,r.le,r.gone,r.nums,r.within⟩
  ·
   obtain ⟨g1,-⟩:=r.last h hh h0 f hf
   refine absurd ?_ g1
   unfold FQ.of
   rw [hq]
   rfl
  ·
   obtain ⟨c1,-⟩:=r.clock x hx
   refine ⟨by simp only;omega,fun e=>?_⟩
   simp only at e
   omega
end
end Go.Proofs.YtipdclphpkgceaaGreatDoor
