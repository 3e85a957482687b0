/- Own facts, put together: no statement of its own. -/
import Derived.Test.YtipdclphpkgceaaGreatDoorS04
import Derived.Test.YtipdclphpkgceaaGreatDoorS02

namespace Go.Proofs.YtipdclphpkgceaaGreatDoor
def flowOf (ps:List Pk) (j:Nat):Nat:=match ps[j]? with | some p=>p.flow.toNat | none=>0
theorem flowOf_get {ps:List Pk} {j:Nat} {p:Pk} (h:ps[j]? = some p):flowOf ps j=p.flow.toNat:=by simp [flowOf,h]
def ofFlow (ps:List Pk) (ns:List Int) (j:Nat):Int:=ns.getD (flowOf ps j) 0
def rankKeys (ps:List Pk) (ns:List Int):List Int:=(List.range ps.length).map (ofFlow ps ns)
def dueKeys (ps:List Pk) (ns:List Int):List Int:=(List.range ps.length).map fun i=>tickOf ps i+ofFlow ps ns i
theorem rankKeys_length (ps:List Pk) (ns:List Int):(rankKeys ps ns).length=ps.length:=by simp [rankKeys]
theorem dueKeys_length (ps:List Pk) (ns:List Int):(dueKeys ps ns).length=ps.length:=by simp [dueKeys]
theorem rankKeys_get {ps:List Pk} {ns:List Int} {i:Nat} (h:i < ps.length):(rankKeys ps ns).getD i 0=ofFlow ps ns i:=by
 rw [getD_lt (by rw [rankKeys_length];exact h)]
 simp [rankKeys]
theorem dueKeys_get {ps:List Pk} {ns:List Int} {i:Nat} (h:i < ps.length):(dueKeys ps ns).getD i 0=tickOf ps i+ofFlow ps ns i:=by
 rw [getD_lt (by rw [dueKeys_length];exact h)]
 simp [dueKeys]
section
end
def Conv (per:Int) (ps:List Pk) (l:List Sn):Prop:=∀ (k:Nat) x,l[k]? = some x → ∃ t b,Tick ps (l.take k) t ∧ Undone ps.length (l.take k) b ∧ tickOf ps b ≤ t ∧ x=⟨(b:Nat),t,t+per * bytesOf ps b⟩
def Turns (ps:List Pk) (l:List Sn):Prop:=∀ (k:Nat) x,l[k]? = some x → ∀ j,j < x.num.toNat → flowOf ps j=flowOf ps x.num.toNat → ¬ Undone ps.length (l.take k) j
section
variable {per:Int} {ps:List Pk} {l:List Sn} {keys:List Int}
theorem Sched.conv (h:Sched per ps keys l):Conv per ps l:=fun k x hx=>by
 obtain ⟨t,b,h1,h2,e⟩:=h k x hx
 exact ⟨t,b,h1,h2.undone,h2.came,e⟩
theorem Sched.turns (ho:OkPks ps) (hk:∀ i j,i < j → j < ps.length → flowOf ps i=flowOf ps j → keys.getD i 0 ≤ keys.getD j 0) (h:Sched per ps keys l):Turns ps l:=fun k x hx j hj hf hu=>by
 obtain ⟨t,b,h1,h2,e⟩:=h k x hx
 have eb:x.num.toNat=b:=by rw [e];simp
 rw [eb] at hj hf
 have hb:=h2.undone.1
 have c:=ticks_le ho (Nat.le_of_lt hj) hb
 have c1:=h2.least j hu (by have:=h2.came;omega)
 have c2:=hk j b hj hb hf
 omega
theorem sum_one:∀ L:List Nat,sumOf (fun _=>1) L=L.length
 | []=>rfl
 | a :: L=>by
  have:=sum_one L
  simp only [sumOf,List.length_cons]
  omega
theorem few_of {A B:List Nat} (hA:A.Nodup) (h:∀ a,a ∈ A → a ∈ B):A.length ≤ B.length:=by
 have:=sumOf_le (f:=fun _=>1) (fun _=>by omega) A B hA h
 rw [sum_one,sum_one] at this
 omega
theorem lastFin_take {k:Nat} {x:Sn} (h:l[k]? = some x):lastFin (l.take (k+1))=x.fin:=by
 rw [List.take_add_one,h]
 exact lastFin_snoc _ _
theorem rank_turns (ho:OkPks ps) {ns:List Int} (h:Sched per ps (rankKeys ps ns) l):Turns ps l:=by
 refine h.turns ho fun i j hij hj hf=>?_
 have e:∀ k,k < ps.length → (rankKeys ps ns).getD k 0=ofFlow ps ns k:=fun k hk=>by simp [rankKeys,List.getD,hk]
 rw [e i (by omega),e j hj]
 unfold ofFlow
 rw [hf]
 exact Int.le_refl _
theorem due_turns (ho:OkPks ps) {ns:List Int} (h:Sched per ps (dueKeys ps ns) l):Turns ps l:=by
 refine h.turns ho fun i j hij hj hf=>?_
 have e:∀ k,k < ps.length → (dueKeys ps ns).getD k 0=tickOf ps k+ofFlow ps ns k:=fun k hk=>by simp [dueKeys,List.getD,hk]
 rw [e i (by omega),e j hj]
 have:=ticks_le ho (Nat.le_of_lt hij) hj
 unfold ofFlow
 rw [hf]
 omega
theorem lind_may (ho:OkPks ps):Conv per ps (lindAll per ps ps.length) ∧ Turns ps (lindAll per ps ps.length):=by
 have h:=lind_sched (per:=per) ho [] (fun _=>rfl)
 exact ⟨h.conv,h.turns ho fun _ _ _ _ _=>Int.le_refl _⟩
end
def Ahead (at_:Nat → Int) (a b:Nat):Prop:=at_ a < at_ b ∨ (at_ a=at_ b ∧ a < b)
structure IsOrder (at_:Nat → Int) (n:Nat) (L:List Nat):Prop where
 sorted:L.Pairwise (Ahead at_)
 mem:∀ j,j ∈ L ↔ j < n
section
variable {at_ bt:Nat → Int} {n:Nat} {L M:List Nat}
theorem Ahead.ne {a b:Nat} (h:Ahead at_ a b):a ≠ b:=fun e=>by subst e;rcases h with h | ⟨-,h⟩ <;> omega
theorem Ahead.not {a b:Nat} (h:Ahead at_ a b):¬ Ahead at_ b a:=fun k=>by unfold Ahead at h k;omega
theorem sorted_same:∀ {L M:List Nat},L.Pairwise (Ahead at_) → M.Pairwise (Ahead at_) → (∀ j,j ∈ L ↔ j ∈ M) → L=M
 | [],[],_,_,_=>rfl
 | [],b :: M,_,_,h=>by have:=(h b).2 (List.mem_cons_self ..);cases this
 | a :: L,[],_,_,h=>by have:=(h a).1 (List.mem_cons_self ..);cases this
 | a :: L,b :: M,hL,hM,h=>by
  obtain ⟨l1,l2⟩:=List.pairwise_cons.1 hL
  obtain ⟨m1,m2⟩:=List.pairwise_cons.1 hM
  have hab:a=b:=by
   by_cases e:a=b
   · exact e
   ·
    have h1:a ∈ M:=by
     rcases List.mem_cons.1 ((h a).1 (List.mem_cons_self ..)) with h' | h'
     · exact absurd h' e
     · exact h'
    have h2:b ∈ L:=by
     rcases List.mem_cons.1 ((h b).2 (List.mem_cons_self ..)) with h' | h'
     · exact absurd h'.symm e
     · exact h'
    exact absurd (l1 b h2) (m1 a h1).not
  subst hab
  have na:a ∉ L:=fun hm=>(l1 a hm).ne rfl
  have nb:a ∉ M:=fun hm=>(m1 a hm).ne rfl
  have:=sorted_same l2 m2 (fun j=>⟨fun hj=>by
   rcases List.mem_cons.1 ((h j).1 (List.mem_cons_of_mem _ hj)) with e | e
   · exact absurd (by rw [← e];exact hj) na
   · exact e,fun hj=>by
   rcases List.mem_cons.1 ((h j).2 (List.mem_cons_of_mem _ hj)) with e | e
   · exact absurd (by rw [← e];exact hj) nb
   · exact e⟩)
  rw [this]
theorem IsOrder.same (h:IsOrder at_ n L) (k:IsOrder at_ n M):L=M:=sorted_same h.sorted k.sorted fun j=>by rw [h.mem,k.mem]
theorem IsOrder.nodup (h:IsOrder at_ n L):L.Nodup:=by
 refine List.pairwise_iff_getElem.2 fun i j hi hj hij=>(List.pairwise_iff_getElem.1 h.sorted i j hi hj hij).ne
theorem IsOrder.length (h:IsOrder at_ n L):L.length=n:=by
 have h1:=few_of (B:=List.range n) h.nodup (fun a ha=>List.mem_range.2 ((h.mem a).1 ha))
 have h2:=few_of (A:=List.range n) (B:=L) List.nodup_range (fun a ha=>(h.mem a).2 (List.mem_range.1 ha))
 simp only [List.length_range] at h1 h2
 omega
theorem IsOrder.start (at_:Nat → Int):IsOrder at_ 0 []:=⟨List.Pairwise.nil,fun j=>⟨(fun h=>by cases h),fun h=>absurd h (Nat.not_lt_zero _)⟩⟩
theorem IsOrder.range (hm:∀ i j,i < j → j < n → at_ i ≤ at_ j):IsOrder at_ n (List.range n):=by
 refine ⟨List.pairwise_iff_getElem.2 fun i j hi hj hij=>?_,fun j=>List.mem_range⟩
 rw [List.length_range] at hi hj
 rw [List.getElem_range,List.getElem_range]
 have:=hm i j hij hj
 unfold Ahead
 omega
end
theorem snoc_ind {α:Type} {P:List α → Prop} (h0:P []) (hs:∀ l a,P l → P (l ++ [a])):∀ l,P l:=by
 have h:∀ l:List α,P l.reverse:=by
  intro l
  induction l with
  | nil=>exact h0
  | cons a r ih=>rw [List.reverse_cons];exact hs _ _ ih
 intro l
 have:=h l.reverse
 rwa [List.reverse_reverse] at this
def allHave (bs:List Bk) (T n:Int):Prop:=∀ b,b ∈ bs → n * 1000 ≤ b.lev T
def passT:List Bk → Int → Int → Option Int
 | [],t,_=>some t
 | b :: r,t,n=>match b.when t n with | none=>none | some u=>passT r u n
theorem passT_some {n:Int}:∀ (bs:List Bk) (t T:Int),(∀ b,b ∈ bs → b.Ok) → t ≤ 1099511627776 → passT bs t n=some T → t ≤ T ∧ T ≤ 1099511627776 ∧ allHave bs T n ∧ ∀ s,t ≤ s → s < T → ¬ allHave bs s n:=by
 intro bs
 induction bs with
 | nil=>intro t T _ t1 e;cases e;exact ⟨Int.le_refl _,t1,(fun b hb=>by cases hb),fun s h1 h2=>by omega⟩
 | cons b r ih=>
  intro t T hok t1 e
  unfold passT at e
  split at e
  · cases e
  ·
   rename_i u hu
   have hb:=hok b (List.mem_cons_self ..)
   obtain ⟨h1,h2,h3,h4⟩:=b.when_some hb t1 hu
   obtain ⟨h5,h6,h7,h8⟩:=ih u T (fun c hc=>hok c (List.mem_cons_of_mem _ hc)) h2 e
   refine ⟨by omega,h6,fun c hc=>?_,fun s h9 h10 h11=>?_⟩
   ·
    rcases List.mem_cons.1 hc with rfl | hc
    · have:=Bk.lev_mono hb.r0 h5;omega
    · exact h7 c hc
   ·
    by_cases h12:s < u
    ·
     have:=h4 s h9 h12
     have:=h11 b (List.mem_cons_self ..)
     omega
    · exact h8 s (by omega) h10 (fun c hc=>h11 c (List.mem_cons_of_mem _ hc))
structure Sh where
 bs:List Bk
 left:Int
 out:List Pk
def shStep (s:Sh) (p:Pk):Option Sh:=match passT s.bs (max p.tick s.left) p.size with
 | none=>none
 | some T=>some ⟨s.bs.map fun b=>b.take T p.size,T,s.out ++ [⟨p.flow,p.size,T⟩]⟩
def shape (ls:List (Int × Int)) (ps:List Pk):Option Sh:=ps.foldl (fun s p=>s.bind fun s=>shStep s p) (some ⟨ls.map bkOf,0,[]⟩)
theorem shape_snoc (ls:List (Int × Int)) (ps:List Pk) (p:Pk):shape ls (ps ++ [p])=(shape ls ps).bind fun s=>shStep s p:=by simp [shape,List.foldl_append]
theorem ahead_snoc_lt (ps:List Pk) (p:Pk) (i:Nat) (h:i ≤ ps.length):ahead (ps ++ [p]) i=ahead ps i:=by
 cases i with
 | zero=>rfl
 | succ i=>simp only [ahead];rw [List.getElem?_append_left (by omega)]
theorem ahead_snoc_end (ps:List Pk) (p:Pk):ahead (ps ++ [p]) (ps.length+1)=p.tick:=by
 unfold ahead;simp
theorem okPks_snoc (ps:List Pk) (p:Pk):OkPks (ps ++ [p]) ↔ OkPks ps ∧ ps.length < 300 ∧ okPk p=true ∧ ahead ps ps.length ≤ p.tick:=by
 constructor
 ·
  rintro ⟨h1,h2⟩
  simp at h1
  refine ⟨⟨by omega,fun i q hq=>?_⟩,by omega,?_,?_⟩
  ·
   have hi:i < ps.length:=by
    rcases Nat.lt_or_ge i ps.length with h | h
    · exact h
    · simp [List.getElem?_eq_none h] at hq
   have:=h2 i q (by rw [List.getElem?_append_left hi];exact hq)
   rwa [ahead_snoc_lt _ _ _ (by omega)] at this
  · exact (h2 ps.length p (by simp)).1
  ·
   have:=(h2 ps.length p (by simp)).2
   rwa [ahead_snoc_lt _ _ _ (by omega)] at this
 ·
  rintro ⟨⟨h1,h2⟩,h3,h4,h5⟩
  refine ⟨by simp;omega,fun i q hq=>?_⟩
  by_cases hi:i < ps.length
  ·
   rw [List.getElem?_append_left hi] at hq
   rw [ahead_snoc_lt _ _ _ (by omega)]
   exact h2 i q hq
  ·
   have hl:i=ps.length:=by
    rcases Nat.lt_or_ge ps.length i with h | h
    · rw [List.getElem?_eq_none (by simp;omega)] at hq;cases hq
    · omega
   subst hl
   simp at hq
   subst hq
   rw [ahead_snoc_lt _ _ _ (by omega)]
   exact ⟨h4,h5⟩
theorem OkPks.final {ps:List Pk} (h:OkPks ps):0 ≤ ahead ps ps.length ∧ ahead ps ps.length ≤ 1099511627776:=by
 cases hn:ps.length with
 | zero=>simp [ahead]
 | succ n=>
  have hp:ps[n]? = some ps[n]:=by simp [hn]
  have:=okPk_true (h.each n _ hp).1
  simp only [ahead]
  rw [hp]
  exact ⟨this.2.2.2.2.1,this.2.2.2.2.2⟩
structure ShGood (ls:List (Int × Int)) (ps:List Pk) (s:Sh):Prop where
 few:s.bs.length=ls.length
 ok:∀ b,b ∈ s.bs → b.Ok ∧ b.last=s.left
 pass:∀ (i:Nat) q b,ls[i]? = some q → s.bs[i]? = some b → Passed q s.out b
 left:s.left=ahead s.out s.out.length
 okOut:OkPks s.out
 len:s.out.length=ps.length
 each:∀ (i:Nat) p q,ps[i]? = some p → s.out[i]? = some q → q.flow=p.flow ∧ q.size=p.size ∧ p.tick ≤ q.tick
 fits:fitsB ls s.out=true
theorem shGood_none {ls:List (Int × Int)} (h:okCurve ls):ShGood ls [] ⟨ls.map bkOf,0,[]⟩:=by
 refine ⟨by simp,fun b hb=>?_,fun i q b hq hb=>?_,rfl,okPks_none,rfl,fun i p q hp=>by simp at hp,rfl⟩
 ·
  obtain ⟨q,hq,rfl⟩:=List.mem_map.1 hb
  exact ⟨bkOf_ok (h.2.2 q hq),rfl⟩
 ·
  simp [hq] at hb
  subst hb
  exact passed_none q (okLine_true (h.2.2 q (List.mem_of_getElem? hq))).2.2.1
theorem ShGood.have_fits {ls:List (Int × Int)} {ps:List Pk} {s:Sh} (h:ShGood ls ps s) (hk:okCurve ls) (p:Pk) (hp:s.left ≤ p.tick):allHave s.bs p.tick p.size ↔ lastFits ls s.out p:=by
 rw [lastFits_lines ls hk.1]
 constructor
 ·
  intro H q hq
  obtain ⟨i,hi⟩:=List.mem_iff_getElem?.1 hq
  have hlt:i < s.bs.length:=by
   rw [h.few]
   rcases Nat.lt_or_ge i ls.length with h | h
   · exact h
   · simp [List.getElem?_eq_none h] at hi
  have hb:s.bs[i]? = some s.bs[i]:=by simp [hlt]
  have hm:s.bs[i] ∈ s.bs:=List.getElem_mem hlt
  exact ((h.pass i q _ hi hb).fits p (by rw [(h.ok _ hm).2];exact hp)).1 (H _ hm)
 ·
  intro H b hb
  obtain ⟨i,hi⟩:=List.mem_iff_getElem?.1 hb
  have hlt:i < ls.length:=by
   rw [← h.few]
   rcases Nat.lt_or_ge i s.bs.length with h | h
   · exact h
   · simp [List.getElem?_eq_none h] at hi
  have hq:ls[i]? = some ls[i]:=by simp [hlt]
  exact ((h.pass i _ b hq hi).fits p (by rw [(h.ok _ hb).2];exact hp)).2 (H _ (List.getElem_mem hlt))
theorem ShGood.step {ls:List (Int × Int)} {ps:List Pk} {s s':Sh} {p:Pk} (h:ShGood ls ps s) (hk:okCurve ls) (hp:okPk p=true) (hn:ps.length < 300) (e:shStep s p=some s'):ShGood ls (ps ++ [p]) s':=by
 have ha:=h.okOut.final
 rw [← h.left] at ha
 have hpk:=okPk_true hp
 unfold shStep at e
 split at e
 · cases e
 ·
  rename_i T hT
  cases e
  obtain ⟨h1,h2,h3,-⟩:=passT_some s.bs _ T (fun b hb=>(h.ok b hb).1) (by omega) hT
  have hlast:s.left ≤ T:=by omega
  have hT0:0 ≤ T:=by omega
  refine ⟨by simpa using h.few,fun b hb=>?_,fun i q b hq hb=>?_,?_,?_,by simp [h.len],fun i a b ha' hb'=>?_,?_⟩
  ·
   obtain ⟨c,hc,rfl⟩:=List.mem_map.1 hb
   exact ⟨(h.ok c hc).1.take (by rw [(h.ok c hc).2];exact hlast) h2 (by omega),Bk.take_last ..⟩
  ·
   simp only [List.getElem?_map,Option.map_eq_some_iff] at hb
   obtain ⟨c,hc,rfl⟩:=hb
   have hcm:=List.mem_of_getElem? hc
   exact (h.pass i q c hq hc).pass (h.ok c hcm).1.r0 ⟨p.flow,p.size,T⟩ (by rw [(h.ok c hcm).2];exact hlast) (h3 c hcm)
  ·
   show T=ahead (s.out ++ [_]) (s.out ++ [_]).length
   rw [List.length_append,List.length_singleton,ahead_snoc_end]
  ·
   rw [okPks_snoc]
   refine ⟨h.okOut,by rw [h.len];exact hn,okPk_mk ⟨hpk.1,hpk.2.1,hpk.2.2.1,hpk.2.2.2.1,hT0,h2⟩,by rw [← h.left];exact hlast⟩
  ·
   by_cases hi:i < ps.length
   ·
    rw [List.getElem?_append_left hi] at ha'
    rw [List.getElem?_append_left (by rw [h.len];exact hi)] at hb'
    exact h.each i a b ha' hb'
   ·
    have hl:i=ps.length:=by
     rcases Nat.lt_or_ge ps.length i with h | h
     · rw [List.getElem?_eq_none (by simp;omega)] at ha';cases ha'
     · omega
    subst hl
    simp at ha'
    subst ha'
    rw [← h.len] at hb'
    simp at hb'
    subst hb'
    exact ⟨rfl,rfl,by show p.tick ≤ T;omega⟩
  ·
   rw [fitsB_snoc]
   exact ⟨h.fits,(h.have_fits hk ⟨p.flow,p.size,T⟩ hlast).1 h3⟩
theorem shape_good {ls:List (Int × Int)} (hk:okCurve ls):∀ (ps:List Pk) (s:Sh),OkPks ps → shape ls ps=some s → ShGood ls ps s:=by
 refine snoc_ind (fun s _ e=>?_) (fun ps p ih s ho e=>?_)
 · cases e;exact shGood_none hk
 ·
  rw [shape_snoc] at e
  obtain ⟨s0,h0,h1⟩:=Option.bind_eq_some_iff.1 e
  obtain ⟨o1,o2,o3,-⟩:=(okPks_snoc ps p).1 ho
  exact (ih s0 o1 h0).step hk o3 o2 h1
section
variable (ps:List Pk)
def ownTo (f k:Nat):List Pk:=(ps.take k).filter fun p=>p.flow == (f:Int)
def numTo (f k:Nat):List Nat:=(List.range k).filter fun i=>flowOf ps i == f
def rankIn (i:Nat):Nat:=(numTo ps (flowOf ps i) i).length
variable {ps}
theorem numTo_succ (f k:Nat):numTo ps f (k+1)=if flowOf ps k=f then numTo ps f k ++ [k] else numTo ps f k:=by
 unfold numTo
 rw [List.range_succ,List.filter_append]
 by_cases h:flowOf ps k=f
 ·
  rw [if_pos h,List.filter_cons,if_pos (by rw [beq_iff_eq];exact h)]
  rfl
 ·
  rw [if_neg h,List.filter_cons,if_neg (by rw [beq_iff_eq];exact h)]
  exact List.append_nil _
theorem ownTo_succ {f k:Nat} {p:Pk} (hp:ps[k]? = some p):ownTo ps f (k+1)=if p.flow=(f:Int) then ownTo ps f k ++ [p] else ownTo ps f k:=by
 unfold ownTo
 rw [List.take_add_one,hp,List.filter_append]
 by_cases h:p.flow=(f:Int)
 ·
  rw [if_pos h]
  congr 1
  show List.filter _ [p]=_
  rw [List.filter_cons,if_pos (by rw [beq_iff_eq];exact h)]
  rfl
 ·
  rw [if_neg h]
  show _ ++ List.filter _ [p]=_
  rw [List.filter_cons,if_neg (by rw [beq_iff_eq];exact h)]
  exact List.append_nil _
theorem flow_is (ho:OkPks ps) {k:Nat} {p:Pk} (hp:ps[k]? = some p) (f:Nat):p.flow=(f:Int) ↔ flowOf ps k=f:=by
 have:=okPk_true (ho.each _ p hp).1
 rw [flowOf_get hp]
 omega
theorem own_num (ho:OkPks ps) (f:Nat):∀ k,k ≤ ps.length → (ownTo ps f k).length=(numTo ps f k).length ∧ ∀ (r i:Nat),(numTo ps f k)[r]? = some i → i < k ∧ flowOf ps i=f ∧ rankIn ps i=r ∧ (ownTo ps f k)[r]? = ps[i]?
 | 0,_=>⟨rfl,fun r i h=>by simp [numTo] at h⟩
 | k+1,hk=>by
  obtain ⟨h1,h2⟩:=own_num ho f k (by omega)
  have e:ps[k]? = some ps[k]:=List.getElem?_eq_getElem (by omega)
  rw [numTo_succ,ownTo_succ e]
  by_cases h:flowOf ps k=f
  ·
   rw [if_pos h,if_pos ((flow_is ho e f).2 h)]
   refine ⟨by simp [h1],fun r i hi=>?_⟩
   rcases Nat.lt_or_ge r (numTo ps f k).length with hr | hr
   ·
    rw [List.getElem?_append_left hr] at hi
    obtain ⟨g1,g2,g3,g4⟩:=h2 r i hi
    exact ⟨by omega,g2,g3,by rw [List.getElem?_append_left (by omega)];exact g4⟩
   ·
    rw [List.getElem?_append_right hr] at hi
    have hr0:r=(numTo ps f k).length:=by
     rcases Nat.eq_zero_or_pos (r - (numTo ps f k).length) with h' | h'
     · omega
     · rw [List.getElem?_eq_none (by simp;omega)] at hi;cases hi
    subst hr0
    rw [Nat.sub_self] at hi
    obtain rfl:k=i:=by simpa using hi
    refine ⟨by omega,h,by unfold rankIn;rw [h],?_⟩
    rw [List.getElem?_append_right (by omega),h1,Nat.sub_self,e]
    rfl
  ·
   rw [if_neg h,if_neg (fun h'=>h ((flow_is ho e f).1 h'))]
   exact ⟨h1,fun r i hi=>by obtain ⟨g1,g2⟩:=h2 r i hi;exact ⟨by omega,g2⟩⟩
theorem num_rises (f k:Nat):(numTo ps f k).Pairwise (· < ·):=List.pairwise_lt_range.filter _
theorem num_mem {f k i:Nat}:i ∈ numTo ps f k ↔ i < k ∧ flowOf ps i=f:=by
 unfold numTo
 rw [List.mem_filter,List.mem_range,beq_iff_eq]
theorem num_at (ho:OkPks ps) {i k:Nat} (hi:i < k) (hk:k ≤ ps.length):(numTo ps (flowOf ps i) k)[rankIn ps i]? = some i:=by
 have hm:i ∈ numTo ps (flowOf ps i) k:=num_mem.2 ⟨hi,rfl⟩
 obtain ⟨r,hr,e⟩:=List.getElem_of_mem hm
 have h2:(numTo ps (flowOf ps i) k)[r]? = some i:=by rw [List.getElem?_eq_getElem hr,e]
 have:=((own_num ho (flowOf ps i) k hk).2 r i h2).2.2.1
 rw [this]
 exact h2
theorem own_ok (ho:OkPks ps) (f:Nat):∀ k,k ≤ ps.length → OkPks (ownTo ps f k) ∧ ahead (ownTo ps f k) (ownTo ps f k).length ≤ ahead ps k ∧ (ownTo ps f k).length ≤ k
 | 0,_=>⟨okPks_none,Int.le_refl _,Nat.le_refl _⟩
 | k+1,hk=>by
  obtain ⟨h1,h2,h3⟩:=own_ok ho f k (by omega)
  have e:ps[k]? = some ps[k]:=List.getElem?_eq_getElem (by omega)
  obtain ⟨o1,o2⟩:=ho.each k _ e
  have ea:ahead ps (k+1)=ps[k].tick:=by simp only [ahead,e]
  have hfew:=ho.few
  rw [ownTo_succ e,ea]
  by_cases h:ps[k].flow=(f:Int)
  ·
   rw [if_pos h]
   refine ⟨(okPks_snoc _ _).2 ⟨h1,by omega,o1,by omega⟩,?_,by simp;omega⟩
   rw [List.length_append,List.length_cons,List.length_nil,ahead_snoc_end]
   exact Int.le_refl _
  ·
   rw [if_neg h]
   exact ⟨h1,by omega,by omega⟩
end
def shapedFl (cs:Nat → List (Int × Int)) (ps:List Pk) (f:Nat):Option (List Pk):=if cs f=[] then some (ownTo ps f ps.length) else (shape (cs f) (ownTo ps f ps.length)).map Sh.out
def Shaped (cs:Nat → List (Int × Int)) (ps:List Pk) (at_:Nat → Int):Prop:=∀ f,f < 8 → ∃ out,shapedFl cs ps f=some out ∧ ∀ (r i:Nat),(numTo ps f ps.length)[r]? = some i → at_ i=tickOf out r
def CurvesOk (cs:Nat → List (Int × Int)):Prop:=∀ f,f < 8 → cs f=[] ∨ okCurve (cs f)
def gatePk (ps:List Pk) (at_:Nat → Int) (i:Nat):Pk:=match ps[i]? with | some p=>⟨p.flow,p.size,at_ i⟩ | none=>⟨0,1,0⟩
def gatePks (ps:List Pk) (at_:Nat → Int) (L:List Nat):List Pk:=L.map (gatePk ps at_)
theorem gatePk_get {ps:List Pk} {at_:Nat → Int} {i:Nat} {p:Pk} (h:ps[i]? = some p):gatePk ps at_ i=⟨p.flow,p.size,at_ i⟩:=by simp [gatePk,h]
section
variable {cs:Nat → List (Int × Int)} {ps:List Pk} {at_:Nat → Int} {L:List Nat}
structure OutOf (own out:List Pk):Prop where
 len:out.length=own.length
 each:∀ (i:Nat) p q,own[i]? = some p → out[i]? = some q → q.flow=p.flow ∧ q.size=p.size ∧ p.tick ≤ q.tick
 ok:OkPks out
theorem shapedFl_out (ho:OkPks ps) (hc:CurvesOk cs) {f:Nat} (hf:f < 8) {out:List Pk} (h:shapedFl cs ps f=some out):OutOf (ownTo ps f ps.length) out ∧ (cs f ≠ [] → fitsB (cs f) out=true):=by
 have hown:=(own_ok ho f ps.length (Nat.le_refl _)).1
 unfold shapedFl at h
 by_cases he:cs f=[]
 ·
  rw [if_pos he] at h
  obtain rfl:=Option.some.inj h
  refine ⟨⟨rfl,fun i p q hp hq=>?_,hown⟩,fun hn=>absurd he hn⟩
  rw [hp] at hq
  obtain rfl:=Option.some.inj hq
  exact ⟨rfl,rfl,Int.le_refl _⟩
 ·
  rw [if_neg he] at h
  have hok:okCurve (cs f):=by
   rcases hc f hf with h' | h'
   · exact absurd h' he
   · exact h'
  cases hs:shape (cs f) (ownTo ps f ps.length) with
  | none=>rw [hs] at h;cases h
  | some s=>
   rw [hs] at h
   obtain rfl:=Option.some.inj h
   have g:=shape_good hok _ s hown hs
   exact ⟨⟨g.len,g.each,g.okOut⟩,fun _=>g.fits⟩
theorem flow_range (ho:OkPks ps) {i:Nat} (hi:i < ps.length):flowOf ps i < 8:=by
 have e:ps[i]? = some ps[i]:=List.getElem?_eq_getElem hi
 have:=okPk_true (ho.each _ _ e).1
 rw [flowOf_get e]
 omega
theorem Shaped.at (ho:OkPks ps) (hc:CurvesOk cs) (h:Shaped cs ps at_) {i:Nat} (hi:i < ps.length):∃ out q p,shapedFl cs ps (flowOf ps i)=some out ∧ OutOf (ownTo ps (flowOf ps i) ps.length) out ∧ ps[i]? = some p ∧ out[rankIn ps i]? = some q ∧ q=⟨p.flow,p.size,at_ i⟩ ∧ p.tick ≤ at_ i ∧ okPk q=true:=by
 have hf:=flow_range ho hi
 obtain ⟨out,h1,h2⟩:=h _ hf
 have ho':=(shapedFl_out ho hc hf h1).1
 have hat:=num_at ho hi (Nat.le_refl _)
 have e:ps[i]? = some ps[i]:=List.getElem?_eq_getElem hi
 have hn:=own_num ho (flowOf ps i) ps.length (Nat.le_refl _)
 have hown:=(hn.2 _ _ hat).2.2.2
 rw [e] at hown
 have hlt:rankIn ps i < out.length:=by
  rw [ho'.len]
  exact (List.getElem?_eq_some_iff.1 hown).1
 have eq:out[rankIn ps i]? = some out[rankIn ps i]:=List.getElem?_eq_getElem hlt
 have hx:=ho'.each _ _ _ hown eq
 have ht:=h2 _ _ hat
 rw [tickOf_get eq] at ht
 refine ⟨out,_,ps[i],h1,ho',e,eq,?_,by omega,(ho'.ok.each _ _ eq).1⟩
 obtain ⟨x1,x2,x3⟩:=hx
 rw [ht,← x1,← x2]
theorem Shaped.ok (ho:OkPks ps) (hc:CurvesOk cs) (h:Shaped cs ps at_) (hL:IsOrder at_ ps.length L):OkPks (gatePks ps at_ L):=by
 have hlen:=hL.length
 have key:∀ (r:Nat) (hr:r < L.length),(gatePks ps at_ L)[r]? = some (gatePk ps at_ L[r]) ∧ okPk (gatePk ps at_ L[r])=true ∧ (gatePk ps at_ L[r]).tick=at_ L[r]:=fun r hr=>by
  have hin:=(hL.mem _).1 (List.getElem_mem hr)
  obtain ⟨out,q,p,-,-,h3,-,h5,-,h7⟩:=h.at ho hc hin
  refine ⟨by simp [gatePks,hr],?_,?_⟩
  · rw [gatePk_get h3,← h5];exact h7
  · rw [gatePk_get h3]
 refine ⟨by simp [gatePks];have:=ho.few;omega,fun r p hp=>?_⟩
 have hr:r < L.length:=by
  have:=(List.getElem?_eq_some_iff.1 hp).1
  simpa [gatePks] using this
 obtain ⟨k1,k2,k3⟩:=key r hr
 rw [k1] at hp
 obtain rfl:=Option.some.inj hp
 refine ⟨k2,?_⟩
 rw [k3]
 cases r with
 | zero=>
  have:=okPk_true k2
  show 0 ≤ _
  omega
 | succ r=>
  obtain ⟨m1,-,m3⟩:=key r (by omega)
  simp only [ahead,m1]
  rw [m3]
  have:=List.pairwise_iff_getElem.1 hL.sorted r (r+1) (by omega) hr (by omega)
  unfold Ahead at this
  omega
end
theorem open_gate {ps:List Pk} (ho:OkPks ps):Shaped (fun _=>[]) ps (tickOf ps) ∧ IsOrder (tickOf ps) ps.length (List.range ps.length) ∧ gatePks ps (tickOf ps) (List.range ps.length)=ps:=by
 refine ⟨fun f _=>⟨_,if_pos rfl,fun r i hr=>?_⟩,IsOrder.range fun i j hij hj=>ticks_le ho (Nat.le_of_lt hij) hj,?_⟩
 ·
  have:=((own_num ho f ps.length (Nat.le_refl _)).2 r i hr).2.2.2
  unfold tickOf
  rw [this]
 ·
  apply List.ext_getElem?
  intro r
  unfold gatePks
  rw [List.getElem?_map]
  rcases Nat.lt_or_ge r ps.length with h | h
  ·
   have e:ps[r]? = some ps[r]:=List.getElem?_eq_getElem h
   rw [List.getElem?_eq_getElem (by simpa using h),List.getElem_range,Option.map_some,gatePk_get e,e,tickOf_get e]
  ·
   rw [List.getElem?_eq_none (by simpa using h),List.getElem?_eq_none h]
   rfl
end Go.Proofs.YtipdclphpkgceaaGreatDoor
