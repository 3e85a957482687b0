/- Own facts, put together: no statement of its own. -/
import Derived.Test.YtbokomeejmnnoaaDoorD01

namespace Go.Proofs.YtbokomeejmnnoaaDoor
theorem snoc_ind {α:Type} {P:List α → Prop} (h0:P []) (hs:∀ l a,P l → P (l ++ [a])):∀ l,P l:=by
 have h:∀ l:List α,P l.reverse:=by
  intro l
  induction l with
  | nil=>exact h0
  | cons a r ih=>rw [List.reverse_cons];exact hs _ _ ih
 intro l
 have:=h l.reverse
 rwa [List.reverse_reverse] at this
def allHave (bs:List Bk) (T n:Int):Prop:=∀ b,b ∈ bs → n * 1000 ≤ b.lev T
def passT:List Bk → Int → Int → Option Int
 | [],t,_=>some t
 | b :: r,t,n=>match b.when t n with | none=>none | some u=>passT r u n
theorem passT_some {n:Int}:∀ (bs:List Bk) (t T:Int),(∀ b,b ∈ bs → b.Ok) → t ≤ 1099511627776 → passT bs t n=some T → t ≤ T ∧ T ≤ 1099511627776 ∧ allHave bs T n ∧ ∀ s,t ≤ s → s < T → ¬ allHave bs s n:=by
 intro bs
 induction bs with
 | nil=>intro t T _ t1 e;cases e;exact ⟨Int.le_refl _,t1,(fun b hb=>by cases hb),fun s h1 h2=>by omega⟩
 | cons b r ih=>
  intro t T hok t1 e
  unfold passT at e
  split at e
  · cases e
  ·
   rename_i u hu
   have hb:=hok b (List.mem_cons_self ..)
   obtain ⟨h1,h2,h3,h4⟩:=b.when_some hb t1 hu
   obtain ⟨h5,h6,h7,h8⟩:=ih u T (fun c hc=>hok c (List.mem_cons_of_mem _ hc)) h2 e
   refine ⟨by omega,h6,fun c hc=>?_,fun s h9 h10 h11=>?_⟩
   ·
    rcases List.mem_cons.1 hc with rfl | hc
    · have:=Bk.lev_mono hb.r0 h5;omega
    · exact h7 c hc
   ·
    by_cases h12:s < u
    ·
     have:=h4 s h9 h12
     have:=h11 b (List.mem_cons_self ..)
     omega
    · exact h8 s (by omega) h10 (fun c hc=>h11 c (List.mem_cons_of_mem _ hc))
structure Sh where
 bs:List Bk
 left:Int
 out:List Pk
def shStep (s:Sh) (p:Pk):Option Sh:=match passT s.bs (max p.tick s.left) p.size with
 | none=>none
 | some T=>some ⟨s.bs.map fun b=>b.take T p.size,T,s.out ++ [⟨p.flow,p.size,T⟩]⟩
def shape (ls:List (Int × Int)) (ps:List Pk):Option Sh:=ps.foldl (fun s p=>s.bind fun s=>shStep s p) (some ⟨ls.map bkOf,0,[]⟩)
theorem shape_snoc (ls:List (Int × Int)) (ps:List Pk) (p:Pk):shape ls (ps ++ [p])=(shape ls ps).bind fun s=>shStep s p:=by simp [shape,List.foldl_append]
theorem ahead_snoc_lt (ps:List Pk) (p:Pk) (i:Nat) (h:i ≤ ps.length):ahead (ps ++ [p]) i=ahead ps i:=by
 cases i with
 | zero=>rfl
 | succ i=>simp only [ahead];rw [List.getElem?_append_left (by omega)]
theorem ahead_snoc_end (ps:List Pk) (p:Pk):ahead (ps ++ [p]) (ps.length+1)=p.tick:=by
 unfold ahead;simp
theorem okPks_snoc (ps:List Pk) (p:Pk):OkPks (ps ++ [p]) ↔ OkPks ps ∧ ps.length < 300 ∧ okPk p=true ∧ ahead ps ps.length ≤ p.tick:=by
 constructor
 ·
  rintro ⟨h1,h2⟩
  simp at h1
  refine ⟨⟨by omega,fun i q hq=>?_⟩,by omega,?_,?_⟩
  ·
   have hi:i < ps.length:=by
    rcases Nat.lt_or_ge i ps.length with h | h
    · exact h
    · simp [List.getElem?_eq_none h] at hq
   have:=h2 i q (by rw [List.getElem?_append_left hi];exact hq)
   rwa [ahead_snoc_lt _ _ _ (by omega)] at this
  · exact (h2 ps.length p (by simp)).1
  ·
   have:=(h2 ps.length p (by simp)).2
   rwa [ahead_snoc_lt _ _ _ (by omega)] at this
 ·
  rintro ⟨⟨h1,h2⟩,h3,h4,h5⟩
  refine ⟨by simp;omega,fun i q hq=>?_⟩
  by_cases hi:i < ps.length
  ·
   rw [List.getElem?_append_left hi] at hq
   rw [ahead_snoc_lt _ _ _ (by omega)]
   exact h2 i q hq
  ·
   have hl:i=ps.length:=by
    rcases Nat.lt_or_ge ps.length i with h | h
    · rw [List.getElem?_eq_none (by simp;omega)] at hq;cases hq
    · omega
   subst hl
   simp at hq
   subst hq
   rw [ahead_snoc_lt _ _ _ (by omega)]
   exact ⟨h4,h5⟩
theorem OkPks.final {ps:List Pk} (h:OkPks ps):0 ≤ ahead ps ps.length ∧ ahead ps ps.length ≤ 1099511627776:=by
 cases hn:ps.length with
 | zero=>simp [ahead]
 | succ n=>
  have hp:ps[n]? = some ps[n]:=by simp [hn]
  have:=okPk_true (h.each n _ hp).1
  simp only [ahead]
  rw [hp]
  exact ⟨this.2.2.2.2.1,this.2.2.2.2.2⟩
structure ShGood (ls:List (Int × Int)) (ps:List Pk) (s:Sh):Prop where
 few:s.bs.length=ls.length
 ok:∀ b,b ∈ s.bs → b.Ok ∧ b.last=s.left
 pass:∀ (i:Nat) q b,ls[i]? = some q → s.bs[i]? = some b → Passed q s.out b
 left:s.left=ahead s.out s.out.length
 okOut:OkPks s.out
 len:s.out.length=ps.length
 each:∀ (i:Nat) p q,ps[i]? = some p → s.out[i]? = some q → q.flow=p.flow ∧ q.size=p.size ∧ p.tick ≤ q.tick
 fits:fitsB ls s.out=true
theorem shGood_none {ls:List (Int × Int)} (h:okCurve ls):ShGood ls [] ⟨ls.map bkOf,0,[]⟩:=by
 refine ⟨by simp,fun b hb=>?_,fun i q b hq hb=>?_,rfl,okPks_none,rfl,fun i p q hp=>by simp at hp,rfl⟩
 ·
  obtain ⟨q,hq,rfl⟩:=List.mem_map.1 hb
  exact ⟨bkOf_ok (h.2.2 q hq),rfl⟩
 ·
  simp [hq] at hb
  subst hb
  exact passed_none q (okLine_true (h.2.2 q (List.mem_of_getElem? hq))).2.2.1
theorem ShGood.have_fits {ls:List (Int × Int)} {ps:List Pk} {s:Sh} (h:ShGood ls ps s) (hk:okCurve ls) (p:Pk) (hp:s.left ≤ p.tick):allHave s.bs p.tick p.size ↔ lastFits ls s.out p:=by
 rw [lastFits_lines ls hk.1]
 constructor
 ·
  intro H q hq
  obtain ⟨i,hi⟩:=List.mem_iff_getElem?.1 hq
  have hlt:i < s.bs.length:=by
   rw [h.few]
   rcases Nat.lt_or_ge i ls.length with h | h
   · exact h
   · simp [List.getElem?_eq_none h] at hi
  have hb:s.bs[i]? = some s.bs[i]:=by simp [hlt]
  have hm:s.bs[i] ∈ s.bs:=List.getElem_mem hlt
  exact ((h.pass i q _ hi hb).fits p (by rw [(h.ok _ hm).2];exact hp)).1 (H _ hm)
 ·
  intro H b hb
  obtain ⟨i,hi⟩:=List.mem_iff_getElem?.1 hb
  have hlt:i < ls.length:=by
   rw [← h.few]
   rcases Nat.lt_or_ge i s.bs.length with h | h
   · exact h
   · simp [List.getElem?_eq_none h] at hi
  have hq:ls[i]? = some ls[i]:=by simp [hlt]
  exact ((h.pass i _ b hq hi).fits p (by rw [(h.ok _ hb).2];exact hp)).2 (H _ (List.getElem_mem hlt))
theorem ShGood.step {ls:List (Int × Int)} {ps:List Pk} {s s':Sh} {p:Pk} (h:ShGood ls ps s) (hk:okCurve ls) (hp:okPk p=true) (hn:ps.length < 300) (e:shStep s p=some s'):ShGood ls (ps ++ [p]) s':=by
 have ha:=h.okOut.final
 rw [← h.left] at ha
 have hpk:=okPk_true hp
 unfold shStep at e
 split at e
 · cases e
 ·
  rename_i T hT
  cases e
  obtain ⟨h1,h2,h3,-⟩:=passT_some s.bs _ T (fun b hb=>(h.ok b hb).1) (by omega) hT
  have hlast:s.left ≤ T:=by omega
  have hT0:0 ≤ T:=by omega
  refine ⟨by simpa using h.few,fun b hb=>?_,fun i q b hq hb=>?_,?_,?_,by simp [h.len],fun i a b ha' hb'=>?_,?_⟩
  ·
   obtain ⟨c,hc,rfl⟩:=List.mem_map.1 hb
   exact ⟨(h.ok c hc).1.take (by rw [(h.ok c hc).2];exact hlast) h2 (by omega),Bk.take_last ..⟩
  ·
   simp only [List.getElem?_map,Option.map_eq_some_iff] at hb
   obtain ⟨c,hc,rfl⟩:=hb
   have hcm:=List.mem_of_getElem? hc
   exact (h.pass i q c hq hc).pass (h.ok c hcm).1.r0 ⟨p.flow,p.size,T⟩ (by rw [(h.ok c hcm).2];exact hlast) (h3 c hcm)
  ·
   show T=ahead (s.out ++ [_]) (s.out ++ [_]).length
   rw [List.length_append,List.length_singleton,ahead_snoc_end]
  ·
   rw [okPks_snoc]
   refine ⟨h.okOut,by rw [h.len];exact hn,okPk_mk ⟨hpk.1,hpk.2.1,hpk.2.2.1,hpk.2.2.2.1,hT0,h2⟩,by rw [← h.left];exact hlast⟩
  ·
   by_cases hi:i < ps.length
   ·
    rw [List.getElem?_append_left hi] at ha'
    rw [List.getElem?_append_left (by rw [h.len];exact hi)] at hb'
    exact h.each i a b ha' hb'
   ·
    have hl:i=ps.length:=by
     rcases Nat.lt_or_ge ps.length i with h | h
     · rw [List.getElem?_eq_none (by simp;omega)] at ha';cases ha'
     · omega
    subst hl
    simp at ha'
    subst ha'
    rw [← h.len] at hb'
    simp at hb'
    subst hb'
    exact ⟨rfl,rfl,by show p.tick ≤ T;omega⟩
  ·
   rw [fitsB_snoc]
   exact ⟨h.fits,(h.have_fits hk ⟨p.flow,p.size,T⟩ hlast).1 h3⟩
theorem shape_good {ls:List (Int × Int)} (hk:okCurve ls):∀ (ps:List Pk) (s:Sh),OkPks ps → shape ls ps=some s → ShGood ls ps s:=by
 refine snoc_ind (fun s _ e=>?_) (fun ps p ih s ho e=>?_)
 · cases e;exact shGood_none hk
 ·
  rw [shape_snoc] at e
  obtain ⟨s0,h0,h1⟩:=Option.bind_eq_some_iff.1 e
  obtain ⟨o1,o2,o3,-⟩:=(okPks_snoc ps p).1 ho
  exact (ih s0 o1 h0).step hk o3 o2 h1
section
variable (ps:List Pk)
def ownTo (f k:Nat):List Pk:=(ps.take k).filter fun p=>p.flow == (f:Int)
def numTo (f k:Nat):List Nat:=(List.range k).filter fun i=>flowOf ps i == f
def rankIn (i:Nat):Nat:=(numTo ps (flowOf ps i) i).length
variable {ps}
theorem numTo_succ (f k:Nat):numTo ps f (k+1)=if flowOf ps k=f then numTo ps f k ++ [k] else numTo ps f k:=by
 unfold numTo
 rw [List.range_succ,List.filter_append]
 by_cases h:flowOf ps k=f
 ·
  rw [if_pos h,List.filter_cons,if_pos (by rw [beq_iff_eq];exact h)]
  rfl
 ·
  rw [if_neg h,List.filter_cons,if_neg (by rw [beq_iff_eq];exact h)]
  exact List.append_nil _
theorem ownTo_succ {f k:Nat} {p:Pk} (hp:ps[k]? = some p):ownTo ps f (k+1)=if p.flow=(f:Int) then ownTo ps f k ++ [p] else ownTo ps f k:=by
 unfold ownTo
 rw [List.take_add_one,hp,List.filter_append]
 by_cases h:p.flow=(f:Int)
 ·
  rw [if_pos h]
  congr 1
  show List.filter _ [p]=_
  rw [List.filter_cons,if_pos (by rw [beq_iff_eq];exact h)]
  rfl
 ·
  rw [if_neg h]
  show _ ++ List.filter _ [p]=_
  rw [List.filter_cons,if_neg (by rw [beq_iff_eq];exact h)]
  exact List.append_nil _
theorem flow_is (ho:OkPks ps) {k:Nat} {p:Pk} (hp:ps[k]? = some p) (f:Nat):p.flow=(f:Int) ↔ flowOf ps k=f:=by
 have:=okPk_true (ho.each _ p hp).1
 rw [flowOf_get hp]
 omega
theorem own_num (ho:OkPks ps) (f:Nat):∀ k,k ≤ ps.length → (ownTo ps f k).length=(numTo ps f k).length ∧ ∀ (r i:Nat),(numTo ps f k)[r]? = some i → i < k ∧ flowOf ps i=f ∧ rankIn ps i=r ∧ (ownTo ps f k)[r]? = ps[i]?
 | 0,_=>⟨rfl,fun r i h=>by simp [numTo] at h⟩
 | k+1,hk=>by
  obtain ⟨h1,h2⟩:=own_num ho f k (by omega)
  have e:ps[k]? = some ps[k]:=List.getElem?_eq_getElem (by omega)
  rw [numTo_succ,ownTo_succ e]
  by_cases h:flowOf ps k=f
  ·
   rw [if_pos h,if_pos ((flow_is ho e f).2 h)]
   refine ⟨by simp [h1],fun r i hi=>?_⟩
   rcases Nat.lt_or_ge r (numTo ps f k).length with hr | hr
   ·
    rw [List.getElem?_append_left hr] at hi
    obtain ⟨g1,g2,g3,g4⟩:=h2 r i hi
    exact ⟨by omega,g2,g3,by rw [List.getElem?_append_left (by omega)];exact g4⟩
   ·
    rw [List.getElem?_append_right hr] at hi
    have hr0:r=(numTo ps f k).length:=by
     rcases Nat.eq_zero_or_pos (r - (numTo ps f k).length) with h' | h'
     · omega
     · rw [List.getElem?_eq_none (by simp;omega)] at hi;cases hi
    subst hr0
    rw [Nat.sub_self] at hi
    obtain rfl:k=i:=by simpa using hi
    refine ⟨by omega,h,by unfold rankIn;rw [h],?_⟩
    rw [List.getElem?_append_right (by omega),h1,Nat.sub_self,e]
    rfl
  ·
   rw [if_neg h,if_neg (fun h'=>h ((flow_is ho e f).1 h'))]
   exact ⟨h1,fun r i hi=>by obtain ⟨g1,g2⟩:=h2 r i hi;exact ⟨by omega,g2⟩⟩
theorem num_rises (f k:Nat):(numTo ps f k).Pairwise (· < ·):=List.pairwise_lt_range.filter _
theorem num_mem {f k i:Nat}:i ∈ numTo ps f k ↔ i < k ∧ flowOf ps i=f:=by
 unfold numTo
 rw [List.mem_filter,List.mem_range,beq_iff_eq]
theorem num_at (ho:OkPks ps) {i k:Nat} (hi:i < k) (hk:k ≤ ps.length):(numTo ps (flowOf ps i) k)[rankIn ps i]? = some i:=by
 have hm:i ∈ numTo ps (flowOf ps i) k:=num_mem.2 ⟨hi,rfl⟩
 obtain ⟨r,hr,e⟩:=List.getElem_of_mem hm
 have h2:(numTo ps (flowOf ps i) k)[r]? = some i:=by rw [List.getElem?_eq_getElem hr,e]
 have:=((own_num ho (flowOf ps i) k hk).2 r i h2).2.2.1
 rw [this]
 exact h2
theorem own_ok (ho:OkPks ps) (f:Nat):∀ k,k ≤ ps.length → OkPks (ownTo ps f k) ∧ ahead (ownTo ps f k) (ownTo ps f k).length ≤ ahead ps k ∧ (ownTo ps f k).length ≤ k
 | 0,_=>⟨okPks_none,Int.le_refl _,Nat.le_refl _⟩
 | k+1,hk=>by
  obtain ⟨h1,h2,h3⟩:=own_ok ho f k (by omega)
  have e:ps[k]? = some ps[k]:=List.getElem?_eq_getElem (by omega)
  obtain ⟨o1,o2⟩:=ho.each k _ e
  have ea:ahead ps (k+1)=ps[k].tick:=by simp only [ahead,e]
  have hfew:=ho.few
  rw [ownTo_succ e,ea]
  by_cases h:ps[k].flow=(f:Int)
  ·
   rw [if_pos h]
   refine ⟨(okPks_snoc _ _).2 ⟨h1,by omega,o1,by omega⟩,?_,by simp;omega⟩
   rw [List.length_append,List.length_cons,List.length_nil,ahead_snoc_end]
   exact Int.le_refl _
  ·
   rw [if_neg h]
   exact ⟨h1,by omega,by omega⟩
end
def shapedFl (cs:Nat → List (Int × Int)) (ps:List Pk) (f:Nat):Option (List Pk):=if cs f=[] then some (ownTo ps f ps.length) else (shape (cs f) (ownTo ps f ps.length)).map Sh.out
def Shaped (cs:Nat → List (Int × Int)) (ps:List Pk) (at_:Nat → Int):Prop:=∀ f,f < 8 → ∃ out,shapedFl cs ps f=some out ∧ ∀ (r i:Nat),(numTo ps f ps.length)[r]? = some i → at_ i=tickOf out r
def CurvesOk (cs:Nat → List (Int × Int)):Prop:=∀ f,f < 8 → cs f=[] ∨ okCurve (cs f)
section
variable {cs:Nat → List (Int × Int)} {ps:List Pk} {at_:Nat → Int} {L:List Nat}
structure OutOf (own out:List Pk):Prop where
 len:out.length=own.length
 each:∀ (i:Nat) p q,own[i]? = some p → out[i]? = some q → q.flow=p.flow ∧ q.size=p.size ∧ p.tick ≤ q.tick
 ok:OkPks out
theorem shapedFl_out (ho:OkPks ps) (hc:CurvesOk cs) {f:Nat} (hf:f < 8) {out:List Pk} (h:shapedFl cs ps f=some out):OutOf (ownTo ps f ps.length) out ∧ (cs f ≠ [] → fitsB (cs f) out=true):=by
 have hown:=(own_ok ho f ps.length (Nat.le_refl _)).1
 unfold shapedFl at h
 by_cases he:cs f=[]
 ·
  rw [if_pos he] at h
  obtain rfl:=Option.some.inj h
  refine ⟨⟨rfl,fun i p q hp hq=>?_,hown⟩,fun hn=>absurd he hn⟩
  rw [hp] at hq
  obtain rfl:=Option.some.inj hq
  exact ⟨rfl,rfl,Int.le_refl _⟩
 ·
  rw [if_neg he] at h
  have hok:okCurve (cs f):=by
   rcases hc f hf with h' | h'
   · exact absurd h' he
   · exact h'
  cases hs:shape (cs f) (ownTo ps f ps.length) with
  | none=>rw [hs] at h;cases h
  | some s=>
   rw [hs] at h
   obtain rfl:=Option.some.inj h
   have g:=shape_good hok _ s hown hs
   exact ⟨⟨g.len,g.each,g.okOut⟩,fun _=>g.fits⟩
theorem flow_range (ho:OkPks ps) {i:Nat} (hi:i < ps.length):flowOf ps i < 8:=by
 have e:ps[i]? = some ps[i]:=List.getElem?_eq_getElem hi
 have:=okPk_true (ho.each _ _ e).1
 rw [flowOf_get e]
 omega
theorem Shaped.mono (ho:OkPks ps) (hc:CurvesOk cs) (h:Shaped cs ps at_) {i j:Nat} (hij:i < j) (hj:j < ps.length) (hf:flowOf ps i=flowOf ps j):at_ i ≤ at_ j:=by
 have hi:i < ps.length:=by omega
 obtain ⟨out,h1,h2⟩:=h _ (flow_range ho hj)
 have ho':=(shapedFl_out ho hc (flow_range ho hj) h1).1
 have a1:=num_at ho hi (Nat.le_refl _)
 have a2:=num_at ho hj (Nat.le_refl _)
 rw [hf] at a1
 rw [h2 _ _ a1,h2 _ _ a2]
 have r:rankIn ps i ≤ rankIn ps j:=by
  rcases Nat.lt_or_ge (rankIn ps j) (rankIn ps i) with h' | h'
  ·
   have hp:=List.pairwise_iff_getElem.1 (num_rises (ps:=ps) (flowOf ps j) ps.length) _ _ (List.getElem?_eq_some_iff.1 a2).1 (List.getElem?_eq_some_iff.1 a1).1 h'
   have e1:=(List.getElem?_eq_some_iff.1 a1).2
   have e2:=(List.getElem?_eq_some_iff.1 a2).2
   omega
  · exact h'
 refine ticks_le ho'.ok r ?_
 have hn:=own_num ho (flowOf ps j) ps.length (Nat.le_refl _)
 rw [ho'.len,hn.1]
 exact (List.getElem?_eq_some_iff.1 a2).1
end
def put1 {α:Type} (f:Nat → α) (k:Nat) (x:α):Nat → α:=fun i=>if i=k then x else f i
theorem put1_same {α:Type} (f:Nat → α) (k:Nat) (x:α):put1 f k x k=x:=if_pos rfl
theorem put1_other {α:Type} (f:Nat → α) {k i:Nat} (x:α) (h:i ≠ k):put1 f k x i=f i:=if_neg h
section
end
def sizeAt (ps:List Pk) (j:Nat):Int:=match ps[j]? with | some p=>p.size | none=>1
theorem sizeAt_get {ps:List Pk} {j:Nat} {p:Pk} (h:ps[j]? = some p):sizeAt ps j=p.size:=by simp [sizeAt,h]
theorem sizeAt_in {ps:List Pk} (ho:OkPks ps) (j:Nat):1 ≤ sizeAt ps j ∧ sizeAt ps j ≤ 1500:=by
 cases h:ps[j]? with
 | none=>simp [sizeAt,h]
 | some p=>
  rw [sizeAt_get h]
  have:=okPk_true (ho.each _ p h).1
  omega
def quOf (ns:List Int) (f:Nat):Int:=ns.getD f 1
section
end
section
end
section
end
structure FQ where
 q:List Nat
 tag:Nat → Int
 v:Int
 last:Nat → Int
section
variable (fl:Nat → Nat) (inc:Nat → Int)
def FQ.come (s:FQ) (k:Nat):FQ:=
 { q:=s.q ++ [k],tag:=put1 s.tag k (max s.v (s.last (fl k))+inc k),v:=s.v,last:=put1 s.last (fl k) (max s.v (s.last (fl k))+inc k) }
def FQ.left (s:FQ) (k:Nat):FQ:={ s with q:=s.q.filter fun i=>i != k,v:=s.tag k }
def FQ.rests (s:FQ):FQ:={ s with v:=0,last:=fun _=>0 }
def FQ.of (s:FQ) (f:Nat):List Nat:=s.q.filter fun i=>fl i == f
def FQ.begins (s:FQ) (f:Nat):Int:=match s.of fl f with | []=>s.v | k :: _=>s.tag k - inc k
def InChain (tag:Nat → Int) (inc:Nat → Int):List Nat → Prop
 | []=>True
 | [_]=>True
 | a :: b :: r=>tag b - inc b=tag a ∧ InChain tag inc (b :: r)
def lastTag (tag:Nat → Int) (d:Int):List Nat → Int
 | []=>d
 | [a]=>tag a
 | _ :: b :: r=>lastTag tag d (b :: r)
structure FQOk (s:FQ):Prop where
 nodup:s.q.Nodup
 low:∀ k,k ∈ s.q → s.v ≤ s.tag k
 begin:∀ f,s.begins fl inc f ≤ s.v
 chain:∀ f,InChain s.tag inc (s.of fl f)
 ends:∀ f,s.of fl f ≠ [] → s.last f=lastTag s.tag 0 (s.of fl f)
 idle:∀ f,s.of fl f=[] → s.last f ≤ s.v
variable {fl inc} {s:FQ}
theorem of_append (s:FQ) (k f:Nat) (t:Nat → Int) (v:Int) (l:Nat → Int):(FQ.mk (s.q ++ [k]) t v l).of fl f=s.of fl f ++ if fl k=f then [k] else []:=by
 unfold FQ.of
 simp only [List.filter_append]
 congr 1
 by_cases h:fl k=f
 · simp [h]
 · simp [h]
theorem chain_congr {t u:Nat → Int}:∀ {l:List Nat},(∀ k,k ∈ l → t k=u k) → InChain t inc l → InChain u inc l
 | [],_,_=>trivial
 | [_],_,_=>trivial
 | a :: b :: r,h,hc=>by
  obtain ⟨h1,h2⟩:=hc
  refine ⟨?_,chain_congr (fun k hk=>h k (List.mem_cons_of_mem _ hk)) h2⟩
  rw [← h a (List.mem_cons_self ..),← h b (List.mem_cons_of_mem _ (List.mem_cons_self ..))]
  exact h1
theorem lastTag_congr {t u:Nat → Int} {d:Int}:∀ {l:List Nat},(∀ k,k ∈ l → t k=u k) → lastTag t d l=lastTag u d l
 | [],_=>rfl
 | [a],h=>h a (List.mem_cons_self ..)
 | a :: b :: r,h=>by
  simp only [lastTag]
  exact lastTag_congr fun k hk=>h k (List.mem_cons_of_mem _ hk)
theorem lastTag_snoc (t:Nat → Int) (d:Int) (k:Nat):∀ l:List Nat,lastTag t d (l ++ [k])=t k
 | []=>rfl
 | [a]=>rfl
 | a :: b :: r=>by
  simp only [List.cons_append,lastTag]
  exact lastTag_snoc t d k (b :: r)
theorem chain_snoc {t:Nat → Int} {k:Nat}:∀ {l:List Nat},InChain t inc l → (l ≠ [] → t k - inc k=lastTag t 0 l) → InChain t inc (l ++ [k])
 | [],_,_=>trivial
 | [a],_,h=>⟨h (by simp),trivial⟩
 | a :: b :: r,hc,h=>by
  obtain ⟨h1,h2⟩:=hc
  exact ⟨h1,chain_snoc h2 (fun _=>h (by simp))⟩
theorem lastTag_ge {t:Nat → Int} {v:Int}:∀ {l:List Nat},l ≠ [] → (∀ k,k ∈ l → v ≤ t k) → v ≤ lastTag t 0 l
 | [],h,_=>absurd rfl h
 | [a],_,h=>h a (List.mem_cons_self ..)
 | a :: b :: r,_,h=>by
  simp only [lastTag]
  exact lastTag_ge (by simp) fun k hk=>h k (List.mem_cons_of_mem _ hk)
theorem mem_of {s:FQ} {f k:Nat}:k ∈ s.of fl f ↔ k ∈ s.q ∧ fl k=f:=by
 unfold FQ.of
 rw [List.mem_filter,beq_iff_eq]
theorem FQOk.start (fl:Nat → Nat) (inc:Nat → Int) (t:Nat → Int):FQOk fl inc ⟨[],t,0,fun _=>0⟩:=
 ⟨List.nodup_nil,(fun _ h=>by cases h),fun _=>Int.le_refl _,fun _=>trivial,fun _ h=>absurd rfl h,fun _ _=>Int.le_refl _⟩
theorem FQOk.rests (h:FQOk fl inc s) (h0:s.q=[]):FQOk fl inc s.rests:=by
 have e:∀ f,s.rests.of fl f=[]:=fun f=>by unfold FQ.of FQ.rests;simp [h0]
 refine ⟨h.nodup,fun k hk=>?_,fun f=>?_,fun f=>by rw [e];trivial,fun f hf=>absurd (e f) hf,fun f _=>Int.le_refl _⟩
 ·
  have hk':k ∈ s.q:=hk
  rw [h0] at hk'
  cases hk'
 ·
  unfold FQ.begins
  rw [e]
  exact Int.le_refl _
theorem FQOk.come (h:FQOk fl inc s) {k:Nat} (hk:k ∉ s.q) (hi:0 ≤ inc k):FQOk fl inc (s.come fl inc k):=by
 have hne:∀ i,i ∈ s.q → i ≠ k:=fun i hi e=>hk (by rw [← e];exact hi)
 have htag:∀ i,i ∈ s.q → s.tag i=(s.come fl inc k).tag i:=fun i hi=>(put1_other _ _ (hne i hi)).symm
 have htk:(s.come fl inc k).tag k=max s.v (s.last (fl k))+inc k:=put1_same _ _ _
 have hof:∀ f,(s.come fl inc k).of fl f=s.of fl f ++ if fl k=f then [k] else []:=fun f=>of_append s k f _ _ _
 have hofm:∀ f i,i ∈ s.of fl f → s.tag i=(s.come fl inc k).tag i:=fun f i hi=>htag i (mem_of.1 hi).1
 have hlast:s.of fl (fl k) ≠ [] → max s.v (s.last (fl k))=lastTag s.tag 0 (s.of fl (fl k)):=fun hn=>by
  rw [h.ends _ hn]
  have:=lastTag_ge hn (fun i hi=>h.low i (mem_of.1 hi).1)
  omega
 refine ⟨List.nodup_append.2 ⟨h.nodup,List.nodup_cons.2 ⟨by simp,List.nodup_nil⟩,fun a ha b hb e=>hk (by rw [List.mem_singleton] at hb;rw [← hb,← e];exact ha)⟩,fun i hi'=>?_,fun f=>?_,fun f=>?_,fun f hf=>?_,fun f hf=>?_⟩
 ·
  show s.v ≤ (s.come fl inc k).tag i
  have hi2:i ∈ s.q ++ [k]:=hi'
  rcases List.mem_append.1 hi2 with h1 | h1
  · rw [← htag i h1];exact h.low i h1
  ·
   rw [List.mem_singleton] at h1
   rw [h1,htk]
   omega
 ·
  have hb:=h.begin f
  unfold FQ.begins at hb ⊢
  rw [hof]
  cases hq:s.of fl f with
  | nil=>
   rw [List.nil_append]
   by_cases e:fl k=f
   ·
    rw [if_pos e]
    show (s.come fl inc k).tag k - inc k ≤ s.v
    rw [htk]
    have:=h.idle f hq
    rw [e]
    omega
   ·
    rw [if_neg e]
    exact Int.le_refl _
  | cons a r=>
   rw [hq] at hb
   show (s.come fl inc k).tag a - inc a ≤ s.v
   rw [← hofm f a (by rw [hq];exact List.mem_cons_self ..)]
   exact hb
 ·
  rw [hof]
  have hc:=chain_congr (hofm f) (h.chain f)
  by_cases e:fl k=f
  ·
   rw [if_pos e]
   refine chain_snoc hc (fun hn=>?_)
   rw [htk,← lastTag_congr (hofm f),← e,← hlast (by rw [e];exact hn)]
   omega
  ·
   rw [if_neg e,List.append_nil]
   exact hc
 ·
  show put1 s.last (fl k) (max s.v (s.last (fl k))+inc k) f=_
  rw [hof]
  by_cases e:fl k=f
  · rw [if_pos e,lastTag_snoc,htk,← e,put1_same]
  ·
   rw [hof,if_neg e,List.append_nil] at hf
   rw [if_neg e,List.append_nil,put1_other _ _ (fun e'=>e e'.symm),← lastTag_congr (hofm f)]
   exact h.ends f hf
 ·
  have hf':=hf
  rw [hof] at hf'
  have e:fl k ≠ f:=fun e=>by rw [if_pos e] at hf';simp at hf'
  rw [if_neg e,List.append_nil] at hf'
  show put1 s.last (fl k) _ f ≤ s.v
  rw [put1_other _ _ (fun e'=>e e'.symm)]
  exact h.idle f hf'
theorem begins_come {k f:Nat} (hk:k ∉ s.q) (hf:s.of fl f ≠ []):(s.come fl inc k).begins fl inc f=s.begins fl inc f ∧ (s.come fl inc k).of fl f ≠ []:=by
 have hof:(s.come fl inc k).of fl f=s.of fl f ++ if fl k=f then [k] else []:=of_append s k f _ _ _
 cases hq:s.of fl f with
 | nil=>exact absurd hq hf
 | cons a r=>
  refine ⟨?_,by rw [hof,hq];simp⟩
  have ha:a ∈ s.q:=(mem_of (fl:=fl) (f:=f).1 (by rw [hq];exact List.mem_cons_self ..)).1
  unfold FQ.begins
  rw [hof,hq]
  show (s.come fl inc k).tag a - inc a=s.tag a - inc a
  have:(s.come fl inc k).tag a=s.tag a:=put1_other _ _ (fun e=>hk (by rw [← e];exact ha))
  rw [this]
def FQ.Least (s:FQ) (k:Nat):Prop:=k ∈ s.q ∧ ∀ i,i ∈ s.q → s.tag k ≤ s.tag i
theorem chain_rises {t:Nat → Int}:∀ {l:List Nat} {a:Nat},InChain t inc (a :: l) → (∀ k,k ∈ l → 1 ≤ inc k) → ∀ k,k ∈ l → t a < t k
 | [],_,_,_=>fun k hk=>by cases hk
 | b :: r,a,hc,hi=>fun k hk=>by
  obtain ⟨h1,h2⟩:=hc
  have hb:=hi b (List.mem_cons_self ..)
  rcases List.mem_cons.1 hk with e | hk
  · rw [e];omega
  ·
   have:=chain_rises h2 (fun k hk=>hi k (List.mem_cons_of_mem _ hk)) k hk
   omega
theorem least_head (h:FQOk fl inc s) (hi:∀ k,k ∈ s.q → 1 ≤ inc k) {k:Nat} (hk:s.Least k):∃ r,s.of fl (fl k)=k :: r:=by
 have hm:k ∈ s.of fl (fl k):=mem_of.2 ⟨hk.1,rfl⟩
 cases hq:s.of fl (fl k) with
 | nil=>rw [hq] at hm;cases hm
 | cons a r=>
  rw [hq] at hm
  rcases List.mem_cons.1 hm with e | hm
  · subst e;exact ⟨r,rfl⟩
  ·
   have hc:=h.chain (fl k)
   rw [hq] at hc
   have hall:∀ i,i ∈ a :: r → i ∈ s.q:=fun i hi'=>(mem_of (fl:=fl) (f:=fl k).1 (by rw [hq];exact hi')).1
   have:=chain_rises hc (fun i hi'=>hi i (hall i (List.mem_cons_of_mem _ hi'))) k hm
   have:=hk.2 a (hall a (List.mem_cons_self ..))
   omega
theorem of_left (s:FQ) (k f:Nat):(s.left k).of fl f=(s.of fl f).filter fun i=>i != k:=by
 unfold FQ.of FQ.left
 simp only [List.filter_filter]
 refine List.filter_congr fun i _=>?_
 cases (fl i == f) <;> cases (i != k) <;> rfl
theorem of_left_other {k f:Nat} (h:fl k ≠ f):(s.left k).of fl f=s.of fl f:=by
 rw [of_left]
 refine List.filter_eq_self.2 fun i hi=>?_
 have:i ≠ k:=fun e=>h (by rw [← e];exact (mem_of.1 hi).2)
 simp [this]
theorem of_left_same (h:FQOk fl inc s) {k:Nat} {r:List Nat} (hr:s.of fl (fl k)=k :: r):(s.left k).of fl (fl k)=r:=by
 have hn:(s.of fl (fl k)).Nodup:=h.nodup.filter _
 rw [hr] at hn
 obtain ⟨n1,-⟩:=List.nodup_cons.1 hn
 rw [of_left,hr,List.filter_cons,if_neg (by simp)]
 refine List.filter_eq_self.2 fun i hi=>?_
 have:i ≠ k:=fun e=>n1 (by rw [← e];exact hi)
 simp [this]
theorem FQOk.left (h:FQOk fl inc s) (hi:∀ k,k ∈ s.q → 1 ≤ inc k) {k:Nat} (hk:s.Least k):FQOk fl inc (s.left k):=by
 obtain ⟨r,hr⟩:=least_head h hi hk
 have hv:s.v ≤ s.tag k:=h.low k hk.1
 have hmem:∀ i,i ∈ (s.left k).q → i ∈ s.q:=fun i hi'=>(List.mem_filter.1 hi').1
 refine ⟨h.nodup.filter _,fun i hi'=>hk.2 i (hmem i hi'),fun f=>?_,fun f=>?_,fun f hf=>?_,fun f hf=>?_⟩
 ·
  show (s.left k).begins fl inc f ≤ s.tag k
  by_cases e:fl k=f
  ·
   subst e
   unfold FQ.begins
   rw [of_left_same h hr]
   cases r with
   | nil=>exact Int.le_refl _
   | cons b r=>
    have hc:=h.chain (fl k)
    rw [hr] at hc
    show s.tag b - inc b ≤ s.tag k
    have:=hc.1
    omega
  ·
   have hb:=h.begin f
   unfold FQ.begins at hb ⊢
   rw [of_left_other e]
   cases hq:s.of fl f with
   | nil=>exact Int.le_refl _
   | cons a r=>
    rw [hq] at hb
    show s.tag a - inc a ≤ s.tag k
    simp only at hb
    omega
 ·
  by_cases e:fl k=f
  ·
   subst e
   rw [of_left_same h hr]
   have hc:=h.chain (fl k)
   rw [hr] at hc
   cases r with
   | nil=>trivial
   | cons b r=>exact hc.2
  ·
   rw [of_left_other e]
   exact h.chain f
 ·
  by_cases e:fl k=f
  ·
   subst e
   rw [of_left_same h hr] at hf ⊢
   have:=h.ends (fl k) (by rw [hr];simp)
   rw [hr] at this
   cases r with
   | nil=>exact absurd rfl hf
   | cons b r=>exact this
  ·
   rw [of_left_other e] at hf ⊢
   exact h.ends f hf
 ·
  show s.last f ≤ s.tag k
  by_cases e:fl k=f
  ·
   subst e
   rw [of_left_same h hr] at hf
   subst hf
   have:=h.ends (fl k) (by rw [hr];simp)
   rw [hr] at this
   rw [this]
   exact Int.le_refl _
  ·
   rw [of_left_other e] at hf
   have:=h.idle f hf
   omega
end
end Go.Proofs.YtbokomeejmnnoaaDoor
