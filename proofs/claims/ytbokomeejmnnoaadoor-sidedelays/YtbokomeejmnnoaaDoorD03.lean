/- Own facts, put together: no statement of its own. -/
import Derived.Test.YtbokomeejmnnoaaDoorD02
import Derived.Test.YtbokomeejmnnoaaDoorD01
import Derived.Laws.MakeOwn
import Derived.WalkKit
import Derived.WalkSpells
import Derived.WalkLawsBesides
import Derived.BigQuiet
set_option maxHeartbeats 400000

namespace Go.Proofs.YtbokomeejmnnoaaDoor
def incOf (ps:List Pk) (ws:List Int) (k:Nat):Int:=sizeAt ps k * (12 / quOf ws (flowOf ps k))
def fairQ (ps:List Pk) (ws:List Int):Que FQ where
 come:=fun s k=>s.come (flowOf ps) (incOf ps ws) k
 pick:=fun s=>s.q.getD (pickAt s.tag s.q) 0
 left:=fun s=>s.left (s.q.getD (pickAt s.tag s.q) 0)
 rest:=fun s=>s.q.length
 idle:=FQ.rests
def fair0:FQ:=⟨[],fun _=>0,0,fun _=>0⟩
def WtsOk (ws:List Int):Prop:=∀ f,1 ≤ quOf ws f ∧ 12 / quOf ws f * quOf ws f=12
section
variable {ps:List Pk} {ws:List Int} {per:Int}
theorem WtsOk.part (h:WtsOk ws) (f:Nat):1 ≤ 12 / quOf ws f ∧ 12 / quOf ws f ≤ 12:=by
 obtain ⟨h1,h2⟩:=h f
 have h3:0 ≤ 12 / quOf ws f:=Int.ediv_nonneg (by omega) (by omega)
 constructor
 ·
  rcases Int.lt_or_le (12 / quOf ws f) 1 with h4 | h4
  ·
   have:12 / quOf ws f=0:=by omega
   rw [this] at h2
   omega
  · exact h4
 ·
  have:=Int.mul_le_mul_of_nonneg_left h1 h3
  omega
theorem incOf_in (hw:WtsOk ws) (ho:OkPks ps) (k:Nat):1 ≤ incOf ps ws k ∧ incOf ps ws k ≤ 18000:=by
 obtain ⟨h1,h2⟩:=hw.part (flowOf ps k)
 obtain ⟨h3,h4⟩:=sizeAt_in ho k
 unfold incOf
 have a1:1 * 1 ≤ sizeAt ps k * (12 / quOf ws (flowOf ps k)):=Int.mul_le_mul h3 h1 (by omega) (by omega)
 have a2:sizeAt ps k * (12 / quOf ws (flowOf ps k)) ≤ 1500 * 12:=Int.mul_le_mul h4 h2 (by omega) (by omega)
 omega
theorem least_first {tag:Nat → Int} {q:List Nat} (h:0 < q.length):q.getD (pickAt tag q) 0 ∈ q ∧ ∀ i,i ∈ q → tag (q.getD (pickAt tag q) 0) ≤ tag i:=by
 have hl:=pickAt_lt tag h
 refine ⟨by rw [getD_lt hl];exact List.getElem_mem _,fun i hi=>?_⟩
 obtain ⟨j,hj,e⟩:=List.getElem_of_mem hi
 have:=firstLeast_min tag q q.length j hj
 rw [getD_lt (d:=0) hj,e] at this
 have e2:pickAt tag q=firstLeast tag q q.length:=rfl
 rw [e2]
 omega
structure FairRun (ps:List Pk) (ws:List Int) (s:St FQ) (H:List (FQ × FQ)):Prop where
 state:FQOk (flowOf ps) (incOf ps ws) s.q
 rises:s.q.q.Pairwise (· < ·)
 len:H.length=s.out.length
 each:∀ (i:Nat) x h,s.out[i]? = some x → H[i]? = some h → ∃ k:Nat,x.num=k ∧ FQOk (flowOf ps) (incOf ps ws) h.1 ∧ h.1.Least k ∧ h.2=h.1.left k ∧ ∀ w:Nat,w < ps.length → tickOf ps w ≤ x.beg → isDone (s.out.take (i+1)) w=false → w ∈ h.2.q
 next:∀ (i:Nat) h h',H[i]? = some h → H[i+1]? = some h' → ∀ f,h.2.of (flowOf ps) f ≠ [] → h'.1.begins (flowOf ps) (incOf ps ws) f=h.2.begins (flowOf ps) (incOf ps ws) f
 last:∀ h,H[H.length - 1]? = some h → 0 < H.length → ∀ f,h.2.of (flowOf ps) f ≠ [] → s.q.of (flowOf ps) f ≠ [] ∧ s.q.begins (flowOf ps) (incOf ps ws) f=h.2.begins (flowOf ps) (incOf ps ws) f
 clock:∀ x,s.out[s.out.length - 1]? = some x → x.fin ≤ s.now ∧ (x.fin=s.now → s.q.v=s.q.tag x.num.toNat)
 busy:∀ (i:Nat) x y,s.out[i]? = some x → s.out[i+1]? = some y → y.beg=x.fin → s.q.tag x.num.toNat ≤ s.q.tag y.num.toNat
 wait:∀ w,w < s.next → isDone s.out w=false → w ∈ s.q.q
 only:∀ w,w ∈ s.q.q → w < s.next ∧ isDone s.out w=false
 le:s.next ≤ ps.length
 gone:∀ w:Nat,isDone s.out w=true → w < s.next
 nums:∀ (i:Nat) x,s.out[i]? = some x → ∃ k:Nat,x.num=k ∧ k < s.next
 within:∀ (i:Nat) h,H[i]? = some h → ∀ k,k ∈ h.1.q → k < ps.length
theorem snoc_get {α:Type} {l:List α} {y x:α} {i:Nat} (h:(l ++ [y])[i]? = some x):(i < l.length ∧ l[i]? = some x) ∨ (i=l.length ∧ x=y):=by
 have hl:=lt_of_get h
 rw [List.length_append,List.length_cons,List.length_nil] at hl
 rcases Nat.lt_or_ge i l.length with h' | h'
 · rw [List.getElem?_append_left h'] at h;exact .inl ⟨h',h⟩
 ·
  obtain rfl:i=l.length:=by omega
  rw [List.getElem?_append_right (Nat.le_refl _),Nat.sub_self,List.getElem?_cons_zero] at h
  exact .inr ⟨rfl,(Option.some.inj h).symm⟩
theorem fair_run (hw:WtsOk ws) (ho:OkPks ps) (hper:1 ≤ per) {s:St FQ} (h:Reaches (fairQ ps ws) per ps fair0 s):∃ H,FairRun ps ws s H:=by
 refine h.by_steps (C:=fun s=>∃ H,FairRun ps ws s H) ?_ ?_ ?_ ?_
 · exact ⟨[],FQOk.start _ _ _,List.Pairwise.nil,rfl,(fun i x h hx=>by simp at hx),(fun i h h' hx=>by simp at hx),(fun h _ h0=>by simp at h0),(fun x hx=>by simp at hx),(fun i x y hx=>by simp at hx),(fun w hw=>absurd hw (Nat.not_lt_zero _)),(fun w hw=>by cases hw),Nat.zero_le _,(fun w hw=>by simp [isDone] at hw),(fun i x hx=>by simp at hx),fun i h hh=>by simp at hh⟩
 ·
  rintro s p hs hp ht ⟨H,r⟩
  have hlt:=lt_of_get hp
  have hnew:isDone s.out s.next=false:=by
   cases hd:isDone s.out s.next with
   | false=>rfl
   | true=>have:=r.gone _ hd;omega
  have hk:s.next ∉ s.q.q:=fun hm=>by have:=(r.only _ hm).1;omega
  have hi:=(incOf_in hw ho s.next).1
  have htag:∀ (i:Nat) x,s.out[i]? = some x → ((fairQ ps ws).come s.q s.next).tag x.num.toNat=s.q.tag x.num.toNat:=fun i x hx=>by
   obtain ⟨k,e,hk'⟩:=r.nums i x hx
   refine put1_other _ _ ?_
   rw [e,Int.toNat_natCast]
   omega
  refine ⟨H,r.state.come hk (by omega),?_,r.len,r.each,r.next,fun h hh h0 f hf=>?_,fun x hx=>?_,fun i x y hx hy hb=>?_,fun w hw hd=>?_,fun w hw=>?_,hlt,fun w hw=>Nat.lt_succ_of_lt (r.gone w hw),fun i x hx=>?_,r.within⟩
  ·
   refine List.pairwise_append.2 ⟨r.rises,List.pairwise_singleton _ _,fun a ha b hb=>?_⟩
   rw [List.mem_singleton] at hb
   have:=(r.only a ha).1
   omega
  ·
   obtain ⟨g1,g2⟩:=r.last h hh h0 f hf
   obtain ⟨c1,c2⟩:=begins_come (inc:=incOf ps ws) hk g1
   exact ⟨c2,c1.trans g2⟩
  ·
   obtain ⟨c1,c2⟩:=r.clock x hx
   refine ⟨c1,fun e=>?_⟩
   show s.q.v=_
   rw [htag _ x hx]
   exact c2 e
  ·
   show ((fairQ ps ws).come s.q s.next).tag _ ≤ ((fairQ ps ws).come s.q s.next).tag _
   rw [htag _ x hx,htag _ y hy]
   exact r.busy i x y hx hy hb
  ·
   show w ∈ s.q.q ++ [s.next]
   rcases Nat.lt_or_ge w s.next with hw' | hw'
   · exact List.mem_append.2 (.inl (r.wait w hw' hd))
   ·
    obtain rfl:w=s.next:=by simp only at hw;omega
    exact List.mem_append.2 (.inr (List.mem_singleton.2 rfl))
  ·
   have hw2:w ∈ s.q.q ++ [s.next]:=hw
   rcases List.mem_append.1 hw2 with hw3 | hw3
   ·
    obtain ⟨g1,g2⟩:=r.only w hw3
    exact ⟨Nat.lt_succ_of_lt g1,g2⟩
   ·
    rw [List.mem_singleton] at hw3
    subst hw3
    exact ⟨Nat.lt_succ_self _,hnew⟩
  ·
   obtain ⟨k,e,hk'⟩:=r.nums i x hx
   exact ⟨k,e,Nat.lt_succ_of_lt hk'⟩
 ·
  rintro s p hs hall h0 hp ⟨H,r⟩
  obtain ⟨l1,l2⟩:=least_first (tag:=s.q.tag) (q:=s.q.q) h0
  obtain ⟨k,hk⟩:∃ k,k=(fairQ ps ws).pick s.q:=⟨_,rfl⟩
  have hkd:s.q.q.getD (pickAt s.q.tag s.q.q) 0=k:=hk.symm
  have hleft:(fairQ ps ws).left s.q=s.q.left k:=by rw [hk];rfl
  rw [hkd] at l1 l2
  rw [← hk] at hp ⊢
  rw [hleft]
  have hL:s.q.Least k:=⟨l1,l2⟩
  have hinc:∀ i,i ∈ s.q.q → 1 ≤ incOf ps ws i:=fun i _=>(incOf_in hw ho i).1
  obtain ⟨-,-,z1,-,-,-⟩:=okPk_true (ho.each _ p hp).1
  have hpos:1 * 1 ≤ per * p.size:=Int.mul_le_mul hper z1 (by omega) (by omega)
  obtain ⟨k1,k2⟩:=r.only k l1
  have hstay:∀ w,w ∈ s.q.q → w ≠ k → w ∈ (s.q.left k).q:=fun w hw hne=>List.mem_filter.2 ⟨hw,by simp [hne]⟩
  have hnd:∀ w:Nat,isDone (s.out ++ [⟨(k:Nat),s.now,s.now+per * p.size⟩]) w=false → isDone s.out w=false ∧ w ≠ k:=by
   intro w hw
   rw [isDone_snoc,Bool.or_eq_false_iff] at hw
   exact ⟨hw.1,fun e=>beq_eq_false_iff_ne.1 hw.2 e.symm⟩
  refine ⟨H ++ [(s.q,s.q.left k)],r.state.left hinc hL,r.rises.filter _,by simp [r.len],fun i x h hx hh=>?_,fun i h h' hh hh' f hf=>?_,fun h hh _ f hf=>?_,fun x hx=>?_,fun i x y hx hy hb=>?_,fun w hw hd=>?_,fun w hw=>?_,r.le,fun w hw=>?_,fun i x hx=>?_,fun i h hh=>?_⟩
  ·
   rcases snoc_get hx with ⟨h',hx⟩ | ⟨rfl,rfl⟩
   ·
    rw [List.getElem?_append_left (by rw [r.len];exact h')] at hh
    simp only [List.take_append_of_le_length (show i+1 ≤ s.out.length by omega)]
    exact r.each i x h hx hh
   ·
    rw [List.getElem?_append_right (by rw [r.len];exact Nat.le_refl _),r.len,Nat.sub_self,List.getElem?_cons_zero] at hh
    have hh:=Option.some.inj hh
    subst hh
    refine ⟨k,rfl,r.state,hL,rfl,fun w hw ht hd=>?_⟩
    rw [List.take_of_length_le (by simp)] at hd
    obtain ⟨d1,d2⟩:=hnd w hd
    refine hstay w (r.wait w ?_ d1) d2
    rcases Nat.lt_or_ge w s.next with h3 | h3
    · exact h3
    ·
     have hnl:s.next < ps.length:=by omega
     have e:ps[s.next]? = some ps[s.next]:=List.getElem?_eq_getElem hnl
     have a1:=hall _ e
     have a2:=ticks_le ho h3 hw
     rw [tickOf_get e] at a2
     simp only at ht
     omega
  ·
   have hil:=lt_of_get hh'
   simp only [List.length_append,List.length_cons,List.length_nil] at hil
   rcases Nat.lt_or_ge (i+1) H.length with h3 | h3
   ·
    rw [List.getElem?_append_left (by omega)] at hh
    rw [List.getElem?_append_left h3] at hh'
    exact r.next i h h' hh hh' f hf
   ·
    have e1:i+1=H.length:=by omega
    rw [List.getElem?_append_left (by omega)] at hh
    rw [List.getElem?_append_right (by omega),e1,Nat.sub_self,List.getElem?_cons_zero] at hh'
    have hh':=Option.some.inj hh'
    subst hh'
    exact (r.last h (by rw [show H.length - 1=i by omega];exact hh) (by omega) f hf).2
  ·
   simp only [List.length_append,List.length_cons,List.length_nil,Nat.add_sub_cancel] at hh
   rw [List.getElem?_append_right (Nat.le_refl _),Nat.sub_self,List.getElem?_cons_zero] at hh
   have hh:=Option.some.inj hh
   subst hh
   exact ⟨hf,rfl⟩
  ·
   simp only [List.length_append,List.length_cons,List.length_nil,Nat.add_sub_cancel] at hx
   rw [List.getElem?_append_right (Nat.le_refl _),Nat.sub_self,List.getElem?_cons_zero] at hx
   have hx:=Option.some.inj hx
   subst hx
   refine ⟨Int.le_refl _,fun _=>?_⟩
   show s.q.tag k=s.q.tag ((k:Nat):Int).toNat
   rw [Int.toNat_natCast]
  ·
   show s.q.tag _ ≤ s.q.tag _
   rcases snoc_get hy with ⟨h',hy⟩ | ⟨e,rfl⟩
   ·
    rcases snoc_get hx with ⟨-,hx⟩ | ⟨e,-⟩
    · exact r.busy i x y hx hy hb
    · omega
   ·
    rcases snoc_get hx with ⟨-,hx⟩ | ⟨e',-⟩
    ·
     obtain ⟨-,c2⟩:=r.clock x (by rw [show s.out.length - 1=i by omega];exact hx)
     have hv:=c2 hb.symm
     have:=r.state.low k l1
     simp only [Int.toNat_natCast]
     omega
    · omega
  ·
   obtain ⟨d1,d2⟩:=hnd w hd
   exact hstay w (r.wait w hw d1) d2
  ·
   obtain ⟨w1,w2⟩:=List.mem_filter.1 (show w ∈ s.q.q.filter fun i=>i != k from hw)
   obtain ⟨g1,g2⟩:=r.only w w1
   refine ⟨g1,?_⟩
   rw [isDone_snoc,g2,Bool.false_or]
   exact beq_eq_false_iff_ne.2 (fun e=>(bne_iff_ne.1 w2) e.symm)
  ·
   rw [isDone_snoc,Bool.or_eq_true] at hw
   show w < s.next
   rcases hw with hw | hw
   · exact r.gone w hw
   ·
    have:=beq_iff_eq.1 hw
    omega
  ·
   rcases snoc_get hx with ⟨-,hx⟩ | ⟨-,rfl⟩
   · exact r.nums i x hx
   · exact ⟨k,rfl,k1⟩
  ·
   rcases snoc_get hh with ⟨-,hh⟩ | ⟨-,rfl⟩
   · exact r.within i h hh
   · exact fun k hk=>Nat.lt_of_lt_of_le (r.only k hk).1 r.le
 ·
  rintro s p hs hp ht h0 ⟨H,r⟩
  have hq:s.q.q=[]:=List.length_eq_zero_iff.1 h0
  refine ⟨H,r.state.rests hq,r.rises,r.len,r.each,r.next,fun h hh h0 f hf=>?_,fun x hx=>?_,r.busy,r.wait,r.only,r.le,r.gone,r.nums,r.within⟩
  ·
   obtain ⟨g1,-⟩:=r.last h hh h0 f hf
   refine absurd ?_ g1
   unfold FQ.of
   rw [hq]
   rfl
  ·
   obtain ⟨c1,-⟩:=r.clock x hx
   refine ⟨by simp only;omega,fun e=>?_⟩
   simp only at e
   omega
end
section
end
structure FoIn (per:Int) (ps:List Pk) (ws:List Int) (s0 s:St FQ) (i:Nat) (first best:Int):Prop where
 reach:Reaches (fairQ ps ws) per ps fair0 s
 from_:Reaches (fairQ ps ws) per ps fair0 s0
 out:s.out=s0.out
 now:s.now=s0.now
 seen:∀ j,j < i → tickOf ps j ≤ s.now → j < s.next
 first:(first = -1 ∧ ∀ j,j < i → isDone s.out j=true) ∨ ∃ f:Nat,first=f ∧ f < i ∧ isDone s.out f=false ∧ ∀ j,j < f → isDone s.out j=true
 best:(best = -1 ∧ ∀ j,j < i → j ∉ s.q.q) ∨ ∃ b:Nat,best=b ∧ b < i ∧ b ∈ s.q.q ∧ ∀ j,j < i → j ∈ s.q.q → s.q.tag b < s.q.tag j ∨ (s.q.tag b=s.q.tag j ∧ b ≤ j)
section
variable {per:Int} {ps:List Pk} {ws:List Int} {s0 s:St FQ} {i:Nat} {first best:Int}
theorem FoIn.one (hw:WtsOk ws) (ho:OkPks ps) (hper:1 ≤ per) (h:FoIn per ps ws s0 s ps.length first best) (hb:¬ best < 0) :
  ∃ (b:Nat) (p:Pk),best=b ∧ ps[b]? = some p ∧ isDone s.out b=false ∧ Reaches (fairQ ps ws) per ps fair0 ⟨s.out ++ [⟨(b:Nat),s.now,s.now+per * p.size⟩],s.now+per * p.size,s.next,s.q.left b⟩:=by
 obtain ⟨H,r⟩:=fair_run hw ho hper h.reach
 rcases h.best with ⟨b1,-⟩ | ⟨b,b1,b2,b3,b4⟩
 · omega
 ·
  have hlen:0 < s.q.q.length:=List.length_pos_of_mem b3
  have hpl:=pickAt_lt s.q.tag hlen
  obtain ⟨l1,l2⟩:=least_first (tag:=s.q.tag) (q:=s.q.q) hlen
  obtain ⟨k,hk⟩:∃ k,k=(fairQ ps ws).pick s.q:=⟨_,rfl⟩
  have hkd:s.q.q.getD (pickAt s.q.tag s.q.q) 0=k:=hk.symm
  have hkb:k=b:=by
   have hkm:k ∈ s.q.q:=by rw [← hkd];exact l1
   have c1:=b4 k (by have:=(r.only k hkm).1;have:=r.le;omega) hkm
   obtain ⟨j,hj,ej⟩:=List.getElem_of_mem b3
   have c2:=firstLeast_min s.q.tag s.q.q s.q.q.length j hj
   have e2:firstLeast s.q.tag s.q.q s.q.q.length=pickAt s.q.tag s.q.q:=rfl
   rw [e2,hkd,getD_lt (d:=0) hj,ej] at c2
   have hkb:k ≤ b ∨ s.q.tag k < s.q.tag b:=by
    rcases c2 with c2 | ⟨-,c2⟩
    · exact .inr c2
    ·
     refine .inl ?_
     rw [← hkd,getD_lt (d:=0) hpl,← ej]
     rcases Nat.lt_or_eq_of_le c2 with c3 | c3
     · exact Nat.le_of_lt (List.pairwise_iff_getElem.1 r.rises _ _ hpl hj c3)
     · simp only [c3];exact Nat.le_refl _
   omega
  have hlt:b < ps.length:=b2
  have e:ps[b]? = some ps[b]:=List.getElem?_eq_getElem hlt
  refine ⟨b,_,b1,e,(r.only b b3).2,?_⟩
  have:=Reaches.send s ps[b] h.reach (fun q hq=>by
   rcases Int.lt_or_le s.now q.tick with h' | h'
   · exact h'
   ·
    have:=h.seen s.next (lt_of_get hq) (by rw [tickOf_get hq];exact h')
    omega) hlen (by rw [← hk,hkb];exact e)
  have hleft:(fairQ ps ws).left s.q=s.q.left b:=by rw [← hkb,← hkd];rfl
  rw [← hk,hkb,hleft] at this
  exact this
end
section
variable (per:Int) (ps:List Pk) (out:List Sn) (x:Sn)
def IdlesAt:Prop:=lastFin out < x.beg ∧ ∃ i,i < ps.length ∧ isDone out i=false ∧ tickOf ps i < x.beg
def OutOfTurn (k:Nat):Prop:=∃ i,i < k ∧ isDone out i=false ∧ flowOf ps i=flowOf ps k
def SentIs (c:Int):Prop:=
 (c=4 ∧ (x.num < 0 ∨ (ps.length:Int) ≤ x.num)) ∨ ∃ k:Nat,x.num=k ∧ k < ps.length ∧ ((c=4 ∧ isDone out k=true) ∨ (isDone out k=false ∧
  ((c=5 ∧ (x.beg < tickOf ps k ∨ x.beg < lastFin out)) ∨ (tickOf ps k ≤ x.beg ∧ lastFin out ≤ x.beg ∧
   ((c=3 ∧ x.fin - x.beg ≠ per * bytesOf ps k) ∨ (x.fin - x.beg=per * bytesOf ps k ∧
    ((c=7 ∧ IdlesAt ps out x) ∨ (¬ IdlesAt ps out x ∧ ((c=8 ∧ OutOfTurn ps out k) ∨ (c=0 ∧ ¬ OutOfTurn ps out k))))))))))
variable {per ps out x}
theorem SentIs.range {c:Int} (h:SentIs per ps out x c):0 ≤ c ∧ c ≤ 8:=by
 rcases h with ⟨h,-⟩ | ⟨k,-,-,⟨h,-⟩ | ⟨-,⟨h,-⟩ | ⟨-,-,⟨h,-⟩ | ⟨-,⟨h,-⟩ | ⟨-,⟨h,-⟩ | ⟨h,-⟩⟩⟩⟩⟩⟩ <;> omega
end
end Go.Proofs.YtbokomeejmnnoaaDoor

namespace Go.Proofs.YtbokomeejmnnoaaDoor
open Go.RowKit
theorem ownsRow_of_block {w w':World} {base:Nat} {e:TypeId} {size:Nat} {v:Value} {n:Nat} {xs:List Value} (h:w.ownsRow base e size v n xs) (hb:∀ g,v.ownBlock=some g → g < w.heap.size → w'.heap[g]? = w.heap[g]?):w'.ownsRow base e size v n xs:=by
 obtain ⟨h1,h2 | ⟨g,cap,cur,rfl,hB,hg,r⟩⟩:=h
 · exact ⟨h1,.inl h2⟩
 · exact ⟨h1,.inr ⟨g,cap,cur,rfl,hB,(hb g rfl (lt_of_block hg)).trans hg,r⟩⟩
theorem ownsRow_lt {w:World} {base:Nat} {e:TypeId} {size:Nat} {v:Value} {n:Nat} {xs:List Value} (h:w.ownsRow base e size v n xs) {g:Nat} (hg:v.ownBlock=some g):base ≤ g ∧ g < w.heap.size:=by
 obtain ⟨h1,⟨rfl,-⟩ | ⟨g',cap,cur,rfl,hB,hgc,r⟩⟩:=h
 · cases hg
 ·
  cases hg
  exact ⟨hB,lt_of_block hgc⟩
theorem Tryd.infoInt:(Tryd.prog.info? 3).map (fun i=>(i.zero,i.size,i.bytes))=some (some (.int .i64 0),1,8):=by kernel_rfl
def LiesN (w:World) (a:Option Addr) (xs:List Int):Prop:=
 xs=[] ∨ ∃ b off,a=some ⟨b,off,none⟩ ∧ b < w.heap.size ∧ ∀ (i:Nat) x,xs[i]? = some x → w.cell? ⟨b,off+i,none⟩=some (.int .i64 x)
theorem LiesN.place {w:World} {a:Option Addr} {xs:List Int} (h:LiesN w a xs) (h1:1 ≤ xs.length):∃ b off,a=some ⟨b,off,none⟩ ∧ b < w.heap.size ∧ ∀ (i:Nat) x,xs[i]? = some x → w.cell? ⟨b,off+i,none⟩=some (.int .i64 x):=by
 rcases h with rfl | h
 · simp at h1
 · exact h
theorem LiesN.below {w w':World} {a:Option Addr} {xs:List Int} (h:LiesN w a xs) (hb:Below w.heap.size w w'):LiesN w' a xs:=by
 rcases h with rfl | ⟨b,off,rfl,hlt,hc⟩
 · exact .inl rfl
 · exact .inr ⟨b,off,rfl,Nat.lt_of_lt_of_le hlt hb.size,fun i x hi=>cell_later hb (hc i x hi)⟩
theorem isLine_yes (x y:Int) (w:World) (h:okLine x y=true) :
  Calls Tryd.prog 55 #[.agg #[.int .i64 x,.int .i64 y]] w fun e w'=>e=.returned (.bool true) ∧ w'=w.alloc (.cells #[.int .i64 x,.int .i64 y] 42):=by
 obtain ⟨h1,h2,h3,h4⟩:=okLine_true h
 clear h
 go_enter Tryd.func55,Tryd.ntmps55
 go_wp2
 go_ret
 exact ⟨rfl,rfl⟩
theorem isLine_no (x y:Int) (w:World) (h:okLine x y=false) :
  Calls Tryd.prog 55 #[.agg #[.int .i64 x,.int .i64 y]] w fun e w'=>e=.returned (.bool false) ∧ w'=w.alloc (.cells #[.int .i64 x,.int .i64 y] 42):=by
 have h':¬ (1 ≤ x ∧ x ≤ 20000 ∧ 0 ≤ y ∧ y ≤ 100000):=of_decide_eq_false h
 clear h
 by_cases h1:1 ≤ x
 ·
  by_cases h2:x ≤ 20000
  ·
   by_cases h3:0 ≤ y
   ·
    have h4:¬ y ≤ 100000:=fun h4=>h' ⟨h1,h2,h3,h4⟩
    clear h'
    go_enter Tryd.func55,Tryd.ntmps55
    go_wp2
    go_ret
    exact ⟨rfl,rfl⟩
   ·
    clear h'
    go_enter Tryd.func55,Tryd.ntmps55
    go_wp2
    go_ret
    exact ⟨rfl,rfl⟩
  ·
   clear h'
   go_enter Tryd.func55,Tryd.ntmps55
   go_wp2
   go_ret
   exact ⟨rfl,rfl⟩
 ·
  clear h'
  go_enter Tryd.func55,Tryd.ntmps55
  go_wp2
  go_ret
  exact ⟨rfl,rfl⟩
def Lies (w:World) (a:Option Addr) (ls:List (Int × Int)):Prop:=
 ls=[] ∨ ∃ b off,a=some ⟨b,off,none⟩ ∧ b < w.heap.size ∧ ∀ i x y,ls[i]? = some (x,y) → w.cell? ⟨b,off+i * 2,none⟩=some (.int .i64 x) ∧ w.cell? ⟨b,off+i * 2+1,none⟩=some (.int .i64 y)
theorem Lies.some {w:World} {a:Option Addr} {ls:List (Int × Int)} (h:Lies w a ls) (h1:1 ≤ ls.length) :
  ∃ b off,a=some ⟨b,off,none⟩ ∧ b < w.heap.size ∧ ∀ i x y,ls[i]? = some (x,y) → w.cell? ⟨b,off+i * 2,none⟩=some (.int .i64 x) ∧ w.cell? ⟨b,off+i * 2+1,none⟩=some (.int .i64 y):=by
 rcases h with rfl | h
 · simp at h1
 · exact h
theorem Lies.below {w w':World} {a:Option Addr} {ls:List (Int × Int)} (h:Lies w a ls) (hb:Below w.heap.size w w'):Lies w' a ls:=by
 rcases h with rfl | ⟨b,off,rfl,hlt,hc⟩
 · exact .inl rfl
 ·
  refine .inr ⟨b,off,rfl,Nat.lt_of_lt_of_le hlt hb.size,fun i x y hi=>?_⟩
  have:=hc i x y hi
  exact ⟨by rw [hb.cell (p:=⟨b,off+i * 2,none⟩) hlt];exact this.1,by rw [hb.cell (p:=⟨b,off+i * 2+1,none⟩) hlt];exact this.2⟩
theorem check_ok (a:Option Addr) (cap:Nat) (ls:List (Int × Int)) (w:World) (hl:Lies w a ls) (h:okCurve ls) :
  Calls Tryd.prog 28 #[.slice a ls.length cap] w fun e w'=>e=.returned .nilIface ∧ Below w.heap.size w w':=by
 obtain ⟨h1,h6,hok⟩:=h
 obtain ⟨b,off,rfl,hlt,hc⟩:=hl.some h1
 clear hl
 generalize hn:ls.length=n at *
 have Hn:=(show Hid (ls.length=n) from hn)
 clear hn
 go_enter Tryd.func28,Tryd.ntmps28
 go_wp2
 go_loopw [16] (fun i wr=>∃ k:Nat,k ≤ n ∧ i=.int .i64 k ∧ Below w.heap.size w wr) (fun i _=>n - (intOf i).toNat)
 case atStart=>exact ⟨0,Nat.zero_le _,rfl,Below.refl _ _⟩
 case round=>
  obtain ⟨k,hk,rfl,hb⟩:=hrel
  by_cases hkn:k < n
  ·
   obtain ⟨⟨x,y⟩,hp,hm⟩:=get_some ls k (by rw [Hn.out];exact hkn)
   have hc1:wr.cell? ⟨b,off+k * 2,none⟩=some (.int .i64 x):=by rw [hb.cell (p:=⟨b,off+k * 2,none⟩) hlt];exact (hc k x y hp).1
   have hc2:wr.cell? ⟨b,off+k * 2+1,none⟩=some (.int .i64 y):=by rw [hb.cell (p:=⟨b,off+k * 2+1,none⟩) hlt];exact (hc k x y hp).2
   have hxy:=hok _ hm
   clear hc hok hp hm
   have Hxy:=(show Hid (okLine x y=true) from hxy)
   clear hxy
   go_wp2_with (go_at_call 55;refine (isLine_yes x y _ Hxy.out).mono ?_;rintro e w' ⟨rfl,rfl⟩)
   have hs:=hb.size
   go_roundw
   case rel=>exact ⟨k+1,by omega,by go_num,(hb.alloc hs _).alloc (by simp;omega) _⟩
   case measure=>simp [intOf];omega
  ·
   go_wp2
   go_ret
   exact ⟨rfl,hb⟩
theorem check_shape (a:Option Addr) (n cap:Nat) (w:World) (vS:Value) (hS:w.cell? ⟨1,0,none⟩=some vS) (hm:n ≤ maxLen) (h:n < 1 ∨ 6 < n) :
  Calls Tryd.prog 28 #[.slice a n cap] w fun e w'=>e=.returned vS ∧ w'=w:=by
 unfold maxLen at hm
 rcases h with h | h
 ·
  obtain rfl:n=0:=by omega
  go_enter Tryd.func28,Tryd.ntmps28
  go_wp2
  go_ret
  exact ⟨rfl,rfl⟩
 ·
  have h1:¬ n < 1:=by omega
  go_enter Tryd.func28,Tryd.ntmps28
  go_wp2
  go_ret
  exact ⟨rfl,rfl⟩
theorem check_bad (a:Option Addr) (cap:Nat) (ls:List (Int × Int)) (w:World) (aB:Addr) (hB:w.cell? ⟨2,0,none⟩=some (.iface 139 (.pointer (some aB)))) (hl:Lies w a ls) (h1:1 ≤ ls.length) (h6:ls.length ≤ 6)
  (j:Nat) (hj:j < ls.length) (hok:∀ i x y,i < j → ls[i]? = some (x,y) → okLine x y=true) (hbad:∀ x y,ls[j]? = some (x,y) → okLine x y=false) :
  Calls Tryd.prog 28 #[.slice a ls.length cap] w fun e w'=>Below w.heap.size w w' ∧ ∃ B,e=.returned (.iface 77 (.pointer (some ⟨B,0,none⟩))) ∧ w.heap.size ≤ B ∧ B < w'.heap.size ∧ w'.cell? ⟨B,0,none⟩=some (.int .i64 j) ∧ w'.cell? ⟨B,1,none⟩=some (.iface 139 (.pointer (some aB))):=by
 obtain ⟨b,off,rfl,hlt,hc⟩:=hl.some h1
 clear hl
 generalize hn:ls.length=n at *
 have Hn:=(show Hid (ls.length=n) from hn)
 clear hn
 go_enter Tryd.func28,Tryd.ntmps28
 go_wp2
 go_loopw [16] (fun i wr=>∃ k:Nat,k ≤ j ∧ i=.int .i64 k ∧ Below w.heap.size w wr) (fun i _=>n - (intOf i).toNat)
 case atStart=>exact ⟨0,Nat.zero_le _,rfl,Below.refl _ _⟩
 case round=>
  obtain ⟨k,hk,rfl,hb⟩:=hrel
  have hs:=hb.size
  have hkn:k < n:=by omega
  obtain ⟨⟨x,y⟩,hp,hm⟩:=get_some ls k (by rw [Hn.out];exact hkn)
  have hc1:wr.cell? ⟨b,off+k * 2,none⟩=some (.int .i64 x):=by rw [hb.cell (p:=⟨b,off+k * 2,none⟩) hlt];exact (hc k x y hp).1
  have hc2:wr.cell? ⟨b,off+k * 2+1,none⟩=some (.int .i64 y):=by rw [hb.cell (p:=⟨b,off+k * 2+1,none⟩) hlt];exact (hc k x y hp).2
  have hgs:2 < w.heap.size:=by
   rcases Nat.lt_or_ge 2 w.heap.size with h | h
   · exact h
   · simp [World.cell?,Array.getElem?_eq_none h] at hB
  have hB2:wr.cell? ⟨2,0,none⟩=some (.iface 139 (.pointer (some aB))):=by rw [hb.cell (p:=⟨2,0,none⟩) hgs];exact hB
  by_cases hkj:k < j
  ·
   have Hxy:=(show Hid (okLine x y=true) from hok k x y hkj hp)
   clear hc hok hp hm hbad hB hB2
   go_wp2_with (go_at_call 55;refine (isLine_yes x y _ Hxy.out).mono ?_;rintro e w' ⟨rfl,rfl⟩)
   go_roundw
   case rel=>exact ⟨k+1,by omega,by go_num,(hb.alloc hs _).alloc (by simp;omega) _⟩
   case measure=>simp [intOf];omega
  ·
   obtain rfl:k=j:=by omega
   have Hxy:=(show Hid (okLine x y=false) from hbad x y hp)
   clear hc hok hp hm hbad hB
   have hB3:((wr.alloc (.cells #[.int .i64 x,.int .i64 y] 42)).alloc (.cells #[.int .i64 x,.int .i64 y] 42)).cell? ⟨2,0,none⟩=some (.iface 139 (.pointer (some aB))):=by
    rw [World.cell?_alloc_lt _ _ ⟨2,0,none⟩ (Nat.lt_of_lt_of_le hgs (by simp;omega)),World.cell?_alloc_lt _ _ ⟨2,0,none⟩ (Nat.lt_of_lt_of_le hgs hs)];exact hB2
   go_wp2_with (go_at_call 55;refine (isLine_no x y _ Hxy.out).mono ?_;rintro e w' ⟨rfl,rfl⟩)
   go_ret
   refine ⟨((hb.alloc hs _).alloc (by simp;omega) _).alloc (by simp;omega) _,_,rfl,?_,?_,?_,?_⟩
   · omega
   · simp
   · rw [World.cell?_alloc_at _ _ _ _ (by simp)];rfl
   · rw [World.cell?_alloc_at _ _ _ _ (by simp)];rfl
def cellsL (ls:List (Int × Int)):List Value:=ls.flatMap fun p=>[.int .i64 p.1,.int .i64 p.2]
theorem cellsL_cons (p:Int × Int) (r:List (Int × Int)):cellsL (p :: r)=.int .i64 p.1 :: .int .i64 p.2 :: cellsL r:=rfl
theorem cellsL_length (ls:List (Int × Int)):(cellsL ls).length=ls.length * 2:=by
 induction ls with
 | nil=>rfl
 | cons p r ih=>rw [cellsL_cons];simp [ih];omega
theorem cellsL_get (ls:List (Int × Int)):∀ i x y,ls[i]? = some (x,y) → (cellsL ls)[i * 2]? = some (.int .i64 x) ∧ (cellsL ls)[i * 2+1]? = some (.int .i64 y):=by
 induction ls with
 | nil=>intro i x y h;simp at h
 | cons p r ih=>
  intro i x y h
  rw [cellsL_cons]
  cases i with
  | zero=>simp at h;subst h;exact ⟨rfl,rfl⟩
  | succ i=>
   have:=ih i x y (by simpa using h)
   rw [show (i+1) * 2=i * 2+1+1 by omega]
   exact ⟨by simpa using this.1,by simpa using this.2⟩
theorem cellsL_at (ls:List (Int × Int)):∀ j u,(cellsL ls)[j]? = some u → ∃ i x y,ls[i]? = some (x,y) ∧ ((j=i * 2 ∧ u=.int .i64 x) ∨ (j=i * 2+1 ∧ u=.int .i64 y)):=by
 induction ls with
 | nil=>intro j u h;simp [cellsL] at h
 | cons p r ih=>
  intro j u h
  rw [cellsL_cons] at h
  match j,h with
  | 0,h=>exact ⟨0,p.1,p.2,rfl,.inl ⟨rfl,by simpa using h.symm⟩⟩
  | 1,h=>exact ⟨0,p.1,p.2,rfl,.inr ⟨rfl,by simpa using h.symm⟩⟩
  | j+2,h=>
   obtain ⟨i,x,y,hi,hj⟩:=ih j u (by simpa using h)
   exact ⟨i+1,x,y,by simpa using hi,by rcases hj with ⟨e,f⟩ | ⟨e,f⟩;exact .inl ⟨by omega,f⟩;exact .inr ⟨by omega,f⟩⟩
theorem cellsL_one (ls:List (Int × Int)):∀ u ∈ cellsL ls,u.oneCell'=true:=by
 intro u hu
 obtain ⟨j,hj⟩:=List.mem_iff_getElem?.1 hu
 obtain ⟨i,x,y,-,h⟩:=cellsL_at ls j u hj
 rcases h with ⟨-,rfl⟩ | ⟨-,rfl⟩ <;> rfl
def OwnL (w:World) (B:Nat) (v:Value) (ls:List (Int × Int)):Prop:=w.ownsRow B 42 2 v ls.length (cellsL ls)
theorem OwnL.open {w:World} {B:Nat} {v:Value} {ls:List (Int × Int)} (h:OwnL w B v ls) :
  ∃ a cap,v=.slice a ls.length cap ∧ ls.length ≤ cap ∧ cap ≤ maxLen ∧ Lies w a ls:=by
 obtain ⟨hlen,⟨rfl,h0⟩ | ⟨g,cap,cur,rfl,hB,hg,hn,hm,hc,ht⟩⟩:=h
 · refine ⟨none,0,by rw [h0],by omega,by simp [maxLen],.inl (List.length_eq_zero_iff.1 h0)⟩
 ·
  refine ⟨_,cap,rfl,hn,hm,.inr ⟨g,0,rfl,?_,fun i x y hi=>?_⟩⟩
  ·
   rcases Nat.lt_or_ge g w.heap.size with h | h
   · exact h
   · simp [Array.getElem?_eq_none h] at hg
  ·
   have hh:w.ownsRow B 42 2 (.slice (some ⟨g,0,none⟩) ls.length cap) ls.length (cellsL ls):=⟨hlen,.inr ⟨g,cap,cur,rfl,hB,hg,hn,hm,hc,ht⟩⟩
   have hil:i < ls.length:=by
    rcases Nat.lt_or_ge i ls.length with h | h
    · exact h
    · simp [List.getElem?_eq_none h] at hi
   have:=cellsL_get ls i x y hi
   rw [hh.cellAt _ (by omega),hh.cellAt _ (by omega),Nat.zero_add]
   exact this
theorem lies_news {w:World} {ad:Addr} {ls:List (Int × Int)} (h:Lies w (some ad) ls):∀ j u,(cellsL ls)[j]? = some u → w.cell? (ad.add j)=some u:=by
 intro j u hj
 obtain ⟨i,x,y,hi,hc⟩:=cellsL_at ls j u hj
 rcases h with rfl | ⟨b,off,e,-,h⟩
 · simp at hi
 ·
  cases e
  have:=h i x y hi
  rw [Addr.add_lit]
  rcases hc with ⟨rfl,rfl⟩ | ⟨rfl,rfl⟩
  · exact this.1
  · exact this.2
theorem Tryd.infoLine:(Tryd.prog.info? 42).map (fun i=>(i.zero,i.size,i.bytes))=some (some (.agg #[.int .i64 0,.int .i64 0]),2,16):=by kernel_rfl
theorem ownLines_any (a:Option Addr) (cap:Nat) (ls:List (Int × Int)) (w:World) (hl:Lies w a ls) (hn:ls.length ≤ 1000) (ha:a=none → ls=[] ∧ cap=0) :
  Calls Tryd.prog 5 #[.slice a ls.length cap] w fun e w'=>∃ v,e=.returned v ∧ OwnL w' w.heap.size v ls ∧ Below w.heap.size w w':=by
 obtain ⟨i0,hi,hz0,hz1,hz2⟩:=info_parts Tryd.infoLine
 cases a with
 | none=>
  obtain ⟨rfl,rfl⟩:=ha rfl
  show Calls Tryd.prog 5 #[.slice none 0 0] w _
  go_enter Tryd.func5,Tryd.ntmps5
  go_wp2
  go_ret
  exact ⟨_,rfl,World.ownsRow_nil _ _ _ _,Below.refl _ _⟩
 | some ad=>
  have hnews:=lies_news hl
  have hlen:=cellsL_length ls
  have hone:=cellsL_one ls
  have H1:Hid (∀ j u,(cellsL ls)[j]? = some u → w.cell? (ad.add j)=some u):=hnews
  have H2:Hid ((cellsL ls).length=ls.length * 2):=hlen
  have H3:Hid (∀ u ∈ cellsL ls,u.oneCell'=true):=hone
  have HL:Hid (Lies w (some ad) ls):=hl
  clear hnews hlen hone hl ha
  go_enter Tryd.func5,Tryd.ntmps5
  go_wp2_with (at_builtin;refine wpList_append_own _ rfl _ _ 24 rfl w.heap.size 42 i0 (.agg #[.int .i64 0,.int .i64 0]) 2 16 Tryd.underlying24 hi hz0 hz1 hz2 rfl (by decide) (.slice none 0 0) 0 [] rfl (World.ownsRow_nil _ _ _ _) ad ls.length cap (cellsL ls) rfl H2.out H1.out H3.out (by unfold maxLen;omega) (by omega) (Nat.le_refl _) ?_;intro v' w3 hown' hgrow3 hnil3)
  go_ret
  refine ⟨_,rfl,by simpa [OwnL] using hown',?_⟩
  exact (Below.refl _ _).grown hgrow3 (Nat.le_refl _) (fun k hk=>by cases hk)
end Go.Proofs.YtbokomeejmnnoaaDoor
