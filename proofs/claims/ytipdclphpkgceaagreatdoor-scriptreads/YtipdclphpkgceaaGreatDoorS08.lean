/- Own facts, put together: no statement of its own. -/
import Derived.Test.YtipdclphpkgceaaGreatDoorS07
import Derived.Test.YtipdclphpkgceaaGreatDoorS05
import Derived.Deep.LoopGhost
import Derived.Test.YtipdclphpkgceaaGreatDoorS01
import Derived.Test.YtipdclphpkgceaaGreatDoorS04
import Derived.Test.YtipdclphpkgceaaGreatDoorS03
import Derived.Test.YtipdclphpkgceaaGreatDoorS02
set_option maxHeartbeats 400000

namespace Go.Proofs.YtipdclphpkgceaaGreatDoor
section
variable {ps:List Pk} {ws:List Int} {per:Int}
theorem fair_law (hw:WtsOk ws) (ho:OkPks ps) (hper:1 ≤ per):QueLaw (fairQ ps ws) per ps fair0 where
 none:=rfl
 come:=fun s _ _=>by
  show (s.q.q ++ [s.next]).length=_
  simp [fairQ]
 left:=fun s hr h0=>by
  obtain ⟨H,r⟩:=fair_run hw ho hper hr
  obtain ⟨l1,-⟩:=least_first (tag:=s.q.tag) (q:=s.q.q) h0
  exact filter_erase r.state.nodup l1
 pick:=fun s hr h0=>by
  obtain ⟨H,r⟩:=fair_run hw ho hper hr
  obtain ⟨l1,-⟩:=least_first (tag:=s.q.tag) (q:=s.q.q) h0
  exact (r.only _ l1).1
 idle:=fun s _ h=>h
theorem fair_tags (hw:WtsOk ws) (ho:OkPks ps) {s:St FQ} (h:Reaches (fairQ ps ws) per ps fair0 s):(0 ≤ s.q.v ∧ s.q.v ≤ 18000 * (s.next:Int)) ∧ (∀ f,0 ≤ s.q.last f ∧ s.q.last f ≤ 18000 * (s.next:Int)) ∧ ∀ k,0 ≤ s.q.tag k ∧ s.q.tag k ≤ 18000 * (s.next:Int):=by
 refine h.by_steps (C:=fun s:St FQ=>(0 ≤ s.q.v ∧ s.q.v ≤ 18000 * (s.next:Int)) ∧ (∀ f,0 ≤ s.q.last f ∧ s.q.last f ≤ 18000 * (s.next:Int)) ∧ ∀ k,0 ≤ s.q.tag k ∧ s.q.tag k ≤ 18000 * (s.next:Int)) ⟨⟨Int.le_refl _,Int.le_refl _⟩,fun _=>⟨Int.le_refl _,Int.le_refl _⟩,fun _=>⟨Int.le_refl _,Int.le_refl _⟩⟩ ?_ ?_ ?_
 ·
  rintro s p hs hp ht ⟨⟨a1,a2⟩,b,c⟩
  obtain ⟨i1,i2⟩:=incOf_in hw ho s.next
  obtain ⟨f1,f2⟩:=b (flowOf ps s.next)
  refine ⟨⟨a1,?_⟩,fun f=>?_,fun k=>?_⟩
  ·
   show s.q.v ≤ _
   simp only
   omega
  ·
   show 0 ≤ put1 s.q.last (flowOf ps s.next) (max s.q.v (s.q.last (flowOf ps s.next))+incOf ps ws s.next) f ∧ put1 s.q.last (flowOf ps s.next) (max s.q.v (s.q.last (flowOf ps s.next))+incOf ps ws s.next) f ≤ 18000 * ((s.next+1:Nat):Int)
   by_cases e:f=flowOf ps s.next
   ·
    rw [e,put1_same]
    omega
   ·
    rw [put1_other _ _ e]
    have:=b f
    omega
  ·
   show 0 ≤ put1 s.q.tag s.next (max s.q.v (s.q.last (flowOf ps s.next))+incOf ps ws s.next) k ∧ put1 s.q.tag s.next (max s.q.v (s.q.last (flowOf ps s.next))+incOf ps ws s.next) k ≤ 18000 * ((s.next+1:Nat):Int)
   by_cases e:k=s.next
   ·
    rw [e,put1_same]
    omega
   ·
    rw [put1_other _ _ e]
    have:=c k
    omega
 ·
  rintro s p hs hall h0 hp ⟨a,b,c⟩
  exact ⟨c _,b,c⟩
 ·
  rintro s p hs hp ht h0 ⟨a,b,c⟩
  exact ⟨⟨Int.le_refl _,by simp only [fairQ,FQ.rests];omega⟩,fun f=>⟨Int.le_refl _,by simp only [fairQ,FQ.rests];omega⟩,c⟩
end
def FairSent (per:Int) (ps:List Pk) (ws:List Int) (l:List Sn) (ts:List Int):Prop:=∃ s,Reaches (fairQ ps ws) per ps fair0 s ∧ ¬ s.next < ps.length ∧ (fairQ ps ws).rest s.q=0 ∧ s.out=l ∧ (List.range ps.length).map s.q.tag=ts
theorem FairSent.same {per:Int} {ps:List Pk} {ws:List Int} {l m:List Sn} {ts us:List Int} (h:FairSent per ps ws l ts) (k:FairSent per ps ws m us):l=m ∧ ts=us:=by
 obtain ⟨s,h1,h2,h3,rfl,rfl⟩:=h
 obtain ⟨t,k1,k2,k3,rfl,rfl⟩:=k
 rw [reaches_same h1 k1 h2 h3 k2 k3]
 exact ⟨rfl,rfl⟩
section
variable {per:Int} {ps:List Pk} {ws:List Int} {l:List Sn} {ts:List Int}
theorem FairSent.length (hw:WtsOk ws) (ho:OkPks ps) (hper:1 ≤ per) (h:FairSent per ps ws l ts):l.length=ps.length ∧ ts.length=ps.length:=by
 obtain ⟨s,h1,h2,h3,rfl,rfl⟩:=h
 have:=h1.count (fair_law hw ho hper)
 have:=h1.next_le
 exact ⟨by omega,by simp⟩
end
structure FoIn (per:Int) (ps:List Pk) (ws:List Int) (s0 s:St FQ) (i:Nat) (first best:Int):Prop where
 reach:Reaches (fairQ ps ws) per ps fair0 s
 from_:Reaches (fairQ ps ws) per ps fair0 s0
 out:s.out=s0.out
 now:s.now=s0.now
 seen:∀ j,j < i → tickOf ps j ≤ s.now → j < s.next
 first:(first = -1 ∧ ∀ j,j < i → isDone s.out j=true) ∨ ∃ f:Nat,first=f ∧ f < i ∧ isDone s.out f=false ∧ ∀ j,j < f → isDone s.out j=true
 best:(best = -1 ∧ ∀ j,j < i → j ∉ s.q.q) ∨ ∃ b:Nat,best=b ∧ b < i ∧ b ∈ s.q.q ∧ ∀ j,j < i → j ∈ s.q.q → s.q.tag b < s.q.tag j ∨ (s.q.tag b=s.q.tag j ∧ b ≤ j)
section
variable {per:Int} {ps:List Pk} {ws:List Int} {s0 s:St FQ} {i:Nat} {first best:Int}
theorem FoIn.one (hw:WtsOk ws) (ho:OkPks ps) (hper:1 ≤ per) (h:FoIn per ps ws s0 s ps.length first best) (hb:¬ best < 0) :
  ∃ (b:Nat) (p:Pk),best=b ∧ ps[b]? = some p ∧ isDone s.out b=false ∧ Reaches (fairQ ps ws) per ps fair0 ⟨s.out ++ [⟨(b:Nat),s.now,s.now+per * p.size⟩],s.now+per * p.size,s.next,s.q.left b⟩:=by
 obtain ⟨H,r⟩:=fair_run hw ho hper h.reach
 rcases h.best with ⟨b1,-⟩ | ⟨b,b1,b2,b3,b4⟩
 · omega
 ·
  have hlen:0 < s.q.q.length:=List.length_pos_of_mem b3
  have hpl:=pickAt_lt s.q.tag hlen
  obtain ⟨l1,l2⟩:=least_first (tag:=s.q.tag) (q:=s.q.q) hlen
  obtain ⟨k,hk⟩:∃ k,k=(fairQ ps ws).pick s.q:=⟨_,rfl⟩
  have hkd:s.q.q.getD (pickAt s.q.tag s.q.q) 0=k:=hk.symm
  have hkb:k=b:=by
   have hkm:k ∈ s.q.q:=by rw [← hkd];exact l1
   have c1:=b4 k (by have:=(r.only k hkm).1;have:=r.le;omega) hkm
   obtain ⟨j,hj,ej⟩:=List.getElem_of_mem b3
   have c2:=firstLeast_min s.q.tag s.q.q s.q.q.length j hj
   have e2:firstLeast s.q.tag s.q.q s.q.q.length=pickAt s.q.tag s.q.q:=rfl
   rw [e2,hkd,getD_lt (d:=0) hj,ej] at c2
   have hkb:k ≤ b ∨ s.q.tag k < s.q.tag b:=by
    rcases c2 with c2 | ⟨-,c2⟩
    · exact .inr c2
    ·
     refine .inl ?_
     rw [← hkd,getD_lt (d:=0) hpl,← ej]
     rcases Nat.lt_or_eq_of_le c2 with c3 | c3
     · exact Nat.le_of_lt (List.pairwise_iff_getElem.1 r.rises _ _ hpl hj c3)
     · simp only [c3];exact Nat.le_refl _
   omega
  have hlt:b < ps.length:=b2
  have e:ps[b]? = some ps[b]:=List.getElem?_eq_getElem hlt
  refine ⟨b,_,b1,e,(r.only b b3).2,?_⟩
  have:=Reaches.send s ps[b] h.reach (fun q hq=>by
   rcases Int.lt_or_le s.now q.tick with h' | h'
   · exact h'
   ·
    have:=h.seen s.next (lt_of_get hq) (by rw [tickOf_get hq];exact h')
    omega) hlen (by rw [← hk,hkb];exact e)
  have hleft:(fairQ ps ws).left s.q=s.q.left b:=by rw [← hkb,← hkd];rfl
  rw [← hk,hkb,hleft] at this
  exact this
end
structure MayLaw {σ:Type} (Q:Que σ) (per:Int) (ps:List Pk) (q0:σ):Prop where
 law:QueLaw Q per ps q0
 pick:∀ s,Reaches Q per ps q0 s → 0 < Q.rest s.q → isDone s.out (Q.pick s.q)=false ∧ ∀ j,j < Q.pick s.q → flowOf ps j=flowOf ps (Q.pick s.q) → isDone s.out j=true
 none:∀ s,Reaches Q per ps q0 s → Q.rest s.q=0 → ∀ i,i < s.next → isDone s.out i=true
structure MayRun {σ:Type} (per:Int) (ps:List Pk) (s:St σ):Prop where
 conv:Conv per ps s.out
 turns:Turns ps s.out
 gone:∀ i:Nat,isDone s.out i=true → i < s.next
 came:∀ i,i < s.next → tickOf ps i ≤ s.now
 now:s.now=lastFin s.out ∨ ((∀ i,Undone ps.length s.out i → lastFin s.out < tickOf ps i) ∧ ∃ i,Undone ps.length s.out i ∧ s.now=tickOf ps i ∧ ∀ k,Undone ps.length s.out k → tickOf ps i ≤ tickOf ps k)
theorem may_run {σ:Type} {Q:Que σ} {per:Int} {ps:List Pk} {q0:σ} {s:St σ} (hQ:MayLaw Q per ps q0) (hper:0 ≤ per) (ho:OkPks ps) (h:Reaches Q per ps q0 s):MayRun per ps s:=by
 refine h.by_steps (C:=fun s=>MayRun per ps s) ⟨fun k x hx=>by simp at hx,fun k x hx=>by simp at hx,(fun i hi=>by simp [isDone] at hi),fun i hi=>absurd hi (Nat.not_lt_zero _),.inl rfl⟩ ?_ ?_ ?_
 ·
  rintro s p hs hp ht r
  refine ⟨r.conv,r.turns,fun i hi=>Nat.lt_succ_of_lt (r.gone i hi),fun i hi=>?_,r.now⟩
  rcases Nat.lt_or_ge i s.next with h' | h'
  · exact r.came i h'
  ·
   obtain rfl:i=s.next:=by simp only at hi;omega
   rw [tickOf_get hp];exact ht
 ·
  rintro s p hs hall h0 hp r
  obtain ⟨p1,p2⟩:=hQ.pick s hs h0
  have p3:=hQ.law.pick s hs h0
  obtain ⟨k,hk⟩:∃ k,k=Q.pick s.q:=⟨_,rfl⟩
  rw [← hk] at p1 p2 p3 hp ⊢
  have hu:Undone ps.length s.out k:=undone_iff.2 ⟨lt_of_get hp,p1⟩
  have hc:=r.came k p3
  have htick:Tick ps s.out s.now:=by
   rcases r.now with e | e
   · exact .inl ⟨e,k,hu,hc⟩
   · exact .inr e
  obtain ⟨-,-,z1,-,-,-⟩:=okPk_true (ho.each _ p hp).1
  have a1:0 ≤ per * p.size:=Int.mul_nonneg hper (by omega)
  have htake:∀ (i:Nat),i ≤ s.out.length → (s.out ++ [(⟨(k:Nat),s.now,s.now+per * p.size⟩:Sn)]).take i=s.out.take i:=fun i hi=>List.take_append_of_le_length hi
  refine ⟨fun i x hx=>?_,fun i x hx j hj hf=>?_,fun i hi=>?_,fun i hi=>?_,.inl (by rw [lastFin_snoc])⟩
  ·
   rcases snoc_get hx with ⟨h',hx⟩ | ⟨rfl,rfl⟩
   ·
    simp only [htake i (by omega)]
    exact r.conv i x hx
   ·
    simp only [htake _ (Nat.le_refl _),List.take_length]
    exact ⟨s.now,k,htick,hu,hc,by rw [bytesOf_get hp]⟩
  ·
   rcases snoc_get hx with ⟨h',hx⟩ | ⟨rfl,rfl⟩
   ·
    simp only [htake i (by omega)]
    exact r.turns i x hx j hj hf
   ·
    simp only [htake _ (Nat.le_refl _),List.take_length]
    simp only [Int.toNat_natCast] at hj hf
    intro hu'
    have:=p2 j hj hf
    rw [(undone_iff.1 hu').2] at this
    cases this
  ·
   rw [isDone_snoc,Bool.or_eq_true] at hi
   show i < s.next
   rcases hi with hi | hi
   · exact r.gone i hi
   ·
    have:=beq_iff_eq.1 hi
    omega
  ·
   have:=r.came i hi
   simp only
   omega
 ·
  rintro s p hs hp ht h0 r
  have hge:∀ i,Undone ps.length s.out i → s.next ≤ i:=fun i hi=>by
   rcases Nat.lt_or_ge i s.next with h' | h'
   ·
    have:=hQ.none s hs h0 i h'
    rw [(undone_iff.1 hi).2] at this
    cases this
   · exact h'
  have hmin:∀ i,Undone ps.length s.out i → p.tick ≤ tickOf ps i:=fun i hi=>by
   have:=ticks_le ho (hge i hi) (undone_iff.1 hi).1
   rwa [tickOf_get hp] at this
  have hnow:s.now=lastFin s.out:=by
   rcases r.now with e | ⟨-,i,hi,e,-⟩
   · exact e
   ·
    have:=hmin i hi
    omega
  have hund:Undone ps.length s.out s.next:=by
   refine undone_iff.2 ⟨lt_of_get hp,?_⟩
   cases hd:isDone s.out s.next with
   | false=>rfl
   | true=>have:=r.gone _ hd;omega
  refine ⟨r.conv,r.turns,r.gone,fun i hi=>?_,.inr ⟨fun i hi=>?_,s.next,hund,(tickOf_get hp).symm,fun k hk=>?_⟩⟩
  ·
   have:=r.came i hi
   simp only
   omega
  ·
   have:=hmin i hi
   show lastFin s.out < _
   omega
  ·
   rw [tickOf_get hp]
   exact hmin k hk
section
variable {ps:List Pk} {ws ns:List Int} {per:Int} {l:List Sn} {ts:List Int}
theorem fair_may (hw:WtsOk ws) (ho:OkPks ps) (hper:1 ≤ per):MayLaw (fairQ ps ws) per ps fair0 where
 law:=fair_law hw ho hper
 pick:=fun s hs h0=>by
  obtain ⟨H,r⟩:=fair_run hw ho hper hs
  obtain ⟨l1,l2⟩:=least_first (tag:=s.q.tag) (q:=s.q.q) h0
  obtain ⟨k,hk⟩:∃ k,k=(fairQ ps ws).pick s.q:=⟨_,rfl⟩
  have hkd:s.q.q.getD (pickAt s.q.tag s.q.q) 0=k:=hk.symm
  rw [hkd] at l1 l2
  rw [← hk]
  refine ⟨(r.only k l1).2,fun j hj hf=>?_⟩
  cases hd:isDone s.out j with
  | true=>rfl
  | false=>
   have hm:=r.wait j (by have:=(r.only k l1).1;omega) hd
   obtain ⟨t,ht⟩:=least_head r.state (fun i _=>(incOf_in hw ho i).1) ⟨l1,l2⟩
   have hp:(s.q.of (flowOf ps) (flowOf ps k)).Pairwise (· < ·):=r.rises.filter _
   have hjm:j ∈ s.q.of (flowOf ps) (flowOf ps k):=mem_of.2 ⟨hm,hf⟩
   rw [ht] at hp hjm
   rcases List.mem_cons.1 hjm with e | hjm
   · omega
   ·
    have:=(List.pairwise_cons.1 hp).1 j hjm
    omega
 none:=fun s hs h0 i hi=>by
  obtain ⟨H,r⟩:=fair_run hw ho hper hs
  have hq:s.q.q=[]:=List.length_eq_zero_iff.1 h0
  cases hd:isDone s.out i with
  | true=>rfl
  | false=>
   have:=r.wait i hi hd
   rw [hq] at this
   cases this
theorem FairSent.may (hw:WtsOk ws) (ho:OkPks ps) (hper:1 ≤ per) (h:FairSent per ps ws l ts):Conv per ps l ∧ Turns ps l ∧ l.length=ps.length:=by
 have hl:=(h.length hw ho hper).1
 obtain ⟨s,h1,h2,h3,rfl,rfl⟩:=h
 have r:=may_run (fair_may hw ho hper) (by omega) ho h1
 exact ⟨r.conv,r.turns,hl⟩
theorem turns_may (ho:OkPks ps) (hq:∀ f,1 ≤ quOf ns f) (hper:1 ≤ per):MayLaw (turnsQ ps ns) per ps turns0 where
 law:=turns_law ho hq
 pick:=fun s hs h0=>by
  obtain ⟨H,r⟩:=turns_run (M:=1500) ho hq (by omega) (fun k=>(sizeAt_in ho k).2) hs
  obtain ⟨k,e,hx,e1,e2,f,t,c,sa⟩:=r.good.picks hq h0
  obtain ⟨-,hl⟩:=turns_lists ho hq hper hs
  rw [e1]
  have hhead:s.q.d.qs f=k :: t:=by rw [← sa.same];exact sa.head
  have hkm:k ∈ s.q.d.qs f:=by rw [hhead];exact List.mem_cons_self ..
  have hkf:flowOf ps k=f:=(r.state.size f k hkm).1
  refine ⟨(r.only f k hkm).2,fun j hj hf=>?_⟩
  cases hd:isDone s.out j with
  | true=>rfl
  | false=>
   have hm:=r.wait j (by have:=(r.only f k hkm).1;omega) hd
   rw [hf,hkf] at hm
   have hp:(s.q.d.qs f).Pairwise (· < ·):=by
    rw [hl f]
    exact List.pairwise_lt_range.filter _
   rw [hhead] at hp hm
   rcases List.mem_cons.1 hm with e | hm
   · omega
   ·
    have:=(List.pairwise_cons.1 hp).1 j hm
    omega
 none:=fun s hs h0 i hi=>by
  obtain ⟨H,r⟩:=turns_run (M:=1500) ho hq (by omega) (fun k=>(sizeAt_in ho k).2) hs
  cases hd:isDone s.out i with
  | true=>rfl
  | false=>
   have hm:=r.wait i hi hd
   have hz:=r.good.line.1 h0
   have:=(r.state.active (flowOf ps i)).2 (by intro e;rw [e] at hm;cases hm)
   rw [hz] at this
   cases this
theorem RoundSent.may (ho:OkPks ps) (hq:∀ f,1 ≤ quOf ns f) (hper:1 ≤ per) (h:RoundSent per ps ns l):Conv per ps l ∧ Turns ps l ∧ l.length=ps.length:=by
 have hl:=h.length ho hq
 obtain ⟨s,h1,h2,h3,rfl⟩:=h
 have r:=may_run (turns_may ho hq hper) (by omega) ho h1
 exact ⟨r.conv,r.turns,hl⟩
end
end Go.Proofs.YtipdclphpkgceaaGreatDoor

namespace Go.Proofs.YtipdclphpkgceaaGreatDoor
open Go.RowKit
structure NumsOk (lo hi:Int) (ns:List Int):Prop where
 len:ns.length=8
 each:∀ (i:Nat) x,ns[i]? = some x → lo ≤ x ∧ x ≤ hi
def NumBad (lo hi:Int) (ns:List Int) (j:Nat):Prop:=ns.length=8 ∧ (∃ x,ns[j]? = some x ∧ ¬ (lo ≤ x ∧ x ≤ hi)) ∧ ∀ (i:Nat) y,i < j → ns[i]? = some y → lo ≤ y ∧ y ≤ hi
def NumsFault (lo hi:Int) (ns:List Int) (c:Nat):Prop:=(c=3 ∧ ns.length ≠ 8) ∨ (c=2 ∧ ∃ j,NumBad lo hi ns j) ∨ (c=0 ∧ NumsOk lo hi ns)
theorem numsFault_is (lo hi:Int) (ns:List Int):∃ c,NumsFault lo hi ns c:=by
 by_cases hl:ns.length=8
 ·
  have key:∀ k,k ≤ ns.length → (∀ (i:Nat) y,i < k → ns[i]? = some y → lo ≤ y ∧ y ≤ hi) ∨ ∃ j,NumBad lo hi ns j:=by
   intro k
   induction k with
   | zero=>intro _;exact .inl fun i y h=>by omega
   | succ k ih=>
    intro hk
    rcases ih (by omega) with h | h
    ·
     obtain ⟨x,hx,-⟩:=get_some ns k (by omega)
     by_cases hb:lo ≤ x ∧ x ≤ hi
     ·
      refine .inl fun i y hi' hy=>?_
      rcases Nat.lt_or_ge i k with h' | h'
      · exact h i y h' hy
      ·
       obtain rfl:i=k:=by omega
       obtain rfl:=Option.some.inj (hx.symm.trans hy)
       exact hb
     · exact .inr ⟨k,hl,⟨x,hx,hb⟩,h⟩
    · exact .inr h
  rcases key ns.length (Nat.le_refl _) with h | h
  ·
   exact ⟨0,.inr (.inr ⟨rfl,hl,fun i x hx=>h i x (by
    rcases Nat.lt_or_ge i ns.length with h' | h'
    · exact h'
    · simp [List.getElem?_eq_none h'] at hx) hx⟩)⟩
  · exact ⟨2,.inr (.inl ⟨rfl,h⟩)⟩
 · exact ⟨3,.inl ⟨rfl,hl⟩⟩
end Go.Proofs.YtipdclphpkgceaaGreatDoor

namespace Go.Proofs.YtipdclphpkgceaaGreatDoor
def isWt (x:Int):Prop:=1 ≤ x ∧ 12 % x=0
theorem isWt_le {x:Int} (h:isWt x):x ≤ 12:=Int.le_of_dvd (by decide) (Int.dvd_of_emod_eq_zero h.2)
structure WtsAll (ns:List Int):Prop where
 len:ns.length=8
 each:∀ (i:Nat) x,ns[i]? = some x → isWt x
def WtBad (ns:List Int) (j:Nat):Prop:=ns.length=8 ∧ (∃ x,ns[j]? = some x ∧ ¬ isWt x) ∧ ∀ (i:Nat) y,i < j → ns[i]? = some y → isWt y
def WtsFault (ns:List Int) (c:Nat):Prop:=(c=3 ∧ ns.length ≠ 8) ∨ (c=2 ∧ ∃ j,WtBad ns j) ∨ (c=0 ∧ WtsAll ns)
theorem wtsFault_is (ns:List Int):∃ c,WtsFault ns c:=by
 by_cases hl:ns.length=8
 ·
  have key:∀ k,k ≤ ns.length → (∀ (i:Nat) y,i < k → ns[i]? = some y → isWt y) ∨ ∃ j,WtBad ns j:=by
   intro k
   induction k with
   | zero=>intro _;exact .inl fun i y h=>by omega
   | succ k ih=>
    intro hk
    rcases ih (by omega) with h | h
    ·
     obtain ⟨x,hx,-⟩:=get_some ns k (by omega)
     by_cases hb:isWt x
     ·
      refine .inl fun i y hi' hy=>?_
      rcases Nat.lt_or_ge i k with h' | h'
      · exact h i y h' hy
      ·
       obtain rfl:i=k:=by omega
       obtain rfl:=Option.some.inj (hx.symm.trans hy)
       exact hb
     · exact .inr ⟨k,hl,⟨x,hx,hb⟩,h⟩
    · exact .inr h
  rcases key ns.length (Nat.le_refl _) with h | h
  · exact ⟨0,.inr (.inr ⟨rfl,hl,fun i x hx=>h i x (lt_of_get hx) hx⟩)⟩
  · exact ⟨2,.inr (.inl ⟨rfl,h⟩)⟩
 · exact ⟨3,.inl ⟨rfl,hl⟩⟩
theorem WtsAll.ok {ns:List Int} (h:WtsAll ns):WtsOk ns:=fun f=>by
 cases hf:ns[f]? with
 | some x=>
  rw [quOf_get hf]
  have:=h.each f x hf
  exact ⟨this.1,Int.ediv_mul_cancel (Int.dvd_of_emod_eq_zero this.2)⟩
 | none=>
  have:quOf ns f=1:=by simp [quOf,hf]
  rw [this]
  exact ⟨Int.le_refl _,by decide⟩
theorem inc_tdiv {x z:Int} (h:isWt x) (hz:0 ≤ z):(z * 12).tdiv x=z * (12 / x):=by
 have hd:=Int.dvd_of_emod_eq_zero h.2
 rw [Int.tdiv_eq_ediv_of_nonneg (by omega),Int.mul_ediv_assoc _ hd]
theorem erase_filter:∀ (q:List Nat) (i:Nat),q.Nodup → i < q.length → q.eraseIdx i=q.filter fun j=>j != q.getD i 0
 | [],i,_,h=>absurd h (Nat.not_lt_zero _)
 | a :: q,0,hn,_=>by
  obtain ⟨h1,-⟩:=List.nodup_cons.1 hn
  have e:(a :: q).getD 0 0=a:=rfl
  rw [e,List.filter_cons,if_neg (by simp)]
  refine (List.filter_eq_self.2 fun j hj=>?_).symm
  have:j ≠ a:=fun e=>h1 (by rw [← e];exact hj)
  simp [this]
 | a :: q,i+1,hn,h=>by
  obtain ⟨h1,h2⟩:=List.nodup_cons.1 hn
  have hi:i < q.length:=by simpa using h
  have e:(a :: q).getD (i+1) 0=q.getD i 0:=by simp [List.getD]
  have hne:a ≠ q.getD i 0:=fun e'=>h1 (by rw [e',getD_lt hi];exact List.getElem_mem hi)
  rw [e,List.filter_cons,if_pos (bne_iff_ne.2 hne),← erase_filter q i h2 hi]
  rfl
end Go.Proofs.YtipdclphpkgceaaGreatDoor

namespace Go.Proofs.YtipdclphpkgceaaGreatDoor
open Go.RowKit
def FaultIs (ls:List (Int × Int)) (c a:Int):Prop:=
 ((ls.length < 1 ∨ 6 < ls.length) ∧ c=3 ∧ a = -1) ∨
 (1 ≤ ls.length ∧ ls.length ≤ 6 ∧ ∃ j:Nat,j < ls.length ∧ (∀ i x y,i < j → ls[i]? = some (x,y) → okLine x y=true) ∧ (∀ x y,ls[j]? = some (x,y) → okLine x y=false) ∧ c=2 ∧ a=j) ∨
 (okCurve ls ∧ c=0 ∧ a = -1)
theorem fault_is (ls:List (Int × Int)):∃ c a,FaultIs ls c a:=by
 by_cases hs:ls.length < 1 ∨ 6 < ls.length
 · exact ⟨3,-1,.inl ⟨hs,rfl,rfl⟩⟩
 ·
  rcases firstBad ls with h | ⟨j,hj,h1,h2⟩
  · exact ⟨0,-1,.inr (.inr ⟨⟨by omega,by omega,h⟩,rfl,rfl⟩)⟩
  · exact ⟨2,j,.inr (.inl ⟨by omega,by omega,j,hj,h1,h2,rfl,rfl⟩)⟩
theorem FaultIs.ok {ls:List (Int × Int)} {a:Int} (h:FaultIs ls 0 a):okCurve ls ∧ a = -1:=by
 rcases h with ⟨_,h,_⟩ | ⟨_,_,_,_,_,_,h,_⟩ | ⟨h,_,h'⟩
 · omega
 · omega
 · exact ⟨h,h'⟩
theorem FaultIs.num {ls:List (Int × Int)} {c a:Int} (h:FaultIs ls c a):c=0 ∨ c=2 ∨ c=3:=by
 rcases h with ⟨_,h,_⟩ | ⟨_,_,_,_,_,_,h,_⟩ | ⟨_,h,_⟩ <;> omega
def LiesP (w:World) (a:Option Addr) (ps:List Pk):Prop:=
 ps=[] ∨ ∃ b off,a=some ⟨b,off,none⟩ ∧ b < w.heap.size ∧ ∀ (i:Nat) p,ps[i]? = some p → w.cell? ⟨b,off+i * 3,none⟩=some (.int .i64 p.flow) ∧ w.cell? ⟨b,off+i * 3+1,none⟩=some (.int .i64 p.size) ∧ w.cell? ⟨b,off+i * 3+2,none⟩=some (.int .i64 p.tick)
theorem LiesP.place {w:World} {a:Option Addr} {ps:List Pk} (h:LiesP w a ps) (h1:1 ≤ ps.length) :
  ∃ b off,a=some ⟨b,off,none⟩ ∧ b < w.heap.size ∧ ∀ (i:Nat) p,ps[i]? = some p → w.cell? ⟨b,off+i * 3,none⟩=some (.int .i64 p.flow) ∧ w.cell? ⟨b,off+i * 3+1,none⟩=some (.int .i64 p.size) ∧ w.cell? ⟨b,off+i * 3+2,none⟩=some (.int .i64 p.tick):=by
 rcases h with rfl | h
 · simp at h1
 · exact h
theorem LiesP.but {S:Nat → Prop} {w w':World} {a:Option Addr} {ps:List Pk} (h:LiesP w a ps) (hb:But S w w') (hs:∀ ad,a=some ad → ¬ S ad.block):LiesP w' a ps:=by
 rcases h with rfl | ⟨b,off,rfl,hlt,hc⟩
 · exact .inl rfl
 ·
  have hn:¬ S b:=hs _ rfl
  refine .inr ⟨b,off,rfl,Nat.lt_of_lt_of_le hlt hb.size,fun i p hi=>?_⟩
  have:=hc i p hi
  exact ⟨by rw [hb.cell (p:=⟨b,off+i * 3,none⟩) hlt hn];exact this.1,by rw [hb.cell (p:=⟨b,off+i * 3+1,none⟩) hlt hn];exact this.2.1,by rw [hb.cell (p:=⟨b,off+i * 3+2,none⟩) hlt hn];exact this.2.2⟩
theorem LiesP.below {w w':World} {a:Option Addr} {ps:List Pk} (h:LiesP w a ps) (hb:Below w.heap.size w w'):LiesP w' a ps:=
 h.but (S:=fun _=>False) (.ofBelow hb) (fun _ _ h=>h)
def cellsP (ps:List Pk):List Value:=ps.flatMap fun p=>[.int .i64 p.flow,.int .i64 p.size,.int .i64 p.tick]
theorem cellsP_cons (p:Pk) (r:List Pk):cellsP (p :: r)=.int .i64 p.flow :: .int .i64 p.size :: .int .i64 p.tick :: cellsP r:=rfl
theorem cellsP_append (a b:List Pk):cellsP (a ++ b)=cellsP a ++ cellsP b:=by simp [cellsP]
theorem cellsP_length (ps:List Pk):(cellsP ps).length=ps.length * 3:=by
 induction ps with
 | nil=>rfl
 | cons p r ih=>rw [cellsP_cons];simp [ih];omega
theorem cellsP_get (ps:List Pk):∀ (i:Nat) p,ps[i]? = some p → (cellsP ps)[i * 3]? = some (.int .i64 p.flow) ∧ (cellsP ps)[i * 3+1]? = some (.int .i64 p.size) ∧ (cellsP ps)[i * 3+2]? = some (.int .i64 p.tick):=by
 induction ps with
 | nil=>intro i p h;simp at h
 | cons q r ih=>
  intro i p h
  rw [cellsP_cons]
  cases i with
  | zero=>simp at h;subst h;exact ⟨rfl,rfl,rfl⟩
  | succ i=>
   have:=ih i p (by simpa using h)
   rw [show (i+1) * 3=i * 3+1+1+1 by omega]
   exact ⟨by simpa using this.1,by simpa using this.2.1,by simpa using this.2.2⟩
theorem cellsP_at (ps:List Pk):∀ j u,(cellsP ps)[j]? = some u → ∃ (i:Nat) (p:Pk),ps[i]? = some p ∧ ((j=i * 3 ∧ u=.int .i64 p.flow) ∨ (j=i * 3+1 ∧ u=.int .i64 p.size) ∨ (j=i * 3+2 ∧ u=.int .i64 p.tick)):=by
 induction ps with
 | nil=>intro j u h;simp [cellsP] at h
 | cons p r ih=>
  intro j u h
  rw [cellsP_cons] at h
  match j,h with
  | 0,h=>exact ⟨0,p,rfl,.inl ⟨rfl,by simpa using h.symm⟩⟩
  | 1,h=>exact ⟨0,p,rfl,.inr (.inl ⟨rfl,by simpa using h.symm⟩)⟩
  | 2,h=>exact ⟨0,p,rfl,.inr (.inr ⟨rfl,by simpa using h.symm⟩)⟩
  | j+3,h=>
   obtain ⟨i,q,hi,hj⟩:=ih j u (by simpa using h)
   refine ⟨i+1,q,by simpa using hi,?_⟩
   rcases hj with ⟨e,f⟩ | ⟨e,f⟩ | ⟨e,f⟩
   · exact .inl ⟨by omega,f⟩
   · exact .inr (.inl ⟨by omega,f⟩)
   · exact .inr (.inr ⟨by omega,f⟩)
theorem cellsP_one (ps:List Pk):∀ u ∈ cellsP ps,u.oneCell'=true:=by
 intro u hu
 obtain ⟨j,hj⟩:=List.mem_iff_getElem?.1 hu
 obtain ⟨i,p,-,h⟩:=cellsP_at ps j u hj
 rcases h with ⟨-,rfl⟩ | ⟨-,rfl⟩ | ⟨-,rfl⟩ <;> rfl
def OwnP (w:World) (B:Nat) (v:Value) (ps:List Pk):Prop:=w.ownsRow B 58 3 v ps.length (cellsP ps)
theorem OwnP.open {w:World} {B:Nat} {v:Value} {ps:List Pk} (h:OwnP w B v ps) :
  ∃ a cap,v=.slice a ps.length cap ∧ ps.length ≤ cap ∧ cap ≤ maxLen ∧ LiesP w a ps ∧ (∀ ad,a=some ad → B ≤ ad.block) ∧ (a=none → ps=[] ∧ cap=0):=by
 obtain ⟨hlen,⟨rfl,h0⟩ | ⟨g,cap,cur,rfl,hB,hg,hn,hm,hc,ht⟩⟩:=h
 · exact ⟨none,0,by rw [h0],by omega,by simp [maxLen],.inl (List.length_eq_zero_iff.1 h0),(fun ad e=>by cases e),fun _=>⟨List.length_eq_zero_iff.1 h0,rfl⟩⟩
 ·
  refine ⟨_,cap,rfl,hn,hm,.inr ⟨g,0,rfl,?_,fun i p hi=>?_⟩,(fun ad e=>by cases e;exact hB),fun e=>by cases e⟩
  ·
   rcases Nat.lt_or_ge g w.heap.size with h | h
   · exact h
   · simp [Array.getElem?_eq_none h] at hg
  ·
   have hh:w.ownsRow B 58 3 (.slice (some ⟨g,0,none⟩) ps.length cap) ps.length (cellsP ps):=⟨hlen,.inr ⟨g,cap,cur,rfl,hB,hg,hn,hm,hc,ht⟩⟩
   have hil:i < ps.length:=by
    rcases Nat.lt_or_ge i ps.length with h | h
    · exact h
    · simp [List.getElem?_eq_none h] at hi
   have:=cellsP_get ps i p hi
   rw [hh.cellAt _ (by omega),hh.cellAt _ (by omega),hh.cellAt _ (by omega),Nat.zero_add]
   exact this
theorem liesP_news {w:World} {ad:Addr} {ps:List Pk} (h:LiesP w (some ad) ps):∀ j u,(cellsP ps)[j]? = some u → w.cell? (ad.add j)=some u:=by
 intro j u hj
 obtain ⟨i,p,hi,hc⟩:=cellsP_at ps j u hj
 rcases h with rfl | ⟨b,off,e,-,h⟩
 · simp at hi
 ·
  cases e
  have:=h i p hi
  rw [Addr.add_lit]
  rcases hc with ⟨rfl,rfl⟩ | ⟨rfl,rfl⟩ | ⟨rfl,rfl⟩
  · exact this.1
  · exact this.2.1
  · exact this.2.2
theorem Tryz.infoPkt:(Tryz.prog.info? 58).map (fun i=>(i.zero,i.size,i.bytes))=some (some (.agg #[.int .i64 0,.int .i64 0,.int .i64 0]),3,24):=by kernel_rfl
theorem isSize_any (n:Int) (w:World):Calls Tryz.prog 154 #[.int .i64 n] w fun e w'=>e=.returned (.bool (decide (1 ≤ n ∧ n ≤ 1500))) ∧ w'=w:=by
 by_cases h1:1 ≤ n
 ·
  by_cases h2:n ≤ 1500
  ·
   rw [show decide (1 ≤ n ∧ n ≤ 1500)=true by simp [h1,h2]]
   go_enter Tryz.func154,Tryz.ntmps154
   go_wp2
   go_ret
   exact ⟨rfl,rfl⟩
  ·
   rw [show decide (1 ≤ n ∧ n ≤ 1500)=false by simp [h2]]
   go_enter Tryz.func154,Tryz.ntmps154
   go_wp2
   go_ret
   exact ⟨rfl,rfl⟩
 ·
  rw [show decide (1 ≤ n ∧ n ≤ 1500)=false by simp [h1]]
  go_enter Tryz.func154,Tryz.ntmps154
  go_wp2
  go_ret
  exact ⟨rfl,rfl⟩
theorem isTick_any (t:Int) (w:World):Calls Tryz.prog 155 #[.int .i64 t] w fun e w'=>e=.returned (.bool (decide (0 ≤ t ∧ t ≤ 1099511627776))) ∧ w'=w:=by
 by_cases h1:0 ≤ t
 ·
  by_cases h2:t ≤ 1099511627776
  ·
   rw [show decide (0 ≤ t ∧ t ≤ 1099511627776)=true by simp [h1,h2]]
   go_enter Tryz.func155,Tryz.ntmps155
   go_wp2
   go_ret
   exact ⟨rfl,rfl⟩
  ·
   rw [show decide (0 ≤ t ∧ t ≤ 1099511627776)=false by simp [h2]]
   go_enter Tryz.func155,Tryz.ntmps155
   go_wp2
   go_ret
   exact ⟨rfl,rfl⟩
 ·
  rw [show decide (0 ≤ t ∧ t ≤ 1099511627776)=false by simp [h1]]
  go_enter Tryz.func155,Tryz.ntmps155
  go_wp2
  go_ret
  exact ⟨rfl,rfl⟩
theorem isPacket_core (x y z:Int) (s t:Bool) (w:World) (HS:Hid (∀ w',Calls Tryz.prog 154 #[.int .i64 y] w' fun e w''=>e=.returned (.bool s) ∧ w''=w')) (HT:Hid (∀ w',Calls Tryz.prog 155 #[.int .i64 z] w' fun e w''=>e=.returned (.bool t) ∧ w''=w')) :
  Calls Tryz.prog 130 #[.agg #[.int .i64 x,.int .i64 y,.int .i64 z]] w fun e w'=>e=.returned (.bool (decide (0 ≤ x) && decide (x < 8) && s && t)) ∧ w'=w.alloc (.cells #[.int .i64 x,.int .i64 y,.int .i64 z] 58):=by
 by_cases h1:0 ≤ x
 ·
  by_cases h2:x < 8
  ·
   rw [show (decide (0 ≤ x) && decide (x < 8) && s && t)=(s && t) by simp [h1,h2]]
   cases s with
   | false=>
    go_enter Tryz.func130,Tryz.ntmps130
    go_wp2_with (first
     | (go_at_call 154;refine (HS.out _).mono ?_;rintro e w1 ⟨rfl,rfl⟩)
     | (go_at_call 155;refine (HT.out _).mono ?_;rintro e w1 ⟨rfl,rfl⟩))
    go_ret
    exact ⟨rfl,rfl⟩
   | true=>
    cases t with
    | false=>
     go_enter Tryz.func130,Tryz.ntmps130
     go_wp2_with (first
      | (go_at_call 154;refine (HS.out _).mono ?_;rintro e w1 ⟨rfl,rfl⟩)
      | (go_at_call 155;refine (HT.out _).mono ?_;rintro e w1 ⟨rfl,rfl⟩))
     go_ret
     exact ⟨rfl,rfl⟩
    | true=>
     go_enter Tryz.func130,Tryz.ntmps130
     go_wp2_with (first
      | (go_at_call 154;refine (HS.out _).mono ?_;rintro e w1 ⟨rfl,rfl⟩)
      | (go_at_call 155;refine (HT.out _).mono ?_;rintro e w1 ⟨rfl,rfl⟩))
     go_ret
     exact ⟨rfl,rfl⟩
  ·
   rw [show (decide (0 ≤ x) && decide (x < 8) && s && t)=false by simp [h2]]
   go_enter Tryz.func130,Tryz.ntmps130
   go_wp2
   go_ret
   exact ⟨rfl,rfl⟩
 ·
  rw [show (decide (0 ≤ x) && decide (x < 8) && s && t)=false by simp [h1]]
  go_enter Tryz.func130,Tryz.ntmps130
  go_wp2
  go_ret
  exact ⟨rfl,rfl⟩
theorem isPacket_any (p:Pk) (w:World) :
  Calls Tryz.prog 130 #[.agg #[.int .i64 p.flow,.int .i64 p.size,.int .i64 p.tick]] w fun e w'=>e=.returned (.bool (okPk p)) ∧ w'=w.alloc (.cells #[.int .i64 p.flow,.int .i64 p.size,.int .i64 p.tick] 58):=by
 have h:=isPacket_core p.flow p.size p.tick _ _ w (fun w'=>isSize_any p.size w') (fun w'=>isTick_any p.tick w')
 rw [show (decide (0 ≤ p.flow) && decide (p.flow < 8) && decide (1 ≤ p.size ∧ p.size ≤ 1500) && decide (0 ≤ p.tick ∧ p.tick ≤ 1099511627776))=okPk p by
  unfold okPk
  simp only [Bool.decide_and,Bool.and_assoc]] at h
 exact h
def goodTo (ps:List Pk) (j:Nat):Prop:=∀ (i:Nat) q,i < j → ps[i]? = some q → okPk q=true ∧ ahead ps i ≤ q.tick
theorem ahead_succ {ps:List Pk} {k:Nat} {p:Pk} (h:ps[k]? = some p):ahead ps (k+1)=p.tick:=by simp only [ahead];rw [h]
theorem pcheck_long (a:Option Addr) (n cap:Nat) (w:World) (ad:Nat → Addr) (he:ErrsBO w ad) (hm:n ≤ maxLen) (h:300 < n) :
  Calls Tryz.prog 105 #[.slice a n cap] w fun e w'=>e=.returned (.iface 312 (.pointer (some (ad 1)))) ∧ w'=w:=by
 unfold maxLen at hm
 have e1:=he.c1
 go_enter Tryz.func105,Tryz.ntmps105
 go_wp2
 go_ret
 exact ⟨rfl,rfl⟩
theorem pcheck_ok (a:Option Addr) (cap:Nat) (ps:List Pk) (w:World) (hl:LiesP w a ps) (h:OkPks ps) :
  Calls Tryz.prog 105 #[.slice a ps.length cap] w fun e w'=>e=.returned .nilIface ∧ Below w.heap.size w w':=by
 by_cases h0:ps=[]
 ·
  subst h0
  show Calls Tryz.prog 105 #[.slice a 0 cap] w _
  clear hl
  go_enter Tryz.func105,Tryz.ntmps105
  go_wp2
  refine wp_loop_rounds 1 ?_
  rw [rounds_succ]
  go_wp2
  go_ret
  exact ⟨rfl,Below.refl _ _⟩
 ·
  obtain ⟨b,off,rfl,hlt,hc⟩:=hl.place (by cases ps with | nil=>exact absurd rfl h0 | cons p r=>simp)
  have HC:Hid (∀ (i:Nat) p,ps[i]? = some p → w.cell? ⟨b,off+i * 3,none⟩=some (.int .i64 p.flow) ∧ w.cell? ⟨b,off+i * 3+1,none⟩=some (.int .i64 p.size) ∧ w.cell? ⟨b,off+i * 3+2,none⟩=some (.int .i64 p.tick)):=hc
  have HO:Hid (OkPks ps):=h
  have hn300:ps.length ≤ 300:=h.few
  clear hl h hc h0
  generalize hn:ps.length=n at *
  have Hn:=(show Hid (ps.length=n) from hn)
  clear hn
  go_enter Tryz.func105,Tryz.ntmps105
  go_wp2
  go_loopw [3,12] (fun l i wr=>∃ k:Nat,k ≤ n ∧ i=.int .i64 k ∧ l=.int .i64 (ahead ps k) ∧ Below w.heap.size w wr) (fun _ i _=>n - (intOf i).toNat)
  case atStart=>exact ⟨0,Nat.zero_le _,rfl,rfl,Below.refl _ _⟩
  case round=>
   obtain ⟨k,hk,rfl,rfl,hb⟩:=hrel
   have HB:Hid (Below w.heap.size w wr):=hb
   by_cases hkn:k < n
   ·
    obtain ⟨p,hp,-⟩:=get_some ps k (by rw [Hn.out];exact hkn)
    obtain ⟨d1,d2,d3⟩:=HC.out k p hp
    have hc1:wr.cell? ⟨b,off+k * 3,none⟩=some (.int .i64 p.flow):=by rw [hb.cell (p:=⟨b,off+k * 3,none⟩) hlt];exact d1
    have hc2:wr.cell? ⟨b,off+k * 3+1,none⟩=some (.int .i64 p.size):=by rw [hb.cell (p:=⟨b,off+k * 3+1,none⟩) hlt];exact d2
    have hc3:wr.cell? ⟨b,off+k * 3+2,none⟩=some (.int .i64 p.tick):=by rw [hb.cell (p:=⟨b,off+k * 3+2,none⟩) hlt];exact d3
    obtain ⟨o1,o2⟩:=HO.out.each k p hp
    have HA:Hid (ahead ps (k+1)=p.tick):=ahead_succ hp
    have HP:Hid (∀ w',Calls Tryz.prog 130 #[.agg #[.int .i64 p.flow,.int .i64 p.size,.int .i64 p.tick]] w' fun e w''=>e=.returned (.bool true) ∧ w''=w'.alloc (.cells #[.int .i64 p.flow,.int .i64 p.size,.int .i64 p.tick] 58)):=fun w'=>by
     have:=isPacket_any p w'
     rwa [o1] at this
    clear d1 d2 d3 hp o1 hb
    have o2':¬ p.tick < ahead ps k:=by omega
    generalize ahead ps k=L at *
    generalize p.flow=x at *
    generalize p.size=y at *
    generalize p.tick=z at *
    go_wp2_with (go_at_call 130;refine (HP.out _).mono ?_;rintro e w' ⟨rfl,rfl⟩)
    have hs:=HB.out.size
    go_roundw
    case rel=>exact ⟨k+1,by omega,by go_num,by rw [HA.out],(HB.out.alloc hs _).alloc (by simp;omega) _⟩
    case measure=>simp [intOf];omega
   ·
    go_wp2
    go_ret
    exact ⟨rfl,HB.out⟩
end Go.Proofs.YtipdclphpkgceaaGreatDoor
