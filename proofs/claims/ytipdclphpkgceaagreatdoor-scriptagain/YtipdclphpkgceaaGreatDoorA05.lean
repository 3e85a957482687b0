/- Own facts, put together: no statement of its own. -/
import Derived.Test.YtipdclphpkgceaaGreatDoorA04
import Derived.Test.YtipdclphpkgceaaGreatDoorA02
import Derived.Deep.LoopGhost
import Derived.Test.YtipdclphpkgceaaGreatDoorA01
import Derived.WalkKit
import Derived.WalkSpells
import Derived.WalkLawsBesides
import Derived.BigQuiet
set_option maxHeartbeats 400000

namespace Go.Proofs.YtipdclphpkgceaaGreatDoor
def ED (per:Int) (ps:List Pk) (ws:List Int) (l:List Sn) (ts:List Int):Prop:=∃ s,Reaches (BD ps ws) per ps FJ s ∧ ¬ s.next < ps.length ∧ (BD ps ws).rest s.q=0 ∧ s.out=l ∧ (List.range ps.length).map s.q.tag=ts
theorem ED.same {per:Int} {ps:List Pk} {ws:List Int} {l m:List Sn} {ts us:List Int} (h:ED per ps ws l ts) (k:ED per ps ws m us):l=m ∧ ts=us:=by
 obtain ⟨s,h1,h2,h3,rfl,rfl⟩:=h
 obtain ⟨t,k1,k2,k3,rfl,rfl⟩:=k
 rw [KH h1 k1 h2 h3 k2 k3]
 exact ⟨rfl,rfl⟩
section
variable {per:Int} {ps:List Pk} {ws:List Int} {l:List Sn} {ts:List Int}
theorem ED.length (hw:IG ws) (ho:Aj ps) (hper:1 ≤ per) (h:ED per ps ws l ts):l.length=ps.length ∧ ts.length=ps.length:=by
 obtain ⟨s,h1,h2,h3,rfl,rfl⟩:=h
 have:=h1.count (NT hw ho hper)
 have:=h1.next_le
 exact ⟨by omega,by simp⟩
end
structure aX (per:Int) (ps:List Pk) (ws:List Int) (s0 s:St FQ) (i:Nat) (first best:Int):Prop where
 reach:Reaches (BD ps ws) per ps FJ s
 from_:Reaches (BD ps ws) per ps FJ s0
 out:s.out=s0.out
 now:s.now=s0.now
 seen:∀ j,j < i → Ay ps j ≤ s.now → j < s.next
 first:(first = -1 ∧ ∀ j,j < i → AZ s.out j=true) ∨ ∃ f:Nat,first=f ∧ f < i ∧ AZ s.out f=false ∧ ∀ j,j < f → AZ s.out j=true
 best:(best = -1 ∧ ∀ j,j < i → j ∉ s.q.q) ∨ ∃ b:Nat,best=b ∧ b < i ∧ b ∈ s.q.q ∧ ∀ j,j < i → j ∈ s.q.q → s.q.tag b < s.q.tag j ∨ (s.q.tag b=s.q.tag j ∧ b ≤ j)
section
variable {per:Int} {ps:List Pk} {ws:List Int} {s0 s:St FQ} {i:Nat} {first best:Int}
theorem aX.one (hw:IG ws) (ho:Aj ps) (hper:1 ≤ per) (h:aX per ps ws s0 s ps.length first best) (hb:¬ best < 0) :
  ∃ (b:Nat) (p:Pk),best=b ∧ ps[b]? = some p ∧ AZ s.out b=false ∧ Reaches (BD ps ws) per ps FJ ⟨s.out ++ [⟨(b:Nat),s.now,s.now+per * p.size⟩],s.now+per * p.size,s.next,s.q.left b⟩:=by
 obtain ⟨H,r⟩:=fair_run hw ho hper h.reach
 rcases h.best with ⟨b1,-⟩ | ⟨b,b1,b2,b3,b4⟩
 · omega
 ·
  have hlen:0 < s.q.q.length:=List.length_pos_of_mem b3
  have hpl:=FV s.q.tag hlen
  obtain ⟨l1,l2⟩:=Fv (tag:=s.q.tag) (q:=s.q.q) hlen
  obtain ⟨k,hk⟩:∃ k,k=(BD ps ws).pick s.q:=⟨_,rfl⟩
  have hkd:s.q.q.getD (Ba s.q.tag s.q.q) 0=k:=hk.symm
  have hkb:k=b:=by
   have hkm:k ∈ s.q.q:=by rw [← hkd];exact l1
   have c1:=b4 k (by have:=(r.only k hkm).1;have:=r.le;omega) hkm
   obtain ⟨j,hj,ej⟩:=List.getElem_of_mem b3
   have c2:=F9 s.q.tag s.q.q s.q.q.length j hj
   have e2:AB s.q.tag s.q.q s.q.q.length=Ba s.q.tag s.q.q:=rfl
   rw [e2,hkd,getD_lt (d:=0) hj,ej] at c2
   have hkb:k ≤ b ∨ s.q.tag k < s.q.tag b:=by
    rcases c2 with c2 | ⟨-,c2⟩
    · exact .inr c2
    ·
     refine .inl ?_
     rw [← hkd,getD_lt (d:=0) hpl,← ej]
     rcases Nat.lt_or_eq_of_le c2 with c3 | c3
     · exact Nat.le_of_lt (List.pairwise_iff_getElem.1 r.rises _ _ hpl hj c3)
     · simp only [c3];exact Nat.le_refl _
   omega
  have hlt:b < ps.length:=b2
  have e:ps[b]? = some ps[b]:=List.getElem?_eq_getElem hlt
  refine ⟨b,_,b1,e,(r.only b b3).2,?_⟩
  have:=Reaches.send s ps[b] h.reach (fun q hq=>by
   rcases Int.lt_or_le s.now q.tick with h' | h'
   · exact h'
   ·
    have:=h.seen s.next (Ad hq) (by rw [AJ hq];exact h')
    omega) hlen (by rw [← hk,hkb];exact e)
  have hleft:(BD ps ws).left s.q=s.q.left b:=by rw [← hkb,← hkd];rfl
  rw [← hk,hkb,hleft] at this
  exact this
end
structure UY {σ:Type} (Q:Que σ) (per:Int) (ps:List Pk) (q0:σ):Prop where
 law:Ia Q per ps q0
 pick:∀ s,Reaches Q per ps q0 s → 0 < Q.rest s.q → AZ s.out (Q.pick s.q)=false ∧ ∀ j,j < Q.pick s.q → Ae ps j=Ae ps (Q.pick s.q) → AZ s.out j=true
 none:∀ s,Reaches Q per ps q0 s → Q.rest s.q=0 → ∀ i,i < s.next → AZ s.out i=true
structure X9 {σ:Type} (per:Int) (ps:List Pk) (s:St σ):Prop where
 conv:Conv per ps s.out
 turns:LK ps s.out
 gone:∀ i:Nat,AZ s.out i=true → i < s.next
 came:∀ i,i < s.next → Ay ps i ≤ s.now
 now:s.now=CK s.out ∨ ((∀ i,Ce ps.length s.out i → CK s.out < Ay ps i) ∧ ∃ i,Ce ps.length s.out i ∧ s.now=Ay ps i ∧ ∀ k,Ce ps.length s.out k → Ay ps i ≤ Ay ps k)
theorem VG {σ:Type} {Q:Que σ} {per:Int} {ps:List Pk} {q0:σ} {s:St σ} (hQ:UY Q per ps q0) (hper:0 ≤ per) (ho:Aj ps) (h:Reaches Q per ps q0 s):X9 per ps s:=by
 refine h.by_steps (C:=fun s=>X9 per ps s) ⟨fun k x hx=>by simp at hx,fun k x hx=>by simp at hx,(fun i hi=>by simp [AZ] at hi),fun i hi=>absurd hi (Nat.not_lt_zero _),.inl rfl⟩ ?_ ?_ ?_
 ·
  rintro s p hs hp ht r
  refine ⟨r.conv,r.turns,fun i hi=>Nat.lt_succ_of_lt (r.gone i hi),fun i hi=>?_,r.now⟩
  rcases Nat.lt_or_ge i s.next with h' | h'
  · exact r.came i h'
  ·
   obtain rfl:i=s.next:=by simp only at hi;omega
   rw [AJ hp];exact ht
 ·
  rintro s p hs hall h0 hp r
  obtain ⟨p1,p2⟩:=hQ.pick s hs h0
  have p3:=hQ.law.pick s hs h0
  obtain ⟨k,hk⟩:∃ k,k=Q.pick s.q:=⟨_,rfl⟩
  rw [← hk] at p1 p2 p3 hp ⊢
  have hu:Ce ps.length s.out k:=CU.2 ⟨Ad hp,p1⟩
  have hc:=r.came k p3
  have htick:Tick ps s.out s.now:=by
   rcases r.now with e | e
   · exact .inl ⟨e,k,hu,hc⟩
   · exact .inr e
  obtain ⟨-,-,z1,-,-,-⟩:=Bb (ho.each _ p hp).1
  have a1:0 ≤ per * p.size:=Int.mul_nonneg hper (by omega)
  have htake:∀ (i:Nat),i ≤ s.out.length → (s.out ++ [(⟨(k:Nat),s.now,s.now+per * p.size⟩:Sn)]).take i=s.out.take i:=fun i hi=>List.take_append_of_le_length hi
  refine ⟨fun i x hx=>?_,fun i x hx j hj hf=>?_,fun i hi=>?_,fun i hi=>?_,.inl (by rw [FK])⟩
  ·
   rcases Fp hx with ⟨h',hx⟩ | ⟨rfl,rfl⟩
   ·
    simp only [htake i (by omega)]
    exact r.conv i x hx
   ·
    simp only [htake _ (Nat.le_refl _),List.take_length]
    exact ⟨s.now,k,htick,hu,hc,by rw [Gp hp]⟩
  ·
   rcases Fp hx with ⟨h',hx⟩ | ⟨rfl,rfl⟩
   ·
    simp only [htake i (by omega)]
    exact r.turns i x hx j hj hf
   ·
    simp only [htake _ (Nat.le_refl _),List.take_length]
    simp only [Int.toNat_natCast] at hj hf
    intro hu'
    have:=p2 j hj hf
    rw [(CU.1 hu').2] at this
    cases this
  ·
   rw [Cq,Bool.or_eq_true] at hi
   show i < s.next
   rcases hi with hi | hi
   · exact r.gone i hi
   ·
    have:=beq_iff_eq.1 hi
    omega
  ·
   have:=r.came i hi
   simp only
   omega
 ·
  rintro s p hs hp ht h0 r
  have hge:∀ i,Ce ps.length s.out i → s.next ≤ i:=fun i hi=>by
   rcases Nat.lt_or_ge i s.next with h' | h'
   ·
    have:=hQ.none s hs h0 i h'
    rw [(CU.1 hi).2] at this
    cases this
   · exact h'
  have hmin:∀ i,Ce ps.length s.out i → p.tick ≤ Ay ps i:=fun i hi=>by
   have:=D6 ho (hge i hi) (CU.1 hi).1
   rwa [AJ hp] at this
  have hnow:s.now=CK s.out:=by
   rcases r.now with e | ⟨-,i,hi,e,-⟩
   · exact e
   ·
    have:=hmin i hi
    omega
  have hund:Ce ps.length s.out s.next:=by
   refine CU.2 ⟨Ad hp,?_⟩
   cases hd:AZ s.out s.next with
   | false=>rfl
   | true=>have:=r.gone _ hd;omega
  refine ⟨r.conv,r.turns,r.gone,fun i hi=>?_,.inr ⟨fun i hi=>?_,s.next,hund,(AJ hp).symm,fun k hk=>?_⟩⟩
  ·
   have:=r.came i hi
   simp only
   omega
  ·
   have:=hmin i hi
   show CK s.out < _
   omega
  ·
   rw [AJ hp]
   exact hmin k hk
section
variable {ps:List Pk} {ws ns:List Int} {per:Int} {l:List Sn} {ts:List Int}
theorem Zm (hw:IG ws) (ho:Aj ps) (hper:1 ≤ per):UY (BD ps ws) per ps FJ where
 law:=NT hw ho hper
 pick:=fun s hs h0=>by
  obtain ⟨H,r⟩:=fair_run hw ho hper hs
  obtain ⟨l1,l2⟩:=Fv (tag:=s.q.tag) (q:=s.q.q) h0
  obtain ⟨k,hk⟩:∃ k,k=(BD ps ws).pick s.q:=⟨_,rfl⟩
  have hkd:s.q.q.getD (Ba s.q.tag s.q.q) 0=k:=hk.symm
  rw [hkd] at l1 l2
  rw [← hk]
  refine ⟨(r.only k l1).2,fun j hj hf=>?_⟩
  cases hd:AZ s.out j with
  | true=>rfl
  | false=>
   have hm:=r.wait j (by have:=(r.only k l1).1;omega) hd
   obtain ⟨t,ht⟩:=Nw r.state (fun i _=>(I7 hw ho i).1) ⟨l1,l2⟩
   have hp:(s.q.of (Ae ps) (Ae ps k)).Pairwise (· < ·):=r.rises.filter _
   have hjm:j ∈ s.q.of (Ae ps) (Ae ps k):=JQ.2 ⟨hm,hf⟩
   rw [ht] at hp hjm
   rcases List.mem_cons.1 hjm with e | hjm
   · omega
   ·
    have:=(List.pairwise_cons.1 hp).1 j hjm
    omega
 none:=fun s hs h0 i hi=>by
  obtain ⟨H,r⟩:=fair_run hw ho hper hs
  have hq:s.q.q=[]:=List.length_eq_zero_iff.1 h0
  cases hd:AZ s.out i with
  | true=>rfl
  | false=>
   have:=r.wait i hi hd
   rw [hq] at this
   cases this
theorem ED.may (hw:IG ws) (ho:Aj ps) (hper:1 ≤ per) (h:ED per ps ws l ts):Conv per ps l ∧ LK ps l ∧ l.length=ps.length:=by
 have hl:=(h.length hw ho hper).1
 obtain ⟨s,h1,h2,h3,rfl,rfl⟩:=h
 have r:=VG (Zm hw ho hper) (by omega) ho h1
 exact ⟨r.conv,r.turns,hl⟩
theorem Xo (ho:Aj ps) (hq:∀ f,1 ≤ BN ns f) (hper:1 ≤ per):UY (BC ps ns) per ps EO where
 law:=Jn ho hq
 pick:=fun s hs h0=>by
  obtain ⟨H,r⟩:=FU (M:=1500) ho hq (by omega) (fun k=>(Cr ho k).2) hs
  obtain ⟨k,e,hx,e1,e2,f,t,c,sa⟩:=r.good.picks hq h0
  obtain ⟨-,hl⟩:=Sb ho hq hper hs
  rw [e1]
  have hhead:s.q.d.qs f=k :: t:=by rw [← sa.same];exact sa.head
  have hkm:k ∈ s.q.d.qs f:=by rw [hhead];exact List.mem_cons_self ..
  have hkf:Ae ps k=f:=(r.state.size f k hkm).1
  refine ⟨(r.only f k hkm).2,fun j hj hf=>?_⟩
  cases hd:AZ s.out j with
  | true=>rfl
  | false=>
   have hm:=r.wait j (by have:=(r.only f k hkm).1;omega) hd
   rw [hf,hkf] at hm
   have hp:(s.q.d.qs f).Pairwise (· < ·):=by
    rw [hl f]
    exact List.pairwise_lt_range.filter _
   rw [hhead] at hp hm
   rcases List.mem_cons.1 hm with e | hm
   · omega
   ·
    have:=(List.pairwise_cons.1 hp).1 j hm
    omega
 none:=fun s hs h0 i hi=>by
  obtain ⟨H,r⟩:=FU (M:=1500) ho hq (by omega) (fun k=>(Cr ho k).2) hs
  cases hd:AZ s.out i with
  | true=>rfl
  | false=>
   have hm:=r.wait i hi hd
   have hz:=r.good.line.1 h0
   have:=(r.state.active (Ae ps i)).2 (by intro e;rw [e] at hm;cases hm)
   rw [hz] at this
   cases this
theorem Dz.may (ho:Aj ps) (hq:∀ f,1 ≤ BN ns f) (hper:1 ≤ per) (h:Dz per ps ns l):Conv per ps l ∧ LK ps l ∧ l.length=ps.length:=by
 have hl:=h.length ho hq
 obtain ⟨s,h1,h2,h3,rfl⟩:=h
 have r:=VG (Xo ho hq hper) (by omega) ho h1
 exact ⟨r.conv,r.turns,hl⟩
end
end Go.Proofs.YtipdclphpkgceaaGreatDoor

namespace Go.Proofs.YtipdclphpkgceaaGreatDoor
open Go.RowKit
structure E5 (lo hi:Int) (ns:List Int):Prop where
 len:ns.length=8
 each:∀ (i:Nat) x,ns[i]? = some x → lo ≤ x ∧ x ≤ hi
def Yo (lo hi:Int) (ns:List Int) (j:Nat):Prop:=ns.length=8 ∧ (∃ x,ns[j]? = some x ∧ ¬ (lo ≤ x ∧ x ≤ hi)) ∧ ∀ (i:Nat) y,i < j → ns[i]? = some y → lo ≤ y ∧ y ≤ hi
def Ct (lo hi:Int) (ns:List Int) (c:Nat):Prop:=(c=3 ∧ ns.length ≠ 8) ∨ (c=2 ∧ ∃ j,Yo lo hi ns j) ∨ (c=0 ∧ E5 lo hi ns)
theorem Ih (lo hi:Int) (ns:List Int):∃ c,Ct lo hi ns c:=by
 by_cases hl:ns.length=8
 ·
  have key:∀ k,k ≤ ns.length → (∀ (i:Nat) y,i < k → ns[i]? = some y → lo ≤ y ∧ y ≤ hi) ∨ ∃ j,Yo lo hi ns j:=by
   intro k
   induction k with
   | zero=>intro _;exact .inl fun i y h=>by omega
   | succ k ih=>
    intro hk
    rcases ih (by omega) with h | h
    ·
     obtain ⟨x,hx,-⟩:=Ai ns k (by omega)
     by_cases hb:lo ≤ x ∧ x ≤ hi
     ·
      refine .inl fun i y hi' hy=>?_
      rcases Nat.lt_or_ge i k with h' | h'
      · exact h i y h' hy
      ·
       obtain rfl:i=k:=by omega
       obtain rfl:=Option.some.inj (hx.symm.trans hy)
       exact hb
     · exact .inr ⟨k,hl,⟨x,hx,hb⟩,h⟩
    · exact .inr h
  rcases key ns.length (Nat.le_refl _) with h | h
  ·
   exact ⟨0,.inr (.inr ⟨rfl,hl,fun i x hx=>h i x (by
    rcases Nat.lt_or_ge i ns.length with h' | h'
    · exact h'
    · simp [List.getElem?_eq_none h'] at hx) hx⟩)⟩
  · exact ⟨2,.inr (.inl ⟨rfl,h⟩)⟩
 · exact ⟨3,.inl ⟨rfl,hl⟩⟩
end Go.Proofs.YtipdclphpkgceaaGreatDoor

namespace Go.Proofs.YtipdclphpkgceaaGreatDoor
def K4 (x:Int):Prop:=1 ≤ x ∧ 12 % x=0
theorem Zy {x:Int} (h:K4 x):x ≤ 12:=Int.le_of_dvd (by decide) (Int.dvd_of_emod_eq_zero h.2)
structure GD (ns:List Int):Prop where
 len:ns.length=8
 each:∀ (i:Nat) x,ns[i]? = some x → K4 x
def Z9 (ns:List Int) (j:Nat):Prop:=ns.length=8 ∧ (∃ x,ns[j]? = some x ∧ ¬ K4 x) ∧ ∀ (i:Nat) y,i < j → ns[i]? = some y → K4 y
def Gg (ns:List Int) (c:Nat):Prop:=(c=3 ∧ ns.length ≠ 8) ∨ (c=2 ∧ ∃ j,Z9 ns j) ∨ (c=0 ∧ GD ns)
theorem Tu (ns:List Int):∃ c,Gg ns c:=by
 by_cases hl:ns.length=8
 ·
  have key:∀ k,k ≤ ns.length → (∀ (i:Nat) y,i < k → ns[i]? = some y → K4 y) ∨ ∃ j,Z9 ns j:=by
   intro k
   induction k with
   | zero=>intro _;exact .inl fun i y h=>by omega
   | succ k ih=>
    intro hk
    rcases ih (by omega) with h | h
    ·
     obtain ⟨x,hx,-⟩:=Ai ns k (by omega)
     by_cases hb:K4 x
     ·
      refine .inl fun i y hi' hy=>?_
      rcases Nat.lt_or_ge i k with h' | h'
      · exact h i y h' hy
      ·
       obtain rfl:i=k:=by omega
       obtain rfl:=Option.some.inj (hx.symm.trans hy)
       exact hb
     · exact .inr ⟨k,hl,⟨x,hx,hb⟩,h⟩
    · exact .inr h
  rcases key ns.length (Nat.le_refl _) with h | h
  · exact ⟨0,.inr (.inr ⟨rfl,hl,fun i x hx=>h i x (Ad hx) hx⟩)⟩
  · exact ⟨2,.inr (.inl ⟨rfl,h⟩)⟩
 · exact ⟨3,.inl ⟨rfl,hl⟩⟩
theorem GD.ok {ns:List Int} (h:GD ns):IG ns:=fun f=>by
 cases hf:ns[f]? with
 | some x=>
  rw [IY hf]
  have:=h.each f x hf
  exact ⟨this.1,Int.ediv_mul_cancel (Int.dvd_of_emod_eq_zero this.2)⟩
 | none=>
  have:BN ns f=1:=by simp [BN,hf]
  rw [this]
  exact ⟨Int.le_refl _,by decide⟩
theorem Yt {x z:Int} (h:K4 x) (hz:0 ≤ z):(z * 12).tdiv x=z * (12 / x):=by
 have hd:=Int.dvd_of_emod_eq_zero h.2
 rw [Int.tdiv_eq_ediv_of_nonneg (by omega),Int.mul_ediv_assoc _ hd]
theorem Kz:∀ (q:List Nat) (i:Nat),q.Nodup → i < q.length → q.eraseIdx i=q.filter fun j=>j != q.getD i 0
 | [],i,_,h=>absurd h (Nat.not_lt_zero _)
 | a :: q,0,hn,_=>by
  obtain ⟨h1,-⟩:=List.nodup_cons.1 hn
  have e:(a :: q).getD 0 0=a:=rfl
  rw [e,List.filter_cons,if_neg (by simp)]
  refine (List.filter_eq_self.2 fun j hj=>?_).symm
  have:j ≠ a:=fun e=>h1 (by rw [← e];exact hj)
  simp [this]
 | a :: q,i+1,hn,h=>by
  obtain ⟨h1,h2⟩:=List.nodup_cons.1 hn
  have hi:i < q.length:=by simpa using h
  have e:(a :: q).getD (i+1) 0=q.getD i 0:=by simp [List.getD]
  have hne:a ≠ q.getD i 0:=fun e'=>h1 (by rw [e',getD_lt hi];exact List.getElem_mem hi)
  rw [e,List.filter_cons,if_pos (bne_iff_ne.2 hne),← Kz q i h2 hi]
  rfl
end Go.Proofs.YtipdclphpkgceaaGreatDoor

namespace Go.Proofs.YtipdclphpkgceaaGreatDoor
open Go.RowKit
theorem Ir (x y:Int) (w:World) (h:BF x y=true) :
  Calls Tryz.prog 121 #[.agg #[.int .i64 x,.int .i64 y]] w fun e w'=>e=.returned (.bool true) ∧ w'=w.alloc (.cells #[.int .i64 x,.int .i64 y] 83):=by
 obtain ⟨h1,h2,h3,h4⟩:=Ap h
 clear h
 go_enter Tryz.func121,Tryz.ntmps121
 go_wp2
 go_ret
 exact ⟨rfl,rfl⟩
theorem PG (x y:Int) (w:World) (h:BF x y=false) :
  Calls Tryz.prog 121 #[.agg #[.int .i64 x,.int .i64 y]] w fun e w'=>e=.returned (.bool false) ∧ w'=w.alloc (.cells #[.int .i64 x,.int .i64 y] 83):=by
 have h':¬ (1 ≤ x ∧ x ≤ 20000 ∧ 0 ≤ y ∧ y ≤ 100000):=of_decide_eq_false h
 clear h
 by_cases h1:1 ≤ x
 ·
  by_cases h2:x ≤ 20000
  ·
   by_cases h3:0 ≤ y
   ·
    have h4:¬ y ≤ 100000:=fun h4=>h' ⟨h1,h2,h3,h4⟩
    clear h'
    go_enter Tryz.func121,Tryz.ntmps121
    go_wp2
    go_ret
    exact ⟨rfl,rfl⟩
   ·
    clear h'
    go_enter Tryz.func121,Tryz.ntmps121
    go_wp2
    go_ret
    exact ⟨rfl,rfl⟩
  ·
   clear h'
   go_enter Tryz.func121,Tryz.ntmps121
   go_wp2
   go_ret
   exact ⟨rfl,rfl⟩
 ·
  clear h'
  go_enter Tryz.func121,Tryz.ntmps121
  go_wp2
  go_ret
  exact ⟨rfl,rfl⟩
def AL (w:World) (a:Option Addr) (ls:List (Int × Int)):Prop:=
 ls=[] ∨ ∃ b off,a=some ⟨b,off,none⟩ ∧ b < w.heap.size ∧ ∀ i x y,ls[i]? = some (x,y) → w.cell? ⟨b,off+i * 2,none⟩=some (.int .i64 x) ∧ w.cell? ⟨b,off+i * 2+1,none⟩=some (.int .i64 y)
theorem AL.some {w:World} {a:Option Addr} {ls:List (Int × Int)} (h:AL w a ls) (h1:1 ≤ ls.length) :
  ∃ b off,a=some ⟨b,off,none⟩ ∧ b < w.heap.size ∧ ∀ i x y,ls[i]? = some (x,y) → w.cell? ⟨b,off+i * 2,none⟩=some (.int .i64 x) ∧ w.cell? ⟨b,off+i * 2+1,none⟩=some (.int .i64 y):=by
 rcases h with rfl | h
 · simp at h1
 · exact h
theorem AL.below {w w':World} {a:Option Addr} {ls:List (Int × Int)} (h:AL w a ls) (hb:Below w.heap.size w w'):AL w' a ls:=by
 rcases h with rfl | ⟨b,off,rfl,hlt,hc⟩
 · exact .inl rfl
 ·
  refine .inr ⟨b,off,rfl,Nat.lt_of_lt_of_le hlt hb.size,fun i x y hi=>?_⟩
  have:=hc i x y hi
  exact ⟨by rw [hb.cell (p:=⟨b,off+i * 2,none⟩) hlt];exact this.1,by rw [hb.cell (p:=⟨b,off+i * 2+1,none⟩) hlt];exact this.2⟩
theorem EE (a:Option Addr) (cap:Nat) (ls:List (Int × Int)) (w:World) (hl:AL w a ls) (h:Ag ls) :
  Calls Tryz.prog 89 #[.slice a ls.length cap] w fun e w'=>e=.returned .nilIface ∧ Below w.heap.size w w':=by
 obtain ⟨h1,h6,hok⟩:=h
 obtain ⟨b,off,rfl,hlt,hc⟩:=hl.some h1
 clear hl
 generalize hn:ls.length=n at *
 have Hn:=(show Hid (ls.length=n) from hn)
 clear hn
 go_enter Tryz.func89,Tryz.ntmps89
 go_wp2
 go_loopw [16] (fun i wr=>∃ k:Nat,k ≤ n ∧ i=.int .i64 k ∧ Below w.heap.size w wr) (fun i _=>n - (intOf i).toNat)
 case atStart=>exact ⟨0,Nat.zero_le _,rfl,Below.refl _ _⟩
 case round=>
  obtain ⟨k,hk,rfl,hb⟩:=hrel
  by_cases hkn:k < n
  ·
   obtain ⟨⟨x,y⟩,hp,hm⟩:=Ai ls k (by rw [Hn.out];exact hkn)
   have hc1:wr.cell? ⟨b,off+k * 2,none⟩=some (.int .i64 x):=by rw [hb.cell (p:=⟨b,off+k * 2,none⟩) hlt];exact (hc k x y hp).1
   have hc2:wr.cell? ⟨b,off+k * 2+1,none⟩=some (.int .i64 y):=by rw [hb.cell (p:=⟨b,off+k * 2+1,none⟩) hlt];exact (hc k x y hp).2
   have hxy:=hok _ hm
   clear hc hok hp hm
   have Hxy:=(show Hid (BF x y=true) from hxy)
   clear hxy
   go_wp2_with (go_at_call 121;refine (Ir x y _ Hxy.out).mono ?_;rintro e w' ⟨rfl,rfl⟩)
   have hs:=hb.size
   go_roundw
   case rel=>exact ⟨k+1,by omega,by go_num,(hb.alloc hs _).alloc (by simp;omega) _⟩
   case measure=>simp [intOf];omega
  ·
   go_wp2
   go_ret
   exact ⟨rfl,hb⟩
theorem Lr (a:Option Addr) (n cap:Nat) (w:World) (vS:Value) (hS:w.cell? ⟨2,0,none⟩=some vS) (hm:n ≤ maxLen) (h:n < 1 ∨ 6 < n) :
  Calls Tryz.prog 89 #[.slice a n cap] w fun e w'=>e=.returned vS ∧ w'=w:=by
 unfold maxLen at hm
 rcases h with h | h
 ·
  obtain rfl:n=0:=by omega
  go_enter Tryz.func89,Tryz.ntmps89
  go_wp2
  go_ret
  exact ⟨rfl,rfl⟩
 ·
  have h1:¬ n < 1:=by omega
  go_enter Tryz.func89,Tryz.ntmps89
  go_wp2
  go_ret
  exact ⟨rfl,rfl⟩
theorem Pz (a:Option Addr) (cap:Nat) (ls:List (Int × Int)) (w:World) (aB:Addr) (hB:w.cell? ⟨0,0,none⟩=some (.iface 312 (.pointer (some aB)))) (hl:AL w a ls) (h1:1 ≤ ls.length) (h6:ls.length ≤ 6)
  (j:Nat) (hj:j < ls.length) (hok:∀ i x y,i < j → ls[i]? = some (x,y) → BF x y=true) (hbad:∀ x y,ls[j]? = some (x,y) → BF x y=false) :
  Calls Tryz.prog 89 #[.slice a ls.length cap] w fun e w'=>Below w.heap.size w w' ∧ ∃ B,e=.returned (.iface 75 (.pointer (some ⟨B,0,none⟩))) ∧ w.heap.size ≤ B ∧ B < w'.heap.size ∧ w'.cell? ⟨B,0,none⟩=some (.int .i64 j) ∧ w'.cell? ⟨B,1,none⟩=some (.iface 312 (.pointer (some aB))):=by
 obtain ⟨b,off,rfl,hlt,hc⟩:=hl.some h1
 clear hl
 generalize hn:ls.length=n at *
 have Hn:=(show Hid (ls.length=n) from hn)
 clear hn
 go_enter Tryz.func89,Tryz.ntmps89
 go_wp2
 go_loopw [16] (fun i wr=>∃ k:Nat,k ≤ j ∧ i=.int .i64 k ∧ Below w.heap.size w wr) (fun i _=>n - (intOf i).toNat)
 case atStart=>exact ⟨0,Nat.zero_le _,rfl,Below.refl _ _⟩
 case round=>
  obtain ⟨k,hk,rfl,hb⟩:=hrel
  have hs:=hb.size
  have hkn:k < n:=by omega
  obtain ⟨⟨x,y⟩,hp,hm⟩:=Ai ls k (by rw [Hn.out];exact hkn)
  have hc1:wr.cell? ⟨b,off+k * 2,none⟩=some (.int .i64 x):=by rw [hb.cell (p:=⟨b,off+k * 2,none⟩) hlt];exact (hc k x y hp).1
  have hc2:wr.cell? ⟨b,off+k * 2+1,none⟩=some (.int .i64 y):=by rw [hb.cell (p:=⟨b,off+k * 2+1,none⟩) hlt];exact (hc k x y hp).2
  have hgs:0 < w.heap.size:=by
   rcases Nat.lt_or_ge 0 w.heap.size with h | h
   · exact h
   · simp [World.cell?,Array.getElem?_eq_none h] at hB
  have hB2:wr.cell? ⟨0,0,none⟩=some (.iface 312 (.pointer (some aB))):=by rw [hb.cell (p:=⟨0,0,none⟩) hgs];exact hB
  by_cases hkj:k < j
  ·
   have Hxy:=(show Hid (BF x y=true) from hok k x y hkj hp)
   clear hc hok hp hm hbad hB hB2
   go_wp2_with (go_at_call 121;refine (Ir x y _ Hxy.out).mono ?_;rintro e w' ⟨rfl,rfl⟩)
   go_roundw
   case rel=>exact ⟨k+1,by omega,by go_num,(hb.alloc hs _).alloc (by simp;omega) _⟩
   case measure=>simp [intOf];omega
  ·
   obtain rfl:k=j:=by omega
   have Hxy:=(show Hid (BF x y=false) from hbad x y hp)
   clear hc hok hp hm hbad hB
   have hB3:((wr.alloc (.cells #[.int .i64 x,.int .i64 y] 83)).alloc (.cells #[.int .i64 x,.int .i64 y] 83)).cell? ⟨0,0,none⟩=some (.iface 312 (.pointer (some aB))):=by
    rw [World.cell?_alloc_lt _ _ ⟨0,0,none⟩ (Nat.lt_of_lt_of_le hgs (by simp;omega)),World.cell?_alloc_lt _ _ ⟨0,0,none⟩ (Nat.lt_of_lt_of_le hgs hs)];exact hB2
   go_wp2_with (go_at_call 121;refine (PG x y _ Hxy.out).mono ?_;rintro e w' ⟨rfl,rfl⟩)
   go_ret
   refine ⟨((hb.alloc hs _).alloc (by simp;omega) _).alloc (by simp;omega) _,_,rfl,?_,?_,?_,?_⟩
   · omega
   · simp
   · rw [World.cell?_alloc_at _ _ _ _ (by simp)];rfl
   · rw [World.cell?_alloc_at _ _ _ _ (by simp)];rfl
theorem M0 (a:Option Addr) (cap:Nat) (ls:List (Int × Int)) (t:Int) (w:World) (hl:AL w a ls) (h:Ag ls) (hcap:ls.length ≤ cap) (hm:cap ≤ maxLen) (t0:0 ≤ t) (t1:t ≤ 1099511627776) :
  Calls Tryz.prog 64 #[.slice a ls.length cap,.int .i64 t] w fun e w'=>e=.returned (.int .i64 (Bt t ls)) ∧ Below w.heap.size w w':=by
 obtain ⟨h1,h6,hok⟩:=h
 obtain ⟨b,off,rfl,hlt,hc⟩:=hl.some h1
 clear hl
 unfold maxLen at hm
 obtain ⟨x0,y0,r,rfl⟩:∃ x y r,ls=(x,y) :: r:=by
  cases ls with
  | nil=>simp at h1
  | cons p r=>exact ⟨p.1,p.2,r,rfl⟩
 obtain ⟨n,hn⟩:∃ n,r.length=n:=⟨_,rfl⟩
 have Hn:=(show Hid (r.length=n) from hn)
 have h6':n ≤ 5:=by simp at h6;omega
 have hcap':n+1 ≤ cap:=by simp at hcap;omega
 rw [show ((x0,y0) :: r).length=n+1 by simp [hn]]
 clear h1 h6 hcap hn
 have ha:=(hc 0 x0 y0 rfl)
 have hx0:w.cell? ⟨b,off,none⟩=some (.int .i64 x0):=by simpa using ha.1
 have hy0:w.cell? ⟨b,off+1,none⟩=some (.int .i64 y0):=by simpa using ha.2
 clear ha
 have hr:∀ i x y,r[i]? = some (x,y) → w.cell? ⟨b,off+2+i * 2,none⟩=some (.int .i64 x) ∧ w.cell? ⟨b,off+2+i * 2+1,none⟩=some (.int .i64 y):=by
  intro i x y hi
  have:=hc (i+1) x y (by simpa using hi)
  rw [show off+(i+1) * 2=off+2+i * 2 by omega] at this
  exact this
 have hok0:=hok _ (List.mem_cons_self ..)
 have hokr:BJ r:=fun p hp=>hok p (List.mem_cons_of_mem _ hp)
 have hb0:=K9 hok0 t0 t1
 have o0:=Ap hok0
 simp only [] at o0
 obtain ⟨o1,o2,o3,o4⟩:=o0
 obtain ⟨m1,m2⟩:=Ql o3 o4 t0 t1
 have HL:Hid (x0+y0 * t / 1000=Bq t x0 y0):=rfl
 have HC:Hid (Bt t ((x0,y0) :: r)=BL t (Bq t x0 y0) r):=rfl
 clear hok hok0 hc
 by_cases hc1:cap=1
 ·
  subst hc1
  obtain rfl:n=0:=by omega
  have hr0:r=[]:=List.length_eq_zero_iff.1 Hn.out
  subst hr0
  clear hr Hn hokr
  go_enter Tryz.func64,Tryz.ntmps64
  go_wp2
  go_quiet (fail)
  go_wp2
  refine wp_loop_rounds 1 ?_
  rw [rounds_succ]
  go_wp2
  go_ret
  exact ⟨rfl,below_drewN (Below.refl _ _) _⟩
 ·
  have hc2:1 < cap:=by omega
  clear hc1
  go_enter Tryz.func64,Tryz.ntmps64
  go_wp2
  go_quiet (fail)
  go_wp2
  go_loopw [5,23] (fun m i wr=>∃ k:Nat,k ≤ n ∧ i=.int .i64 k ∧ m=.int .i64 (BL t (Bq t x0 y0) (r.take k)) ∧ Below w.heap.size w wr) (fun _ i _=>n - (intOf i).toNat)
  case atStart=>exact ⟨0,Nat.zero_le _,rfl,rfl,below_drewN (Below.refl _ _) _⟩
  case round=>
   obtain ⟨k,hk,rfl,rfl,hb⟩:=hrel
   have hs:=hb.size
   by_cases hkn:k < n
   ·
    obtain ⟨⟨x,y⟩,hp,hm'⟩:=Ai r k (by rw [Hn.out];exact hkn)
    have hc1:wr.cell? ⟨b,off+2+k * 2,none⟩=some (.int .i64 x):=by rw [hb.cell (p:=⟨b,off+2+k * 2,none⟩) hlt];exact (hr k x y hp).1
    have hc2:wr.cell? ⟨b,off+2+k * 2+1,none⟩=some (.int .i64 y):=by rw [hb.cell (p:=⟨b,off+2+k * 2+1,none⟩) hlt];exact (hr k x y hp).2
    have hts:r.take (k+1)=r.take k ++ [(x,y)]:=by rw [List.take_add_one,hp];rfl
    have hsn:=Qc t (r.take k) (Bq t x0 y0) (x,y)
    have HS:Hid (BL t (Bq t x0 y0) (r.take (k+1))=min (BL t (Bq t x0 y0) (r.take k)) (x+y * t / 1000)):=by rw [hts];exact hsn
    have hbd:=T9 t t0 t1 (r.take k) (Bq t x0 y0) (by omega) (by omega) (fun p hp=>hokr p (List.mem_of_mem_take hp))
    obtain ⟨p1,p2,p3,p4⟩:=Ap (hokr _ hm')
    simp only [] at p1 p2 p3 p4
    obtain ⟨q1,q2⟩:=Ql p3 p4 t0 t1
    obtain ⟨M,hM⟩:∃ M,BL t (Bq t x0 y0) (r.take k)=M:=⟨_,rfl⟩
    rw [hM] at hbd ⊢
    have HM:Hid (BL t (Bq t x0 y0) (r.take k)=M):=hM
    clear hM hts hsn hp hm' hr hokr
    obtain ⟨b1,b2,b3⟩:=hbd
    go_wp2
    go_roundw
    case rel=>
     refine ⟨k+1,by omega,by go_num,?_,?_⟩
     ·
      rw [HS.out,HM.out]
      exact congrArg (Value.int .i64) (Y9 _ _)
     · exact hb.alloc hs _
    case measure=>simp [intOf];omega
   ·
    go_wp2
    go_ret
    refine ⟨congrArg (fun z=>Ending.returned (.int .i64 z)) ?_,hb⟩
    rw [List.take_of_length_le (by rw [Hn.out];omega)]
    exact HC.out.symm
def Ar (ls:List (Int × Int)):List Value:=ls.flatMap fun p=>[.int .i64 p.1,.int .i64 p.2]
theorem Gn (p:Int × Int) (r:List (Int × Int)):Ar (p :: r)=.int .i64 p.1 :: .int .i64 p.2 :: Ar r:=rfl
theorem E9 (a b:List (Int × Int)):Ar (a ++ b)=Ar a ++ Ar b:=by simp [Ar]
theorem Fg (ls:List (Int × Int)):(Ar ls).length=ls.length * 2:=by
 induction ls with
 | nil=>rfl
 | cons p r ih=>rw [Gn];simp [ih];omega
theorem Nj (ls:List (Int × Int)):∀ i x y,ls[i]? = some (x,y) → (Ar ls)[i * 2]? = some (.int .i64 x) ∧ (Ar ls)[i * 2+1]? = some (.int .i64 y):=by
 induction ls with
 | nil=>intro i x y h;simp at h
 | cons p r ih=>
  intro i x y h
  rw [Gn]
  cases i with
  | zero=>simp at h;subst h;exact ⟨rfl,rfl⟩
  | succ i=>
   have:=ih i x y (by simpa using h)
   rw [show (i+1) * 2=i * 2+1+1 by omega]
   exact ⟨by simpa using this.1,by simpa using this.2⟩
theorem Pm (ls:List (Int × Int)):∀ j u,(Ar ls)[j]? = some u → ∃ i x y,ls[i]? = some (x,y) ∧ ((j=i * 2 ∧ u=.int .i64 x) ∨ (j=i * 2+1 ∧ u=.int .i64 y)):=by
 induction ls with
 | nil=>intro j u h;simp [Ar] at h
 | cons p r ih=>
  intro j u h
  rw [Gn] at h
  match j,h with
  | 0,h=>exact ⟨0,p.1,p.2,rfl,.inl ⟨rfl,by simpa using h.symm⟩⟩
  | 1,h=>exact ⟨0,p.1,p.2,rfl,.inr ⟨rfl,by simpa using h.symm⟩⟩
  | j+2,h=>
   obtain ⟨i,x,y,hi,hj⟩:=ih j u (by simpa using h)
   exact ⟨i+1,x,y,by simpa using hi,by rcases hj with ⟨e,f⟩ | ⟨e,f⟩;exact .inl ⟨by omega,f⟩;exact .inr ⟨by omega,f⟩⟩
theorem Ed (ls:List (Int × Int)):∀ u ∈ Ar ls,u.oneCell'=true:=by
 intro u hu
 obtain ⟨j,hj⟩:=List.mem_iff_getElem?.1 hu
 obtain ⟨i,x,y,-,h⟩:=Pm ls j u hj
 rcases h with ⟨-,rfl⟩ | ⟨-,rfl⟩ <;> rfl
def A9 (w:World) (B:Nat) (v:Value) (ls:List (Int × Int)):Prop:=w.ownsRow B 83 2 v ls.length (Ar ls)
theorem A9.open {w:World} {B:Nat} {v:Value} {ls:List (Int × Int)} (h:A9 w B v ls) :
  ∃ a cap,v=.slice a ls.length cap ∧ ls.length ≤ cap ∧ cap ≤ maxLen ∧ AL w a ls:=by
 obtain ⟨hlen,⟨rfl,h0⟩ | ⟨g,cap,cur,rfl,hB,hg,hn,hm,hc,ht⟩⟩:=h
 · refine ⟨none,0,by rw [h0],by omega,by simp [maxLen],.inl (List.length_eq_zero_iff.1 h0)⟩
 ·
  refine ⟨_,cap,rfl,hn,hm,.inr ⟨g,0,rfl,?_,fun i x y hi=>?_⟩⟩
  ·
   rcases Nat.lt_or_ge g w.heap.size with h | h
   · exact h
   · simp [Array.getElem?_eq_none h] at hg
  ·
   have hh:w.ownsRow B 83 2 (.slice (some ⟨g,0,none⟩) ls.length cap) ls.length (Ar ls):=⟨hlen,.inr ⟨g,cap,cur,rfl,hB,hg,hn,hm,hc,ht⟩⟩
   have hil:i < ls.length:=by
    rcases Nat.lt_or_ge i ls.length with h | h
    · exact h
    · simp [List.getElem?_eq_none h] at hi
   have:=Nj ls i x y hi
   rw [hh.cellAt _ (by omega),hh.cellAt _ (by omega),Nat.zero_add]
   exact this
theorem FW {w:World} {ad:Addr} {ls:List (Int × Int)} (h:AL w (some ad) ls):∀ j u,(Ar ls)[j]? = some u → w.cell? (ad.add j)=some u:=by
 intro j u hj
 obtain ⟨i,x,y,hi,hc⟩:=Pm ls j u hj
 rcases h with rfl | ⟨b,off,e,-,h⟩
 · simp at hi
 ·
  cases e
  have:=h i x y hi
  rw [Addr.add_lit]
  rcases hc with ⟨rfl,rfl⟩ | ⟨rfl,rfl⟩
  · exact this.1
  · exact this.2
theorem Tryz.infoLine:(Tryz.prog.info? 83).map (fun i=>(i.zero,i.size,i.bytes))=some (some (.agg #[.int .i64 0,.int .i64 0]),2,16):=by kernel_rfl
theorem aY (a:Option Addr) (cap:Nat) (ls:List (Int × Int)) (t:Int) (w:World) (hl:AL w a ls) (h:Ag ls) (hcap:ls.length ≤ cap) (hm:cap ≤ maxLen) (t0:0 ≤ t) (t1:t ≤ 1099511627776) :
  Calls Tryz.prog 106 #[.slice a ls.length cap,.int .i64 t] w fun e w'=>e=.returned (.tuple #[.int .i64 (Bt t ls),.nilIface]) ∧ Below w.heap.size w w':=by
 have HL:Hid (AL w a ls):=hl
 have HO:Hid (Ag ls):=h
 have Hc:Hid (ls.length ≤ cap ∧ cap ≤ maxLen):=⟨hcap,hm⟩
 clear hl h hcap hm
 go_enter Tryz.func106,Tryz.ntmps106
 go_wp2_with fail
 refine (EE a cap ls _ HL.out HO.out).mono ?_
 rintro e w1 ⟨rfl,hb⟩
 have HB:Hid (Below w.heap.size w w1):=hb
 clear hb
 go_wp2_with fail
 refine (M0 a cap ls t _ (HL.out.below HB.out) HO.out Hc.out.1 Hc.out.2 t0 t1).mono ?_
 rintro e w2 ⟨rfl,hb2⟩
 go_wp2_with fail
 go_ret2
 exact ⟨rfl,HB.out.trans (hb2.mono HB.out.size)⟩
theorem au {R:TypeId → Value → World → Prop} (a:Option Addr) (n cap:Nat) (t:Int) (w:World)
  (hc:Calls Tryz.prog 89 #[.slice a n cap] w fun e w'=>∃ ty p,e=.returned (.iface ty p) ∧ R ty p w') :
  Calls Tryz.prog 106 #[.slice a n cap,.int .i64 t] w fun e w'=>∃ ty p,e=.returned (.tuple #[.int .i64 0,.iface ty p]) ∧ R ty p w':=by
 have HC:Hid (Calls Tryz.prog 89 #[.slice a n cap] w fun e w'=>∃ ty p,e=.returned (.iface ty p) ∧ R ty p w'):=hc
 clear hc
 go_enter Tryz.func106,Tryz.ntmps106
 go_wp2_with fail
 refine HC.out.mono ?_
 rintro e w1 ⟨ty,p,rfl,hR⟩
 have HR:Hid (R ty p w1):=hR
 clear hR
 go_wp2_with fail
 go_ret2
 exact ⟨ty,p,rfl,HR.out⟩
theorem Tn (ls:List (Int × Int)):BJ ls ∨ ∃ j,j < ls.length ∧ (∀ i x y,i < j → ls[i]? = some (x,y) → BF x y=true) ∧ ∀ x y,ls[j]? = some (x,y) → BF x y=false:=by
 induction ls with
 | nil=>exact .inl fun p hp=>by cases hp
 | cons q r ih=>
  cases hq:BF q.1 q.2 with
  | false=>exact .inr ⟨0,by simp,fun i x y hi=>by omega,fun x y h=>by simp at h;subst h;exact hq⟩
  | true=>
   rcases ih with h | ⟨j,hj,h1,h2⟩
   ·
    refine .inl fun p hp=>?_
    rcases List.mem_cons.1 hp with rfl | hp
    · exact hq
    · exact h p hp
   ·
    refine .inr ⟨j+1,by simpa using hj,fun i x y hi he=>?_,fun x y he=>h2 x y (by simpa using he)⟩
    cases i with
    | zero=>simp at he;subst he;exact hq
    | succ i=>exact h1 i x y (by omega) (by simpa using he)
structure XX (w:World) (aB aS:Addr):Prop where
 bound:w.cell? ⟨0,0,none⟩=some (.iface 312 (.pointer (some aB)))
 shape:w.cell? ⟨2,0,none⟩=some (.iface 312 (.pointer (some aS)))
theorem XX.below {w w':World} {aB aS:Addr} (h:XX w aB aS) (hb:Below w.heap.size w w'):XX w' aB aS:=
 ⟨cell_later hb h.bound,cell_later hb h.shape⟩
theorem Oi (x y:Int) (w:World) (h:BF x y=true) :
  Calls Tryz.prog 55 #[.agg #[.int .i64 x,.int .i64 y]] w fun e w'=>e=.returned (.int .i64 0) ∧ w'=w.alloc (.cells #[.int .i64 x,.int .i64 y] 83):=by
 obtain ⟨h1,h2,h3,h4⟩:=Ap h
 clear h
 go_enter Tryz.func55,Tryz.ntmps55
 go_wp2
 go_ret
 exact ⟨rfl,rfl⟩
theorem Q3 (x y:Int) (w:World) (h:BF x y=false) :
  Calls Tryz.prog 55 #[.agg #[.int .i64 x,.int .i64 y]] w fun e w'=>e=.returned (.int .i64 2) ∧ w'=w.alloc (.cells #[.int .i64 x,.int .i64 y] 83):=by
 have h':¬ (1 ≤ x ∧ x ≤ 20000 ∧ 0 ≤ y ∧ y ≤ 100000):=of_decide_eq_false h
 clear h
 by_cases h1:1 ≤ x
 ·
  by_cases h2:x ≤ 20000
  ·
   by_cases h3:0 ≤ y
   ·
    have h4:¬ y ≤ 100000:=fun h4=>h' ⟨h1,h2,h3,h4⟩
    clear h'
    go_enter Tryz.func55,Tryz.ntmps55
    go_wp2
    go_ret
    exact ⟨rfl,rfl⟩
   ·
    clear h'
    go_enter Tryz.func55,Tryz.ntmps55
    go_wp2
    go_ret
    exact ⟨rfl,rfl⟩
  ·
   clear h'
   go_enter Tryz.func55,Tryz.ntmps55
   go_wp2
   go_ret
   exact ⟨rfl,rfl⟩
 ·
  clear h'
  go_enter Tryz.func55,Tryz.ntmps55
  go_wp2
  go_ret
  exact ⟨rfl,rfl⟩
theorem A9.lies {w:World} {B:Nat} {a:Option Addr} {n cap:Nat} {ls:List (Int × Int)} (h:A9 w B (.slice a n cap) ls):n=ls.length ∧ ls.length ≤ cap ∧ cap ≤ maxLen ∧ AL w a ls:=by
 obtain ⟨a',cap',e,h1,h2,h3⟩:=h.open
 injection e with e1 e2 e3
 subst e1 e2 e3
 exact ⟨rfl,h1,h2,h3⟩
end Go.Proofs.YtipdclphpkgceaaGreatDoor
