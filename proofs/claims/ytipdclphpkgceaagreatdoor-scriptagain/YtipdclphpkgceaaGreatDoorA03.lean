/- Own facts, put together: no statement of its own. -/
import Derived.Test.YtipdclphpkgceaaGreatDoorA02

namespace Go.Proofs.YtipdclphpkgceaaGreatDoor
def CY (cs:Nat → List (Int × Int)) (ps:List Pk) (f:Nat):Option (List Pk):=if cs f=[] then some (Cj ps f ps.length) else (shape (cs f) (Cj ps f ps.length)).map Sh.out
def Shaped (cs:Nat → List (Int × Int)) (ps:List Pk) (at_:Nat → Int):Prop:=∀ f,f < 8 → ∃ out,CY cs ps f=some out ∧ ∀ (r i:Nat),(A7 ps f ps.length)[r]? = some i → at_ i=Ay out r
def Cv (cs:Nat → List (Int × Int)):Prop:=∀ f,f < 8 → cs f=[] ∨ Ag (cs f)
def FI (ps:List Pk) (at_:Nat → Int) (i:Nat):Pk:=match ps[i]? with | some p=>⟨p.flow,p.size,at_ i⟩ | none=>⟨0,1,0⟩
def BQ (ps:List Pk) (at_:Nat → Int) (L:List Nat):List Pk:=L.map (FI ps at_)
theorem Ee {ps:List Pk} {at_:Nat → Int} {i:Nat} {p:Pk} (h:ps[i]? = some p):FI ps at_ i=⟨p.flow,p.size,at_ i⟩:=by simp [FI,h]
section
variable {cs:Nat → List (Int × Int)} {ps:List Pk} {at_:Nat → Int} {L:List Nat}
structure Z8 (own out:List Pk):Prop where
 len:out.length=own.length
 each:∀ (i:Nat) p q,own[i]? = some p → out[i]? = some q → q.flow=p.flow ∧ q.size=p.size ∧ p.tick ≤ q.tick
 ok:Aj out
theorem QT (ho:Aj ps) (hc:Cv cs) {f:Nat} (hf:f < 8) {out:List Pk} (h:CY cs ps f=some out):Z8 (Cj ps f ps.length) out ∧ (cs f ≠ [] → Oa (cs f) out=true):=by
 have hown:=(QY ho f ps.length (Nat.le_refl _)).1
 unfold CY at h
 by_cases he:cs f=[]
 ·
  rw [if_pos he] at h
  obtain rfl:=Option.some.inj h
  refine ⟨⟨rfl,fun i p q hp hq=>?_,hown⟩,fun hn=>absurd he hn⟩
  rw [hp] at hq
  obtain rfl:=Option.some.inj hq
  exact ⟨rfl,rfl,Int.le_refl _⟩
 ·
  rw [if_neg he] at h
  have hok:Ag (cs f):=by
   rcases hc f hf with h' | h'
   · exact absurd h' he
   · exact h'
  cases hs:shape (cs f) (Cj ps f ps.length) with
  | none=>rw [hs] at h;cases h
  | some s=>
   rw [hs] at h
   obtain rfl:=Option.some.inj h
   have g:=Hg hok _ s hown hs
   exact ⟨⟨g.len,g.each,g.okOut⟩,fun _=>g.fits⟩
theorem Iq (ho:Aj ps) {i:Nat} (hi:i < ps.length):Ae ps i < 8:=by
 have e:ps[i]? = some ps[i]:=List.getElem?_eq_getElem hi
 have:=Bb (ho.each _ _ e).1
 rw [ES e]
 omega
theorem Shaped.at (ho:Aj ps) (hc:Cv cs) (h:Shaped cs ps at_) {i:Nat} (hi:i < ps.length):∃ out q p,CY cs ps (Ae ps i)=some out ∧ Z8 (Cj ps (Ae ps i) ps.length) out ∧ ps[i]? = some p ∧ out[GG ps i]? = some q ∧ q=⟨p.flow,p.size,at_ i⟩ ∧ p.tick ≤ at_ i ∧ Jr q=true:=by
 have hf:=Iq ho hi
 obtain ⟨out,h1,h2⟩:=h _ hf
 have ho':=(QT ho hc hf h1).1
 have hat:=Nr ho hi (Nat.le_refl _)
 have e:ps[i]? = some ps[i]:=List.getElem?_eq_getElem hi
 have hn:=DJ ho (Ae ps i) ps.length (Nat.le_refl _)
 have hown:=(hn.2 _ _ hat).2.2.2
 rw [e] at hown
 have hlt:GG ps i < out.length:=by
  rw [ho'.len]
  exact (List.getElem?_eq_some_iff.1 hown).1
 have eq:out[GG ps i]? = some out[GG ps i]:=List.getElem?_eq_getElem hlt
 have hx:=ho'.each _ _ _ hown eq
 have ht:=h2 _ _ hat
 rw [AJ eq] at ht
 refine ⟨out,_,ps[i],h1,ho',e,eq,?_,by omega,(ho'.ok.each _ _ eq).1⟩
 obtain ⟨x1,x2,x3⟩:=hx
 rw [ht,← x1,← x2]
theorem Shaped.ok (ho:Aj ps) (hc:Cv cs) (h:Shaped cs ps at_) (hL:Bg at_ ps.length L):Aj (BQ ps at_ L):=by
 have hlen:=hL.length
 have key:∀ (r:Nat) (hr:r < L.length),(BQ ps at_ L)[r]? = some (FI ps at_ L[r]) ∧ Jr (FI ps at_ L[r])=true ∧ (FI ps at_ L[r]).tick=at_ L[r]:=fun r hr=>by
  have hin:=(hL.mem _).1 (List.getElem_mem hr)
  obtain ⟨out,q,p,-,-,h3,-,h5,-,h7⟩:=h.at ho hc hin
  refine ⟨by simp [BQ,hr],?_,?_⟩
  · rw [Ee h3,← h5];exact h7
  · rw [Ee h3]
 refine ⟨by simp [BQ];have:=ho.few;omega,fun r p hp=>?_⟩
 have hr:r < L.length:=by
  have:=(List.getElem?_eq_some_iff.1 hp).1
  simpa [BQ] using this
 obtain ⟨k1,k2,k3⟩:=key r hr
 rw [k1] at hp
 obtain rfl:=Option.some.inj hp
 refine ⟨k2,?_⟩
 rw [k3]
 cases r with
 | zero=>
  have:=Bb k2
  show 0 ≤ _
  omega
 | succ r=>
  obtain ⟨m1,-,m3⟩:=key r (by omega)
  simp only [ahead,m1]
  rw [m3]
  have:=List.pairwise_iff_getElem.1 hL.sorted r (r+1) (by omega) hr (by omega)
  unfold Ahead at this
  omega
end
theorem WO {ps:List Pk} (ho:Aj ps):Shaped (fun _=>[]) ps (Ay ps) ∧ Bg (Ay ps) ps.length (List.range ps.length) ∧ BQ ps (Ay ps) (List.range ps.length)=ps:=by
 refine ⟨fun f _=>⟨_,if_pos rfl,fun r i hr=>?_⟩,Bg.range fun i j hij hj=>D6 ho (Nat.le_of_lt hij) hj,?_⟩
 ·
  have:=((DJ ho f ps.length (Nat.le_refl _)).2 r i hr).2.2.2
  unfold Ay
  rw [this]
 ·
  apply List.ext_getElem?
  intro r
  unfold BQ
  rw [List.getElem?_map]
  rcases Nat.lt_or_ge r ps.length with h | h
  ·
   have e:ps[r]? = some ps[r]:=List.getElem?_eq_getElem h
   rw [List.getElem?_eq_getElem (by simpa using h),List.getElem_range,Option.map_some,Ee e,e,AJ e]
  ·
   rw [List.getElem?_eq_none (by simpa using h),List.getElem?_eq_none h]
   rfl
structure Drr where
 qs:Nat → List Nat
 cr:Nat → Int
 row:List Nat
 srv:Option Nat
def Au {α:Type} (f:Nat → α) (k:Nat) (x:α):Nat → α:=fun i=>if i=k then x else f i
theorem Aq {α:Type} (f:Nat → α) (k:Nat) (x:α):Au f k x k=x:=if_pos rfl
theorem Al {α:Type} (f:Nat → α) {k i:Nat} (x:α) (h:i ≠ k):Au f k x i=f i:=if_neg h
def Drr.line (d:Drr):List Nat:=match d.srv with | some f=>f :: d.row | none=>d.row
section
variable (fl:Nat → Nat) (sz:Nat → Int) (qu:Nat → Int)
def Drr.come (d:Drr) (k:Nat):Drr:={ d with qs:=Au d.qs (fl k) (d.qs (fl k) ++ [k]),row:=if fl k ∈ d.line then d.row else d.row ++ [fl k] }
def Drr.turn (d:Drr) (f:Nat) (r:List Nat):Drr:={ d with srv:=some f,row:=r,cr:=Au d.cr f (d.cr f+qu f) }
def Drr.back (d:Drr) (f:Nat):Drr:={ d with srv:=none,row:=d.row ++ [f] }
def Drr.sent (d:Drr) (f k:Nat) (r:List Nat):Drr:=if r=[] then { d with qs:=Au d.qs f [],cr:=Au d.cr f 0,srv:=none } else { d with qs:=Au d.qs f r,cr:=Au d.cr f (d.cr f - sz k) }
structure Cy (M:Int) (d:Drr):Prop where
 nodup:d.line.Nodup
 active:∀ f,f ∈ d.line ↔ d.qs f ≠ []
 low:∀ f,0 ≤ d.cr f
 idle:∀ f,d.qs f=[] → d.cr f=0
 high:∀ f,d.srv ≠ some f → d.cr f ≤ M - 1
 top:∀ f,d.srv=some f → d.cr f ≤ M - 1+qu f
 size:∀ f k,k ∈ d.qs f → fl k=f ∧ 1 ≤ sz k ∧ sz k ≤ M
 big:1 ≤ M
variable {fl sz qu} {M:Int} {d:Drr}
theorem Drr.line_come (d:Drr) (k:Nat):(d.come fl k).line=if fl k ∈ d.line then d.line else d.line ++ [fl k]:=by
 by_cases hm:fl k ∈ d.line
 ·
  have e:(d.come fl k).row=d.row:=if_pos hm
  rw [if_pos hm]
  show (match d.srv with | some f=>f :: (d.come fl k).row | none=>(d.come fl k).row)=d.line
  rw [e]
  rfl
 ·
  have e:(d.come fl k).row=d.row ++ [fl k]:=if_neg hm
  rw [if_neg hm]
  show (match d.srv with | some f=>f :: (d.come fl k).row | none=>(d.come fl k).row)=d.line ++ [fl k]
  rw [e]
  unfold Drr.line
  cases d.srv <;> rfl
theorem Cy.come (h:Cy fl sz qu M d) (k:Nat) (h1:1 ≤ sz k) (h2:sz k ≤ M):Cy fl sz qu M (d.come fl k):=by
 have hline:=Drr.line_come (fl:=fl) d k
 refine ⟨?_,fun f=>?_,h.low,fun f hf=>?_,h.high,h.top,fun f j hj=>?_,h.big⟩
 ·
  rw [hline]
  split
  · exact h.nodup
  · next hn=>exact List.nodup_append.2 ⟨h.nodup,List.nodup_cons.2 ⟨by simp,List.nodup_nil⟩,fun a ha b hb e=>hn (by rw [List.mem_singleton] at hb;rw [← hb,← e];exact ha)⟩
 ·
  rw [hline]
  show _ ↔ Au d.qs (fl k) (d.qs (fl k) ++ [k]) f ≠ []
  by_cases e:f=fl k
  ·
   subst e
   rw [Aq]
   constructor
   ·
    intro _ h0
    simp at h0
   ·
    intro _
    split
    · next hm=>exact hm
    · exact List.mem_append.2 (.inr (List.mem_singleton.2 rfl))
  ·
   rw [Al _ _ e,← h.active f]
   split
   · exact Iff.rfl
   ·
    constructor
    ·
     intro hm
     rcases List.mem_append.1 hm with hm | hm
     · exact hm
     · exact absurd (List.mem_singleton.1 hm) e
    · intro hm;exact List.mem_append.2 (.inl hm)
 ·
  by_cases e:f=fl k
  ·
   subst e
   have:(d.come fl k).qs (fl k)=d.qs (fl k) ++ [k]:=Aq _ _ _
   rw [this] at hf
   simp at hf
  ·
   have:(d.come fl k).qs f=d.qs f:=Al _ _ e
   rw [this] at hf
   exact h.idle f hf
 ·
  by_cases e:f=fl k
  ·
   subst e
   have e2:(d.come fl k).qs (fl k)=d.qs (fl k) ++ [k]:=Aq _ _ _
   rw [e2] at hj
   rcases List.mem_append.1 hj with hj | hj
   · exact h.size _ j hj
   ·
    rw [List.mem_singleton] at hj
    subst hj
    exact ⟨rfl,h1,h2⟩
  ·
   have e2:(d.come fl k).qs f=d.qs f:=Al _ _ e
   rw [e2] at hj
   exact h.size f j hj
theorem Cy.turn (h:Cy fl sz qu M d) (hq:∀ f,1 ≤ qu f) (hs:d.srv=none) {f:Nat} {r:List Nat} (hr:d.row=f :: r):Cy fl sz qu M (d.turn qu f r):=by
 have e0:d.line=f :: r:=by unfold Drr.line;rw [hs];exact hr
 have hline:(d.turn qu f r).line=d.line:=by rw [e0];rfl
 have hne:=(h.active f).1 (by rw [e0];exact List.mem_cons_self ..)
 refine ⟨by rw [hline];exact h.nodup,fun g=>by rw [hline];exact h.active g,fun g=>?_,fun g hg=>?_,fun g hg=>?_,fun g hg=>?_,h.size,h.big⟩
 ·
  show 0 ≤ Au d.cr f (d.cr f+qu f) g
  by_cases e:g=f
  ·
   subst e
   rw [Aq]
   have:=h.low g;have:=hq g;omega
  · rw [Al _ _ e];exact h.low g
 ·
  show Au d.cr f (d.cr f+qu f) g=0
  have hg':d.qs g=[]:=hg
  by_cases e:g=f
  · subst e;exact absurd hg' hne
  · rw [Al _ _ e];exact h.idle g hg'
 ·
  show Au d.cr f (d.cr f+qu f) g ≤ M - 1
  by_cases e:g=f
  · subst e;exact absurd rfl hg
  · rw [Al _ _ e];exact h.high g (by rw [hs];intro e;cases e)
 ·
  show Au d.cr f (d.cr f+qu f) g ≤ M - 1+qu g
  obtain rfl:f=g:=Option.some.inj hg
  rw [Aq]
  have:=h.high f (by rw [hs];intro e;cases e)
  omega
theorem Cy.back (h:Cy fl sz qu M d) {f k:Nat} {r:List Nat} (hs:d.srv=some f) (hk:d.qs f=k :: r) (hbig:d.cr f < sz k):Cy fl sz qu M (d.back f):=by
 have e0:d.line=f :: d.row:=by unfold Drr.line;rw [hs]
 have hline:(d.back f).line=d.row ++ [f]:=rfl
 have hsz:=h.size f k (by rw [hk];exact List.mem_cons_self ..)
 have hn:=h.nodup
 rw [e0] at hn
 obtain ⟨n1,n2⟩:=List.nodup_cons.1 hn
 refine ⟨?_,fun g=>?_,h.low,h.idle,fun g _=>?_,fun g hg=>(by cases hg),h.size,h.big⟩
 ·
  rw [hline]
  exact List.nodup_append.2 ⟨n2,List.nodup_cons.2 ⟨by simp,List.nodup_nil⟩,fun a ha b hb e=>n1 (by rw [List.mem_singleton] at hb;rw [← hb,← e];exact ha)⟩
 ·
  rw [hline]
  have:=h.active g
  rw [e0] at this
  show _ ↔ d.qs g ≠ []
  rw [← this]
  simp only [List.mem_append,List.mem_cons,List.not_mem_nil,or_false]
  constructor
  ·
   rintro (h | h)
   · exact .inr h
   · exact .inl h
  ·
   rintro (h | h)
   · exact .inr h
   · exact .inl h
 ·
  show d.cr g ≤ M - 1
  by_cases e:g=f
  · subst e;omega
  · exact h.high g (by rw [hs];intro e';exact e (Option.some.inj e').symm)
theorem Cy.sent (h:Cy fl sz qu M d) {f k:Nat} {r:List Nat} (hs:d.srv=some f) (hk:d.qs f=k :: r) (hfit:sz k ≤ d.cr f):Cy fl sz qu M (d.sent sz f k r):=by
 have e0:d.line=f :: d.row:=by unfold Drr.line;rw [hs]
 have hsz:=h.size f k (by rw [hk];exact List.mem_cons_self ..)
 have hn:=h.nodup
 rw [e0] at hn
 obtain ⟨n1,n2⟩:=List.nodup_cons.1 hn
 have hB:=h.big
 by_cases hr:r=[]
 ·
  have e1:d.sent sz f k r={ d with qs:=Au d.qs f [],cr:=Au d.cr f 0,srv:=none }:=if_pos hr
  rw [e1]
  refine ⟨n2,fun g=>?_,fun g=>?_,fun g hg=>?_,fun g _=>?_,fun g hg=>(by cases hg),fun g j hj=>?_,hB⟩
  ·
   show g ∈ d.row ↔ Au d.qs f [] g ≠ []
   have:=h.active g
   rw [e0] at this
   by_cases e:g=f
   ·
    subst e
    rw [Aq]
    exact ⟨fun hm=>absurd hm n1,fun h0=>absurd rfl h0⟩
   ·
    rw [Al _ _ e,← this]
    exact ⟨fun hm=>List.mem_cons_of_mem _ hm,fun hm=>by
     rcases List.mem_cons.1 hm with hm | hm
     · exact absurd hm e
     · exact hm⟩
  ·
   show 0 ≤ Au d.cr f 0 g
   by_cases e:g=f
   · subst e;rw [Aq];exact Int.le_refl _
   · rw [Al _ _ e];exact h.low g
  ·
   show Au d.cr f 0 g=0
   by_cases e:g=f
   · subst e;exact Aq _ _ _
   ·
    have hg':Au d.qs f [] g=[]:=hg
    rw [Al _ _ e] at hg' ⊢
    exact h.idle g hg'
  ·
   show Au d.cr f 0 g ≤ M - 1
   by_cases e:g=f
   · subst e;rw [Aq];omega
   ·
    rw [Al _ _ e]
    exact h.high g (by rw [hs];intro e';exact e (Option.some.inj e').symm)
  ·
   have hj':j ∈ Au d.qs f [] g:=hj
   by_cases e:g=f
   · subst e;rw [Aq] at hj';cases hj'
   · rw [Al _ _ e] at hj';exact h.size g j hj'
 ·
  have e1:d.sent sz f k r={ d with qs:=Au d.qs f r,cr:=Au d.cr f (d.cr f - sz k) }:=if_neg hr
  rw [e1]
  refine ⟨h.nodup,fun g=>?_,fun g=>?_,fun g hg=>?_,fun g hg=>?_,fun g hg=>?_,fun g j hj=>?_,hB⟩
  ·
   show g ∈ d.line ↔ Au d.qs f r g ≠ []
   by_cases e:g=f
   ·
    subst e
    rw [Aq]
    exact ⟨fun _=>hr,fun _=>by rw [e0];exact List.mem_cons_self ..⟩
   · rw [Al _ _ e];exact h.active g
  ·
   show 0 ≤ Au d.cr f (d.cr f - sz k) g
   by_cases e:g=f
   · subst e;rw [Aq];omega
   · rw [Al _ _ e];exact h.low g
  ·
   show Au d.cr f (d.cr f - sz k) g=0
   have hg':Au d.qs f r g=[]:=hg
   by_cases e:g=f
   · subst e;rw [Aq] at hg';exact absurd hg' hr
   · rw [Al _ _ e] at hg' ⊢;exact h.idle g hg'
  ·
   show Au d.cr f (d.cr f - sz k) g ≤ M - 1
   have hg':d.srv ≠ some g:=hg
   have e:g ≠ f:=fun e=>hg' (by rw [e];exact hs)
   rw [Al _ _ e];exact h.high g hg'
  ·
   show Au d.cr f (d.cr f - sz k) g ≤ M - 1+qu g
   have hg':d.srv=some g:=hg
   obtain rfl:f=g:=Option.some.inj (hs.symm.trans hg')
   rw [Aq]
   have:=h.top f hs
   omega
  ·
   have hj':j ∈ Au d.qs f r g:=hj
   by_cases e:g=f
   ·
    subst e
    rw [Aq] at hj'
    exact h.size g j (by rw [hk];exact List.mem_cons_of_mem _ hj')
   · rw [Al _ _ e] at hj';exact h.size g j hj'
def BV (a b:Nat):List Nat → Bool
 | []=>true
 | x :: r=>if x=a then true else if x=b then false else BV a b r
theorem EF {a b:Nat}:∀ (l m:List Nat),a ∈ l ∨ b ∈ l → BV a b (l ++ m)=BV a b l:=by
 intro l m
 induction l with
 | nil=>intro h;rcases h with h | h <;> cases h
 | cons x r ih=>
  intro h
  simp only [List.cons_append,BV]
  by_cases e:x=a
  · rw [if_pos e,if_pos e]
  ·
   by_cases e2:x=b
   · rw [if_neg e,if_neg e,if_pos e2,if_pos e2]
   ·
    rw [if_neg e,if_neg e,if_neg e2,if_neg e2]
    refine ih ?_
    rcases h with h | h
    ·
     rcases List.mem_cons.1 h with h | h
     · exact absurd h.symm e
     · exact .inl h
    ·
     rcases List.mem_cons.1 h with h | h
     · exact absurd h.symm e2
     · exact .inr h
theorem RA {a b:Nat}:∀ (l:List Nat),a ∉ l → b ∈ l → BV a b l=false:=by
 intro l
 induction l with
 | nil=>intro _ h;cases h
 | cons x r ih=>
  intro h1 h2
  simp only [BV]
  have e:x ≠ a:=fun e=>h1 (by rw [e];exact List.mem_cons_self ..)
  rw [if_neg e]
  by_cases e2:x=b
  · rw [if_pos e2]
  ·
   rw [if_neg e2]
   refine ih (fun h=>h1 (List.mem_cons_of_mem _ h)) ?_
   rcases List.mem_cons.1 h2 with h | h
   · exact absurd h.symm e2
   · exact h
theorem P6 {a b:Nat}:∀ (l:List Nat),b ∉ l → a ∈ l → BV a b l=true:=by
 intro l
 induction l with
 | nil=>intro _ h;cases h
 | cons x r ih=>
  intro h1 h2
  simp only [BV]
  by_cases e:x=a
  · rw [if_pos e]
  ·
   rw [if_neg e,if_neg (fun e=>h1 (by rw [e];exact List.mem_cons_self ..))]
   refine ih (fun h=>h1 (List.mem_cons_of_mem _ h)) ?_
   rcases List.mem_cons.1 h2 with h | h
   · exact absurd h.symm e
   · exact h
def Drr.pot (d:Drr) (a b:Nat):Int:=(if BV a b d.line then 0 else 1)+(if d.srv=some a then 1 else 0) - (if d.srv=some b then 1 else 0)
def Drr.lead (d:Drr) (qu:Nat → Int) (a b:Nat):Int:=qu a * qu b * d.pot a b - d.cr a * qu b+d.cr b * qu a
theorem Cy.cr_in (h:Cy fl sz qu M d) (hq:∀ f,1 ≤ qu f) (f:Nat):0 ≤ d.cr f ∧ d.cr f ≤ M - 1+qu f:=by
 refine ⟨h.low f,?_⟩
 by_cases e:d.srv=some f
 · exact h.top f e
 · have:=h.high f e;have:=hq f;omega
theorem WH {a b:Nat} (k:Nat) (ha:a ∈ d.line):(d.come fl k).lead qu a b=d.lead qu a b:=by
 have hp:(d.come fl k).pot a b=d.pot a b:=by
  unfold Drr.pot
  rw [Drr.line_come]
  have e:(d.come fl k).srv=d.srv:=rfl
  rw [e]
  split
  · rfl
  · rw [EF _ _ (.inl ha)]
 unfold Drr.lead
 rw [hp]
 rfl
theorem XQ {a b:Nat} (hab:a ≠ b) (hs:d.srv=none) {f:Nat} {r:List Nat} (hr:d.row=f :: r):(d.turn qu f r).lead qu a b=d.lead qu a b:=by
 have e0:d.line=f :: r:=by unfold Drr.line;rw [hs];exact hr
 have hline:(d.turn qu f r).line=d.line:=by rw [e0];rfl
 have hs2:(d.turn qu f r).srv=some f:=rfl
 have hc:(d.turn qu f r).cr=Au d.cr f (d.cr f+qu f):=rfl
 unfold Drr.lead Drr.pot
 rw [hline,hs2,hs,hc,e0]
 simp only [BV,Option.some.injEq]
 by_cases ea:f=a
 ·
  subst ea
  rw [Aq,Al _ _ (Ne.symm hab)]
  simp only [if_true,if_neg hab,reduceCtorEq,if_false]
  rw [Int.add_mul]
  omega
 ·
  by_cases eb:f=b
  ·
   subst eb
   rw [Aq,Al _ _ (Ne.symm ea)]
   simp only [if_true,if_neg ea,reduceCtorEq,if_false,Bool.false_eq_true]
   rw [Int.add_mul,Int.mul_comm (qu f) (qu a)]
   omega
  ·
   rw [Al _ _ (Ne.symm ea),Al _ _ (Ne.symm eb)]
   simp only [if_neg ea,if_neg eb,reduceCtorEq,if_false]
theorem Wj {a b:Nat} (hab:a ≠ b) (hn:d.line.Nodup) {f:Nat} (hs:d.srv=some f) (ha:a ∈ d.line) (hb:b ∈ d.line):(d.back f).lead qu a b=d.lead qu a b:=by
 have e0:d.line=f :: d.row:=by unfold Drr.line;rw [hs]
 have hline:(d.back f).line=d.row ++ [f]:=rfl
 have hs2:(d.back f).srv=none:=rfl
 have hc:(d.back f).cr=d.cr:=rfl
 rw [e0] at hn ha hb
 obtain ⟨n1,n2⟩:=List.nodup_cons.1 hn
 have hp:(d.back f).pot a b=d.pot a b:=by
  unfold Drr.pot
  rw [hline,hs2,hs,e0]
  by_cases ea:f=a
  ·
   subst ea
   have hb':b ∈ d.row:=by
    rcases List.mem_cons.1 hb with h | h
    · exact absurd h.symm hab
    · exact h
   have k1:BV f b (f :: d.row)=true:=by simp [BV]
   have k2:BV f b (d.row ++ [f])=false:=by rw [EF _ _ (.inr hb')];exact RA _ n1 hb'
   simp [k1,k2,hab]
  ·
   by_cases eb:f=b
   ·
    subst eb
    have ha':a ∈ d.row:=by
     rcases List.mem_cons.1 ha with h | h
     · exact absurd h.symm ea
     · exact h
    have k1:BV a f (f :: d.row)=false:=by simp [BV,ea]
    have k2:BV a f (d.row ++ [f])=true:=by rw [EF _ _ (.inl ha')];exact P6 _ n1 ha'
    simp [k1,k2,ea]
   ·
    have ha':a ∈ d.row:=by
     rcases List.mem_cons.1 ha with h | h
     · exact absurd h.symm ea
     · exact h
    have k1:BV a b (f :: d.row)=BV a b d.row:=by simp [BV,ea,eb]
    have k2:BV a b (d.row ++ [f])=BV a b d.row:=EF _ _ (.inl ha')
    simp [k1,k2,ea,eb]
 unfold Drr.lead
 rw [hp,hc]
end
section
variable (fl:Nat → Nat) (sz:Nat → Int) (qu:Nat → Int)
def Drr.go:Nat → Drr → Option (Nat × Drr)
 | 0,_=>none
 | n+1,d=>match d.srv with
  | none=>(match d.row with | []=>none | f :: r=>Drr.go n (d.turn qu f r))
  | some f=>(match d.qs f with | []=>none | k :: r=>if sz k ≤ d.cr f then some (k,d.sent sz f k r) else Drr.go n (d.back f))
def af (d:Drr) (k:Nat) (e:Drr):Prop:=∃ n,Drr.go sz qu n d=some (k,e)
structure VK (M:Int) (d:Drr) (k:Nat) (e:Drr) (f:Nat) (r:List Nat) (c:Drr):Prop where
 ok:Cy fl sz qu M c
 srv:c.srv=some f
 head:c.qs f=k :: r
 fit:sz k ≤ c.cr f
 left:e=c.sent sz f k r
 same:c.qs=d.qs
 lead:∀ a b,a ≠ b → a ∈ d.line → b ∈ d.line → c.lead qu a b=d.lead qu a b
variable {fl sz qu} {M:Int}
theorem S9 (hq:∀ f,1 ≤ qu f):∀ (n:Nat) (d:Drr) (k:Nat) (e:Drr),Cy fl sz qu M d → Drr.go sz qu n d=some (k,e) → ∃ f r c,VK fl sz qu M d k e f r c:=by
 intro n
 induction n with
 | zero=>intro d k e _ h;simp [Drr.go] at h
 | succ n ih=>
  intro d k e hok h
  unfold Drr.go at h
  cases hs:d.srv with
  | none=>
   rw [hs] at h
   simp only at h
   cases hr:d.row with
   | nil=>rw [hr] at h;simp at h
   | cons f r=>
    rw [hr] at h
    simp only at h
    have e0:d.line=f :: r:=by unfold Drr.line;rw [hs];exact hr
    have hline:(d.turn qu f r).line=d.line:=by rw [e0];rfl
    obtain ⟨f',r',c,h1⟩:=ih _ k e (hok.turn hq hs hr) h
    exact ⟨f',r',c,h1.ok,h1.srv,h1.head,h1.fit,h1.left,h1.same,fun a b hab ha hb=>(h1.lead a b hab (by rw [hline];exact ha) (by rw [hline];exact hb)).trans (XQ hab hs hr)⟩
  | some f=>
   rw [hs] at h
   simp only at h
   cases hk:d.qs f with
   | nil=>rw [hk] at h;simp at h
   | cons j r=>
    rw [hk] at h
    simp only at h
    by_cases hfit:sz j ≤ d.cr f
    ·
     rw [if_pos hfit] at h
     have h:=Option.some.inj h
     obtain ⟨rfl,rfl⟩:=Prod.mk.inj h
     exact ⟨f,r,d,hok,hs,hk,hfit,rfl,rfl,fun _ _ _ _ _=>rfl⟩
    ·
     rw [if_neg hfit] at h
     have e0:d.line=f :: d.row:=by unfold Drr.line;rw [hs]
     have hline:(d.back f).line=d.row ++ [f]:=rfl
     have hmem:∀ a,a ∈ d.line → a ∈ (d.back f).line:=fun a ha=>by
      rw [e0] at ha
      rw [hline]
      rcases List.mem_cons.1 ha with ha | ha
      · exact List.mem_append.2 (.inr (List.mem_singleton.2 ha))
      · exact List.mem_append.2 (.inl ha)
     obtain ⟨f',r',c,h1⟩:=ih _ k e (hok.back hs hk (Int.lt_of_not_ge hfit)) h
     exact ⟨f',r',c,h1.ok,h1.srv,h1.head,h1.fit,h1.left,h1.same,fun a b hab ha hb=>(h1.lead a b hab (hmem a ha) (hmem b hb)).trans (Wj hab hok.nodup hs ha hb)⟩
theorem ZE:∀ (n:Nat) (d:Drr) (x:Nat × Drr),Drr.go sz qu n d=some x → Drr.go sz qu (n+1) d=some x:=by
 intro n
 induction n with
 | zero=>intro d x h;simp [Drr.go] at h
 | succ n ih=>
  intro d x h
  rw [Drr.go] at h ⊢
  cases hs:d.srv with
  | none=>
   rw [hs] at h
   simp only at h ⊢
   cases hr:d.row with
   | nil=>rw [hr] at h;simp at h
   | cons f r=>
    rw [hr] at h
    simp only at h ⊢
    exact ih _ _ h
  | some f=>
   rw [hs] at h
   simp only at h ⊢
   cases hk:d.qs f with
   | nil=>rw [hk] at h;simp at h
   | cons j r=>
    rw [hk] at h
    simp only at h ⊢
    by_cases hfit:sz j ≤ d.cr f
    · rw [if_pos hfit] at h ⊢;exact h
    · rw [if_neg hfit] at h ⊢;exact ih _ _ h
def Drr.lack (sz:Nat → Int) (d:Drr) (f:Nat):Nat:=match d.qs f with | []=>0 | k :: _=>(sz k - d.cr f).toNat
def Drr.need (sz:Nat → Int) (d:Drr):Nat:=(d.line.map (d.lack sz)).sum
theorem Mv:∀ (l:List Nat) (a:Nat),a ∈ l → a ≤ l.sum
 | [],_,h=>by cases h
 | x :: r,a,h=>by
  rw [List.sum_cons]
  rcases List.mem_cons.1 h with h | h
  · omega
  · have:=Mv r a h;omega
theorem Tm (hq:∀ f,1 ≤ qu f):∀ (N:Nat) (d:Drr),Cy fl sz qu M d → d.line ≠ [] → d.need sz ≤ N → d.srv=none → ∃ x,Drr.go sz qu (2 * N+4) d=some x:=by
 intro N
 induction N with
 | zero=>
  intro d hok hne hN hs
  have e0:d.line=d.row:=by unfold Drr.line;rw [hs]
  cases hr:d.row with
  | nil=>rw [e0,hr] at hne;exact absurd rfl hne
  | cons f r=>
   have hf:f ∈ d.line:=by rw [e0,hr];exact List.mem_cons_self ..
   have h0:d.lack sz f ≤ d.need sz:=Mv _ _ (List.mem_map.2 ⟨f,hf,rfl⟩)
   have hne':=(hok.active f).1 hf
   unfold Drr.lack at h0
   cases hk:d.qs f with
   | nil=>exact absurd hk hne'
   | cons k r'=>
    rw [hk] at h0
    simp only at h0
    have hcr:(d.turn qu f r).cr f=d.cr f+qu f:=Aq _ _ _
    have hs1:(d.turn qu f r).srv=some f:=rfl
    have hk1:(d.turn qu f r).qs f=k :: r':=hk
    have hfit:sz k ≤ (d.turn qu f r).cr f:=by rw [hcr];have:=hq f;omega
    refine ⟨(k,(d.turn qu f r).sent sz f k r'),?_⟩
    rw [Drr.go,hs]
    simp only [hr]
    rw [Drr.go,hs1]
    simp only [hk1,if_pos hfit]
 | succ N ih=>
  intro d hok hne hN hs
  have e0:d.line=d.row:=by unfold Drr.line;rw [hs]
  cases hr:d.row with
  | nil=>rw [e0,hr] at hne;exact absurd rfl hne
  | cons f r=>
   have hok1:=hok.turn hq hs hr
   have hf:d.qs f ≠ []:=(hok.active f).1 (by rw [e0,hr];exact List.mem_cons_self ..)
   cases hk:d.qs f with
   | nil=>exact absurd hk hf
   | cons k r'=>
    have hs1:(d.turn qu f r).srv=some f:=rfl
    have hk1:(d.turn qu f r).qs f=k :: r':=hk
    by_cases hfit:sz k ≤ (d.turn qu f r).cr f
    ·
     refine ⟨(k,(d.turn qu f r).sent sz f k r'),?_⟩
     rw [show 2 * (N+1)+4=(2 * N+4)+1+1 by omega,Drr.go,hs]
     simp only [hr]
     rw [Drr.go,hs1]
     simp only [hk1,if_pos hfit]
    ·
     have hok2:=hok1.back hs1 hk1 (Int.lt_of_not_ge hfit)
     have hline2:((d.turn qu f r).back f).line=r ++ [f]:=rfl
     have hcr:(d.turn qu f r).cr f=d.cr f+qu f:=Aq _ _ _
     have hn:=hok.nodup
     rw [e0,hr] at hn
     obtain ⟨n1,n2⟩:=List.nodup_cons.1 hn
     have hl1:∀ g,g ∈ r → ((d.turn qu f r).back f).lack sz g=d.lack sz g:=fun g hg=>by
      have e:g ≠ f:=fun e=>n1 (by rw [← e];exact hg)
      unfold Drr.lack
      show (match d.qs g with | []=>0 | k :: _=>(sz k - Au d.cr f (d.cr f+qu f) g).toNat)=_
      rw [Al _ _ e]
     have hl2:((d.turn qu f r).back f).lack sz f+1 ≤ d.lack sz f:=by
      unfold Drr.lack
      show (match d.qs f with | []=>0 | k :: _=>(sz k - Au d.cr f (d.cr f+qu f) f).toNat)+1 ≤ _
      rw [Aq,hk]
      simp only
      rw [hcr] at hfit
      have:=hq f
      omega
     have hneed:((d.turn qu f r).back f).need sz+1 ≤ d.need sz:=by
      unfold Drr.need
      rw [hline2,e0,hr,List.map_append,List.sum_append,List.map_cons,List.sum_cons,List.map_congr_left hl1]
      simp only [List.map_cons,List.map_nil,List.sum_cons,List.sum_nil]
      omega
     obtain ⟨x,hx⟩:=ih ((d.turn qu f r).back f) hok2 (by rw [hline2];simp) (by omega) rfl
     refine ⟨x,?_⟩
     rw [show 2 * (N+1)+4=(2 * N+4)+1+1 by omega,Drr.go,hs]
     simp only [hr]
     rw [Drr.go,hs1]
     simp only [hk1,if_neg hfit]
     exact hx
theorem ZK (hq:∀ f,1 ≤ qu f) (N:Nat) (d:Drr) (hok:Cy fl sz qu M d) (hne:d.line ≠ []) (hN:d.need sz ≤ N):∃ x,Drr.go sz qu (2 * N+5) d=some x:=by
 cases hs:d.srv with
 | none=>
  obtain ⟨x,hx⟩:=Tm hq N d hok hne hN hs
  exact ⟨x,ZE _ _ _ hx⟩
 | some f=>
  have e0:d.line=f :: d.row:=by unfold Drr.line;rw [hs]
  have hf:d.qs f ≠ []:=(hok.active f).1 (by rw [e0];exact List.mem_cons_self ..)
  cases hk:d.qs f with
  | nil=>exact absurd hk hf
  | cons k r'=>
   by_cases hfit:sz k ≤ d.cr f
   ·
    refine ⟨(k,d.sent sz f k r'),?_⟩
    rw [Drr.go,hs]
    simp only [hk,if_pos hfit]
   ·
    have hok2:=hok.back hs hk (Int.lt_of_not_ge hfit)
    have hline2:(d.back f).line=d.row ++ [f]:=rfl
    have hneed:(d.back f).need sz=d.need sz:=by
     have e1:(d.back f).need sz=((d.row ++ [f]).map (d.lack sz)).sum:=rfl
     have e2:d.need sz=((f :: d.row).map (d.lack sz)).sum:=by unfold Drr.need;rw [e0]
     rw [e1,e2,List.map_append,List.sum_append,List.map_cons,List.sum_cons]
     simp only [List.map_cons,List.map_nil,List.sum_cons,List.sum_nil]
     omega
    obtain ⟨x,hx⟩:=Tm hq N (d.back f) hok2 (by rw [hline2];simp) (by omega) rfl
    refine ⟨x,?_⟩
    rw [Drr.go,hs]
    simp only [hk,if_neg hfit]
    exact hx
end
structure Tv {σ:Type} (Q:Que σ) (fl:Nat → Nat) (sz qu:Nat → Int) (q0:σ) (ok:σ → Prop) (view:σ → Drr):Prop where
 start:ok q0 ∧ view q0=⟨fun _=>[],fun _=>0,[],none⟩
 come:∀ q k,ok q → ok (Q.come q k) ∧ view (Q.come q k)=(view q).come fl k
 pick:∀ q,ok q → 0 < Q.rest q → ok (Q.left q) ∧ af sz qu (view q) (Q.pick q) (view (Q.left q))
 rest:∀ q,ok q → (Q.rest q=0 ↔ (view q).line=[])
 idle:∀ q,ok q → Q.rest q=0 → ok (Q.idle q) ∧ view (Q.idle q)=view q
structure N8 {σ:Type} (fl:Nat → Nat) (sz qu:Nat → Int) (M:Int) (ps:List Pk) (ok:σ → Prop) (view:σ → Drr) (s:St σ) (H:List (Drr × Drr)):Prop where
 good:ok s.q
 state:Cy fl sz qu M (view s.q)
 len:H.length=s.out.length
 each:∀ (i:Nat) x h,s.out[i]? = some x → H[i]? = some h → ∃ k:Nat,x.num=k ∧ Cy fl sz qu M h.1 ∧ Cy fl sz qu M h.2 ∧ af sz qu h.1 k h.2 ∧ ∀ w:Nat,w < ps.length → Ay ps w ≤ x.beg → AZ (s.out.take (i+1)) w=false → w ∈ h.2.qs (fl w)
 next:∀ (i:Nat) h h',H[i]? = some h → H[i+1]? = some h' → ∀ a b,a ∈ h.2.line → b ∈ h.2.line → h'.1.lead qu a b=h.2.lead qu a b
 last:∀ h,H[H.length - 1]? = some h → 0 < H.length → ∀ a b,a ∈ h.2.line → b ∈ h.2.line → (∀ c,c ∈ h.2.line → c ∈ (view s.q).line) ∧ (view s.q).lead qu a b=h.2.lead qu a b
 wait:∀ w,w < s.next → AZ s.out w=false → w ∈ (view s.q).qs (fl w)
 only:∀ f w,w ∈ (view s.q).qs f → w < s.next ∧ AZ s.out w=false
 le:s.next ≤ ps.length
 gone:∀ w:Nat,AZ s.out w=true → w < s.next
 once:∀ f,((view s.q).qs f).Nodup
section
variable {σ:Type} {Q:Que σ} {fl:Nat → Nat} {sz qu:Nat → Int} {q0:σ} {ok:σ → Prop} {view:σ → Drr} {M:Int} {per:Int} {ps:List Pk}
theorem WS {d:Drr} {k c:Nat} (h:c ∈ d.line):c ∈ (d.come fl k).line:=by
 rw [Drr.line_come]
 split
 · exact h
 · exact List.mem_append.2 (.inl h)
theorem Nu (hM:1 ≤ M):Cy fl sz qu M ⟨fun _=>[],fun _=>0,[],none⟩:=
 ⟨List.nodup_nil,fun f=>⟨(fun h=>by cases h),fun h=>absurd rfl h⟩,fun _=>Int.le_refl _,fun _ _=>rfl,(fun _ _=>by show (0:Int) ≤ M - 1;omega),(fun _ h=>by cases h),(fun _ _ h=>by cases h),hM⟩
theorem Qd {d:Drr} {f k:Nat} {r:List Nat}:(d.sent sz f k r).qs=Au d.qs f r:=by
 unfold Drr.sent
 split
 · next h=>rw [h]
 · rfl
theorem KS (hL:Tv Q fl sz qu q0 ok view) (hq:∀ f,1 ≤ qu f) (hM:1 ≤ M) (hsz:∀ k,k < ps.length → 1 ≤ sz k ∧ sz k ≤ M) (ho:Aj ps) {s:St σ} (h:Reaches Q per ps q0 s):∃ H,N8 fl sz qu M ps ok view s H:=by
 refine h.by_steps (C:=fun s=>∃ H,N8 fl sz qu M ps ok view s H) ?_ ?_ ?_ ?_
 ·
  refine ⟨[],hL.start.1,by rw [hL.start.2];exact Nu hM,rfl,fun i x h hx=>by simp at hx,fun i h h' hx=>by simp at hx,fun h _ h0=>by simp at h0,fun w hw=>absurd hw (Nat.not_lt_zero _),fun f w hw=>?_,Nat.zero_le _,(fun w hw=>by simp [AZ] at hw),fun f=>?_⟩
  rotate_left
  ·
   show ((view q0).qs f).Nodup
   rw [hL.start.2]
   exact List.nodup_nil
  have:w ∈ (view q0).qs f:=hw
  rw [hL.start.2] at this
  cases this
 ·
  rintro s p hs hp ht ⟨H,r⟩
  obtain ⟨o1,o2⟩:=hL.come s.q s.next r.good
  have hlt:=Ad hp
  have hnew:AZ s.out s.next=false:=by
   cases hd:AZ s.out s.next with
   | false=>rfl
   | true=>have:=r.gone _ hd;omega
  refine ⟨H,o1,by rw [o2];exact r.state.come _ (hsz _ hlt).1 (hsz _ hlt).2,r.len,r.each,r.next,fun h hh h0 a b ha hb=>?_,fun w hw hd=>?_,fun f w hw=>?_,hlt,fun w hw=>Nat.lt_succ_of_lt (r.gone w hw),fun f=>?_⟩
  ·
   obtain ⟨g1,g2⟩:=r.last h hh h0 a b ha hb
   refine ⟨fun c hc=>by rw [o2];exact WS (g1 c hc),?_⟩
   rw [o2,WH _ (g1 a ha)]
   exact g2
  ·
   show w ∈ (view (Q.come s.q s.next)).qs (fl w)
   rw [o2]
   show w ∈ Au (view s.q).qs (fl s.next) ((view s.q).qs (fl s.next) ++ [s.next]) (fl w)
   rcases Nat.lt_or_ge w s.next with hw' | hw'
   ·
    have:=r.wait w hw' hd
    by_cases e:fl w=fl s.next
    · rw [e,Aq];rw [e] at this;exact List.mem_append.2 (.inl this)
    · rw [Al _ _ e];exact this
   ·
    obtain rfl:w=s.next:=by simp only at hw;omega
    rw [Aq]
    exact List.mem_append.2 (.inr (List.mem_singleton.2 rfl))
  ·
   have hw2:w ∈ (view (Q.come s.q s.next)).qs f:=hw
   rw [o2] at hw2
   have hw3:w ∈ Au (view s.q).qs (fl s.next) ((view s.q).qs (fl s.next) ++ [s.next]) f:=hw2
   by_cases e:f=fl s.next
   ·
    subst e
    rw [Aq] at hw3
    rcases List.mem_append.1 hw3 with hw3 | hw3
    ·
     obtain ⟨g1,g2⟩:=r.only _ w hw3
     exact ⟨Nat.lt_succ_of_lt g1,g2⟩
    ·
     rw [List.mem_singleton] at hw3
     subst hw3
     exact ⟨Nat.lt_succ_self _,hnew⟩
   ·
    rw [Al _ _ e] at hw3
    obtain ⟨g1,g2⟩:=r.only _ w hw3
    exact ⟨Nat.lt_succ_of_lt g1,g2⟩
  ·
   show ((view (Q.come s.q s.next)).qs f).Nodup
   rw [o2]
   show (Au (view s.q).qs (fl s.next) ((view s.q).qs (fl s.next) ++ [s.next]) f).Nodup
   by_cases e:f=fl s.next
   ·
    subst e
    rw [Aq]
    refine List.nodup_append.2 ⟨r.once _,List.nodup_cons.2 ⟨by simp,List.nodup_nil⟩,fun a ha b hb e=>?_⟩
    rw [List.mem_singleton] at hb
    have:=(r.only _ a ha).1
    omega
   · rw [Al _ _ e];exact r.once f
 ·
  rintro s p hs hall h0 hp ⟨H,r⟩
  obtain ⟨o1,o2⟩:=hL.pick s.q r.good h0
  obtain ⟨n,hgo⟩:=o2
  obtain ⟨f,t,c,sa⟩:=S9 hq n _ _ _ r.state hgo
  have hqs:(view (Q.left s.q)).qs=Au (view s.q).qs f t:=by rw [sa.left,Qd,sa.same]
  have hhead:(view s.q).qs f=Q.pick s.q :: t:=by rw [← sa.same];exact sa.head
  have hkm:Q.pick s.q ∈ (view s.q).qs f:=by rw [hhead];exact List.mem_cons_self ..
  obtain ⟨kf,ks1,ks2⟩:=r.state.size f _ hkm
  obtain ⟨k1,k2⟩:=r.only f _ hkm
  have hon:=r.once f
  rw [hhead] at hon
  obtain ⟨n1,n2⟩:=List.nodup_cons.1 hon
  have hstay:∀ w,w ∈ (view s.q).qs (fl w) → w ≠ Q.pick s.q → w ∈ (view (Q.left s.q)).qs (fl w):=by
   intro w hw hne
   rw [hqs]
   by_cases e:fl w=f
   ·
    rw [e,Aq]
    rw [e,hhead] at hw
    rcases List.mem_cons.1 hw with h | h
    · exact absurd h hne
    · exact h
   · rw [Al _ _ e];exact hw
  have hnd:∀ w:Nat,AZ (s.out ++ [⟨(Q.pick s.q:Nat),s.now,s.now+per * p.size⟩]) w=false → AZ s.out w=false ∧ w ≠ Q.pick s.q:=by
   intro w hw
   rw [Cq,Bool.or_eq_false_iff] at hw
   exact ⟨hw.1,fun e=>beq_eq_false_iff_ne.1 hw.2 e.symm⟩
  refine ⟨H ++ [(view s.q,view (Q.left s.q))],o1,by rw [sa.left];exact sa.ok.sent sa.srv sa.head sa.fit,by simp [r.len],fun i x h hx hh=>?_,fun i h h' hh hh' a b ha hb=>?_,fun h hh _ a b ha hb=>?_,fun w hw hd=>?_,fun f' w hw=>?_,r.le,fun w hw=>?_,fun f'=>?_⟩
  ·
   have hil:=Ad hx
   simp only [List.length_append,List.length_cons,List.length_nil] at hil
   rcases Nat.lt_or_ge i s.out.length with h' | h'
   ·
    simp only [List.getElem?_append_left h'] at hx
    rw [List.getElem?_append_left (by rw [r.len];exact h')] at hh
    simp only [List.take_append_of_le_length (show i+1 ≤ s.out.length by omega)]
    exact r.each i x h hx hh
   ·
    obtain rfl:i=s.out.length:=by omega
    simp only [List.getElem?_append_right (Nat.le_refl _),Nat.sub_self,List.getElem?_cons_zero,Option.some.injEq] at hx
    rw [List.getElem?_append_right (by rw [r.len];exact Nat.le_refl _),r.len,Nat.sub_self,List.getElem?_cons_zero] at hh
    have hh:=Option.some.inj hh
    subst hx
    subst hh
    refine ⟨Q.pick s.q,rfl,r.state,by rw [sa.left];exact sa.ok.sent sa.srv sa.head sa.fit,⟨n,hgo⟩,fun w hw ht hd=>?_⟩
    rw [List.take_of_length_le (by simp)] at hd
    obtain ⟨d1,d2⟩:=hnd w hd
    refine hstay w (r.wait w ?_ d1) d2
    rcases Nat.lt_or_ge w s.next with h3 | h3
    · exact h3
    ·
     have hnl:s.next < ps.length:=by omega
     have e:ps[s.next]? = some ps[s.next]:=List.getElem?_eq_getElem hnl
     have a1:=hall _ e
     have a2:=D6 ho h3 hw
     rw [AJ e] at a2
     simp only at ht
     omega
  ·
   have hil:=Ad hh'
   simp only [List.length_append,List.length_cons,List.length_nil] at hil
   rcases Nat.lt_or_ge (i+1) H.length with h3 | h3
   ·
    rw [List.getElem?_append_left (by omega)] at hh
    rw [List.getElem?_append_left h3] at hh'
    exact r.next i h h' hh hh' a b ha hb
   ·
    have e1:i+1=H.length:=by omega
    rw [List.getElem?_append_left (by omega)] at hh
    rw [List.getElem?_append_right (by omega),e1,Nat.sub_self,List.getElem?_cons_zero] at hh'
    have hh':=Option.some.inj hh'
    subst hh'
    exact (r.last h (by rw [show H.length - 1=i by omega];exact hh) (by omega) a b ha hb).2
  ·
   simp only [List.length_append,List.length_cons,List.length_nil,Nat.add_sub_cancel] at hh
   rw [List.getElem?_append_right (Nat.le_refl _),Nat.sub_self,List.getElem?_cons_zero] at hh
   have hh:=Option.some.inj hh
   subst hh
   exact ⟨fun c hc=>hc,rfl⟩
  ·
   obtain ⟨d1,d2⟩:=hnd w hd
   exact hstay w (r.wait w hw d1) d2
  ·
   have hw2:w ∈ (view (Q.left s.q)).qs f':=hw
   rw [hqs] at hw2
   have hw3:w ∈ (view s.q).qs f' ∧ w ≠ Q.pick s.q:=by
    by_cases e:f'=f
    ·
     subst e
     rw [Aq] at hw2
     exact ⟨by rw [hhead];exact List.mem_cons_of_mem _ hw2,fun e=>n1 (by rw [← e];exact hw2)⟩
    ·
     rw [Al _ _ e] at hw2
     exact ⟨hw2,fun e2=>e (by rw [← (r.state.size f' w hw2).1,e2];exact kf)⟩
   obtain ⟨g1,g2⟩:=r.only f' w hw3.1
   refine ⟨g1,?_⟩
   rw [Cq,g2,Bool.false_or]
   exact beq_eq_false_iff_ne.2 (fun e=>hw3.2 e.symm)
  ·
   rw [Cq,Bool.or_eq_true] at hw
   show w < s.next
   rcases hw with hw | hw
   · exact r.gone w hw
   ·
    have:=beq_iff_eq.1 hw
    omega
  ·
   show ((view (Q.left s.q)).qs f').Nodup
   rw [hqs]
   by_cases e:f'=f
   · subst e;rw [Aq];exact n2
   · rw [Al _ _ e];exact r.once f'
 ·
  rintro s p hs hp ht h0 ⟨H,r⟩
  obtain ⟨i1,i2⟩:=hL.idle s.q r.good h0
  exact ⟨H,i1,by rw [i2];exact r.state,r.len,r.each,r.next,by rw [i2];exact r.last,by rw [i2];exact r.wait,by rw [i2];exact r.only,r.le,r.gone,by rw [i2];exact r.once⟩
end
end Go.Proofs.YtipdclphpkgceaaGreatDoor
