/- Own facts, put together: no statement of its own. -/
import Derived.Test.YtipdclphpkgceaaGreatDoorA01
import Derived.Laws.StructEq
import Derived.BigQuiet
import Derived.Test.YtipdclphpkgceaaGreatDoorA05
set_option maxHeartbeats 4000000
set_option maxRecDepth 100000

namespace Go.Proofs.YtipdclphpkgceaaGreatDoor
structure ET (a:Int × Int) (L:List (Int × Int)):Prop where
 same:∀ b,b ∈ L → b.2=a.2 → b ≠ a → a.1 < b.1
 flat:∀ c,c ∈ L → c.2 < a.2 → a.1 < c.1
 both:∀ b,b ∈ L → ∀ c,c ∈ L → a.2 < b.2 → c.2 < a.2 → (a.1 - b.1) * (a.2 - c.2) < (c.1 - a.1) * (b.2 - a.2)
structure DL (a:Int × Int) (P:List (Int × Int)) (low lowBy:Int) (op:Bool) (high highBy:Int):Prop where
 lowBd:0 ≤ low ∧ low ≤ 20000 ∧ 1 ≤ lowBy ∧ lowBy ≤ 100000
 highBd : -20000 ≤ high ∧ high ≤ 20000 ∧ 0 ≤ highBy ∧ highBy ≤ 100000
 isLow:op=true → ∃ b,b ∈ P ∧ a.2 < b.2 ∧ low=a.1 - b.1 ∧ lowBy=b.2 - a.2
 zero:op=false → low=0
 noLow:op=false → ∀ b,b ∈ P → a.2 < b.2 → a.1 < b.1
 maxLow:∀ b,b ∈ P → a.2 < b.2 → b.1 ≤ a.1 → (a.1 - b.1) * lowBy ≤ low * (b.2 - a.2)
 isHigh:highBy ≠ 0 → ∃ c,c ∈ P ∧ c.2 < a.2 ∧ high=c.1 - a.1 ∧ highBy=a.2 - c.2
 noHigh:highBy=0 → ∀ c,c ∈ P → ¬ c.2 < a.2
 minHigh:∀ c,c ∈ P → c.2 < a.2 → high * (a.2 - c.2) ≤ (c.1 - a.1) * highBy
theorem Hr {n1 d1 n2 d2 n3 d3:Int} (h1:0 ≤ d1) (h2:0 < d2) (h3:0 ≤ d3) (a:n1 * d2 ≤ n2 * d1) (b:n2 * d3 ≤ n3 * d2):n1 * d3 ≤ n3 * d1:=by
 have s1:=Int.mul_le_mul_of_nonneg_right a h3
 have s2:=Int.mul_le_mul_of_nonneg_right b h1
 have e1:n1 * d2 * d3=d2 * (n1 * d3):=by simp only [Int.mul_comm,Int.mul_left_comm]
 have e2:n2 * d1 * d3=n2 * d3 * d1:=by simp only [Int.mul_comm,Int.mul_left_comm]
 have e3:n3 * d2 * d1=d2 * (n3 * d1):=by simp only [Int.mul_comm,Int.mul_left_comm]
 exact Int.le_of_mul_le_mul_left (show d2 * (n1 * d3) ≤ d2 * (n3 * d1) by omega) h2
theorem Yk (a:Int × Int):DL a [] 0 1 false 0 0 where
 lowBd:=by decide
 highBd:=by decide
 isLow h:=by cases h
 zero _:=rfl
 noLow _ b h:=by cases h
 maxLow b h:=by cases h
 isHigh h:=absurd rfl h
 noHigh _ c h:=by cases h
 minHigh c h:=by cases h
section
variable {a b:Int × Int} {P:List (Int × Int)} {low lowBy high highBy:Int} {op:Bool}
theorem Kc (h:DL a P low lowBy op high highBy) (hn:a.2 < b.2 → a.1 < b.1 ∨ (op=true ∧ (a.1 - b.1) * lowBy ≤ low * (b.2 - a.2))) (hh:b.2 < a.2 → highBy ≠ 0 ∧ high * (a.2 - b.2) ≤ (b.1 - a.1) * highBy):DL a (P ++ [b]) low lowBy op high highBy where
 lowBd:=h.lowBd
 highBd:=h.highBd
 isLow e:=by obtain ⟨c,hc,r⟩:=h.isLow e;exact ⟨c,List.mem_append.2 (.inl hc),r⟩
 zero:=h.zero
 noLow e c hc hl:=by
  rcases List.mem_append.1 hc with hc | hc
  · exact h.noLow e c hc hl
  ·
   rw [List.mem_singleton.1 hc] at hl ⊢
   rcases hn hl with h | ⟨h,-⟩
   · exact h
   · rw [e] at h;cases h
 maxLow c hc hl hl':=by
  rcases List.mem_append.1 hc with hc | hc
  · exact h.maxLow c hc hl hl'
  ·
   rw [List.mem_singleton.1 hc] at hl hl' ⊢
   rcases hn hl with h | ⟨-,h⟩
   · omega
   · exact h
 isHigh e:=by obtain ⟨c,hc,r⟩:=h.isHigh e;exact ⟨c,List.mem_append.2 (.inl hc),r⟩
 noHigh e c hc hl:=by
  rcases List.mem_append.1 hc with hc | hc
  · exact h.noHigh e c hc hl
  ·
   rw [List.mem_singleton.1 hc] at hl
   exact (hh hl).1 e
 minHigh c hc hl:=by
  rcases List.mem_append.1 hc with hc | hc
  · exact h.minHigh c hc hl
  ·
   rw [List.mem_singleton.1 hc] at hl ⊢
   exact (hh hl).2
theorem RY (h:DL a P low lowBy op high highBy) (hs:b.2=a.2):DL a (P ++ [b]) low lowBy op high highBy:=
 Kc h (fun hl=>by omega) (fun hl=>by omega)
theorem WR (h:DL a P low lowBy op high highBy) (hs:a.2 < b.2) (hn:a.1 - b.1 < 0):DL a (P ++ [b]) low lowBy op high highBy:=
 Kc h (fun _=>.inl (by omega)) (fun hl=>by omega)
theorem TY (h:DL a P low lowBy op high highBy) (hs:a.2 < b.2) (hn:0 ≤ a.1 - b.1) (hp:(a.1 - b.1) * lowBy < low * (b.2 - a.2)):DL a (P ++ [b]) low lowBy op high highBy:=by
 refine Kc h (fun _=>.inr ⟨?_,Int.le_of_lt hp⟩) (fun hl=>by omega)
 cases hop:op with
 | true=>rfl
 | false=>
  rw [h.zero hop,Int.zero_mul] at hp
  have:=Int.mul_nonneg hn (show 0 ≤ lowBy by have:=h.lowBd;omega)
  omega
theorem WN (h:DL a P low lowBy op high highBy) (hs:b.2 < a.2) (hz:highBy ≠ 0) (hp:¬ -(a.1 - b.1) * highBy < high * -(b.2 - a.2)):DL a (P ++ [b]) low lowBy op high highBy:=by
 refine Kc h (fun hl=>by omega) (fun _=>⟨hz,?_⟩)
 have e1 : -(a.1 - b.1)=b.1 - a.1:=by omega
 have e2 : -(b.2 - a.2)=a.2 - b.2:=by omega
 rw [e1,e2] at hp
 omega
theorem ZP (h:DL a P low lowBy op high highBy) (ha:1 ≤ a.1 ∧ a.1 ≤ 20000 ∧ 0 ≤ a.2 ∧ a.2 ≤ 100000) (hb:1 ≤ b.1 ∧ b.1 ≤ 20000 ∧ 0 ≤ b.2 ∧ b.2 ≤ 100000) (hs:a.2 < b.2) (hn:0 ≤ a.1 - b.1) (hp:low * (b.2 - a.2) ≤ (a.1 - b.1) * lowBy):DL a (P ++ [b]) (a.1 - b.1) (b.2 - a.2) true high highBy where
 lowBd:=by omega
 highBd:=h.highBd
 isLow _:=⟨b,by simp,hs,rfl,rfl⟩
 zero e:=by cases e
 noLow e:=by cases e
 maxLow c hc hl hl':=by
  rcases List.mem_append.1 hc with hc | hc
  · exact Hr (by omega) (by have:=h.lowBd;omega) (by omega) (h.maxLow c hc hl hl') hp
  ·
   rw [List.mem_singleton.1 hc] at hl hl' ⊢
   exact Int.le_refl _
 isHigh e:=by obtain ⟨c,hc,r⟩:=h.isHigh e;exact ⟨c,List.mem_append.2 (.inl hc),r⟩
 noHigh e c hc hl:=by
  rcases List.mem_append.1 hc with hc | hc
  · exact h.noHigh e c hc hl
  ·
   rw [List.mem_singleton.1 hc] at hl
   omega
 minHigh c hc hl:=by
  rcases List.mem_append.1 hc with hc | hc
  · exact h.minHigh c hc hl
  ·
   rw [List.mem_singleton.1 hc] at hl
   omega
theorem Y8 (h:DL a P low lowBy op high highBy) (ha:1 ≤ a.1 ∧ a.1 ≤ 20000 ∧ 0 ≤ a.2 ∧ a.2 ≤ 100000) (hb:1 ≤ b.1 ∧ b.1 ≤ 20000 ∧ 0 ≤ b.2 ∧ b.2 ≤ 100000) (hs:b.2 < a.2) (hp:highBy=0 ∨ -(a.1 - b.1) * highBy < high * -(b.2 - a.2)):DL a (P ++ [b]) low lowBy op (-(a.1 - b.1)) (-(b.2 - a.2)):=by
 have e1 : -(a.1 - b.1)=b.1 - a.1:=by omega
 have e2 : -(b.2 - a.2)=a.2 - b.2:=by omega
 rw [e1,e2] at hp ⊢
 exact {
  lowBd:=h.lowBd
  highBd:=by omega
  isLow:=fun e=>by obtain ⟨c,hc,r⟩:=h.isLow e;exact ⟨c,List.mem_append.2 (.inl hc),r⟩
  zero:=h.zero
  noLow:=fun e c hc hl=>by
   rcases List.mem_append.1 hc with hc | hc
   · exact h.noLow e c hc hl
   ·
    rw [List.mem_singleton.1 hc] at hl
    omega
  maxLow:=fun c hc hl hl'=>by
   rcases List.mem_append.1 hc with hc | hc
   · exact h.maxLow c hc hl hl'
   ·
    rw [List.mem_singleton.1 hc] at hl
    omega
  isHigh:=fun _=>⟨b,by simp,hs,rfl,rfl⟩
  noHigh:=fun e=>by omega
  minHigh:=fun c hc hl=>by
   rcases List.mem_append.1 hc with hc | hc
   ·
    rcases hp with hp | hp
    · exact absurd hl (h.noHigh hp c hc)
    ·
     by_cases hz:highBy=0
     · exact absurd hl (h.noHigh hz c hc)
     · exact Hr (by omega) (by have:=h.highBd;omega) (by omega) (Int.le_of_lt hp) (h.minHigh c hc hl)
   ·
    rw [List.mem_singleton.1 hc] at hl ⊢
    exact Int.le_refl _ }
theorem Yc (h:DL a P low lowBy op high highBy) (hs:∀ b,b ∈ P → b.2=a.2 → b ≠ a → a.1 < b.1) (hz:highBy=0):ET a P:=
 ⟨hs,fun c hc hl=>absurd hl (h.noHigh hz c hc),fun _ _ c hc _ hl=>absurd hl (h.noHigh hz c hc)⟩
theorem X3 (h:DL a P low lowBy op high highBy) (hs:∀ b,b ∈ P → b.2=a.2 → b ≠ a → a.1 < b.1) (hz:highBy ≠ 0) (ho:op=false):0 < high ↔ ET a P:=by
 obtain ⟨c0,hc0,hl0,rfl,rfl⟩:=h.isHigh hz
 constructor
 ·
  intro hp
  have hflat:∀ c,c ∈ P → c.2 < a.2 → a.1 < c.1:=fun c hc hl=>by
   have h1:=h.minHigh c hc hl
   have h2:0 < (c0.1 - a.1) * (a.2 - c.2):=Int.mul_pos hp (by omega)
   have:=Int.pos_of_mul_pos_left (show 0 < (c.1 - a.1) * (a.2 - c0.2) by omega) (by omega)
   omega
  refine ⟨hs,hflat,fun b hb c hc hab hca=>?_⟩
  have h1:=h.noLow ho b hb hab
  have h2:=hflat c hc hca
  have h3:(a.1 - b.1) * (a.2 - c.2) < 0:=Int.mul_neg_of_neg_of_pos (by omega) (by omega)
  have h4:0 < (c.1 - a.1) * (b.2 - a.2):=Int.mul_pos (by omega) (by omega)
  omega
 ·
  intro hS
  have:=hS.flat c0 hc0 hl0
  omega
theorem YV (h:DL a P low lowBy op high highBy) (hs:∀ b,b ∈ P → b.2=a.2 → b ≠ a → a.1 < b.1) (hz:highBy ≠ 0) (ho:op=true):low * highBy < high * lowBy ↔ ET a P:=by
 obtain ⟨c0,hc0,hl0,rfl,rfl⟩:=h.isHigh hz
 obtain ⟨b0,hb0,hg0,rfl,rfl⟩:=h.isLow ho
 have hbd:=h.lowBd
 constructor
 ·
  intro hp
  have hp0:0 < c0.1 - a.1:=by
   have h2:0 ≤ (a.1 - b0.1) * (a.2 - c0.2):=Int.mul_nonneg hbd.1 (by omega)
   exact Int.pos_of_mul_pos_left (show 0 < (c0.1 - a.1) * (b0.2 - a.2) by omega) (by omega)
  have hflat:∀ c,c ∈ P → c.2 < a.2 → a.1 < c.1:=fun c hc hl=>by
   have h1:=h.minHigh c hc hl
   have h2:0 < (c0.1 - a.1) * (a.2 - c.2):=Int.mul_pos hp0 (by omega)
   have:=Int.pos_of_mul_pos_left (show 0 < (c.1 - a.1) * (a.2 - c0.2) by omega) (by omega)
   omega
  refine ⟨hs,hflat,fun b hb c hc hab hca=>?_⟩
  have h2:=hflat c hc hca
  by_cases hba:b.1 ≤ a.1
  ·
   have m1:=h.maxLow b hb hab hba
   have m2:=h.minHigh c hc hca
   rcases Int.lt_or_le ((a.1 - b.1) * (a.2 - c.2)) ((c.1 - a.1) * (b.2 - a.2)) with hlt | hle
   · exact hlt
   ·
    exfalso
    have t1:=Hr (n1:=c0.1 - a.1) (d1:=a.2 - c0.2) (n2:=c.1 - a.1) (d2:=a.2 - c.2) (n3:=a.1 - b.1) (d3:=b.2 - a.2) (by omega) (by omega) (by omega) m2 hle
    have t2:=Hr (n1:=c0.1 - a.1) (d1:=a.2 - c0.2) (n2:=a.1 - b.1) (d2:=b.2 - a.2) (n3:=a.1 - b0.1) (d3:=b0.2 - a.2) (by omega) (by omega) (by omega) t1 m1
    omega
  ·
   have h3:(a.1 - b.1) * (a.2 - c.2) < 0:=Int.mul_neg_of_neg_of_pos (by omega) (by omega)
   have h4:0 < (c.1 - a.1) * (b.2 - a.2):=Int.mul_pos (by omega) (by omega)
   omega
 ·
  intro hS
  exact hS.both b0 hb0 c0 hc0 hg0 hl0
end
def Lp (R:List (Int × Int)):Prop:=R.Pairwise fun a b=>b.2 < a.2
theorem JS:∀ {R S:List (Int × Int)},Lp R → Lp S → (∀ a,a ∈ R ↔ a ∈ S) → R=S
 | [],[],_,_,_=>rfl
 | [],s :: S,_,_,h=>by have:=(h s).2 (List.mem_cons_self ..);cases this
 | r :: R,[],_,_,h=>by have:=(h r).1 (List.mem_cons_self ..);cases this
 | r :: R,s :: S,hR,hS,h=>by
  have hr:=List.pairwise_cons.1 hR
  have hs:=List.pairwise_cons.1 hS
  have e:r=s:=by
   rcases List.mem_cons.1 ((h r).1 (List.mem_cons_self ..)) with e | h1
   · exact e
   ·
    rcases List.mem_cons.1 ((h s).2 (List.mem_cons_self ..)) with e | h2
    · exact e.symm
    ·
     have:=hs.1 r h1
     have:=hr.1 s h2
     omega
  subst e
  rw [JS hr.2 hs.2 fun a=>⟨fun ha=>?_,fun ha=>?_⟩]
  ·
   rcases List.mem_cons.1 ((h a).1 (List.mem_cons_of_mem _ ha)) with e | h1
   · have:=hr.1 a ha;rw [e] at this;omega
   · exact h1
  ·
   rcases List.mem_cons.1 ((h a).2 (List.mem_cons_of_mem _ ha)) with e | h1
   · have:=hs.1 a ha;rw [e] at this;omega
   · exact h1
theorem WB {R:List (Int × Int)} {x:Int × Int} {k:Nat} (hR:Lp R) (h1:∀ j y,j < k → R[j]? = some y → x.2 < y.2) (h2:∀ y,R[k]? = some y → ¬ x.2 < y.2) (hx:∀ y,y ∈ R → y.2 ≠ x.2):Lp (R.take k ++ x :: R.drop k):=by
 have hR':=hR
 unfold Lp at hR' ⊢
 rw [← List.take_append_drop k R,List.pairwise_append] at hR'
 have hd:∀ y,y ∈ R.drop k → y.2 < x.2:=by
  intro y hy
  have hyR:=List.mem_of_mem_drop hy
  rcases hq:R.drop k with _ | ⟨z,r⟩
  · rw [hq] at hy;cases hy
  ·
   have hz:R[k]? = some z:=by rw [← List.head?_drop,hq];rfl
   have hz':=h2 z hz
   have hzx:=hx z (List.mem_of_getElem? hz)
   rw [hq] at hy
   rcases List.mem_cons.1 hy with rfl | hy
   · omega
   ·
    have:=hR'.2.1
    rw [hq] at this
    have:=(List.pairwise_cons.1 this).1 y hy
    omega
 have ht:∀ y,y ∈ R.take k → x.2 < y.2:=by
  intro y hy
  obtain ⟨j,hj⟩:=List.mem_iff_getElem?.1 hy
  rw [List.getElem?_take] at hj
  split at hj
  · next h=>exact h1 j y h hj
  · cases hj
 rw [List.pairwise_append]
 refine ⟨hR'.1,List.pairwise_cons.2 ⟨hd,hR'.2.1⟩,fun y hy z hz=>?_⟩
 rcases List.mem_cons.1 hz with rfl | hz
 · exact ht y hy
 ·
  have:=ht y hy
  have:=hd z hz
  omega
def KeptAt (L:List (Int × Int)) (i:Nat) (a:Int × Int):Prop:=ET a L ∧ ∀ k,k < i → L[k]? ≠ some a
structure EY (L:List (Int × Int)) (i:Nat) (R:List (Int × Int)):Prop where
 falls:Lp R
 len:R.length ≤ i
 mem:∀ a,a ∈ R ↔ ET a L ∧ ∃ k,k < i ∧ L[k]? = some a
theorem V5 (L:List (Int × Int)):EY L 0 []:=⟨List.Pairwise.nil,Nat.le_refl _,fun a=>⟨fun h=>(by cases h),fun ⟨_,k,hk,_⟩=>absurd hk (Nat.not_lt_zero _)⟩⟩
theorem Xj {L R:List (Int × Int)} {i:Nat} {x:Int × Int} (h:EY L i R) (hx:L[i]? = some x) (hn:¬ KeptAt L i x):EY L (i+1) R:=by
 refine ⟨h.falls,Nat.le_succ_of_le h.len,fun a=>(h.mem a).trans ⟨fun ⟨h1,k,hk,e⟩=>⟨h1,k,by omega,e⟩,fun ⟨h1,k,hk,e⟩=>⟨h1,?_⟩⟩⟩
 rcases Nat.lt_or_ge k i with hki | hki
 · exact ⟨k,hki,e⟩
 ·
  have:k=i:=by omega
  subst this
  rw [hx] at e
  injection e with e
  subst e
  rcases Classical.em (∃ k',k' < k ∧ L[k']? = some x) with h' | h'
  · exact h'
  · exact absurd ⟨h1,fun k' hk' e'=>h' ⟨k',hk',e'⟩⟩ hn
theorem Kw {L R:List (Int × Int)} {i k:Nat} {x:Int × Int} (h:EY L i R) (hx:L[i]? = some x) (hk:KeptAt L i x) (h1:∀ j y,j < k → R[j]? = some y → x.2 < y.2) (h2:∀ y,R[k]? = some y → ¬ x.2 < y.2):EY L (i+1) (R.take k ++ x :: R.drop k):=by
 have hxL:=List.mem_of_getElem? hx
 refine ⟨WB h.falls h1 h2 fun y hy e=>?_,?_,fun a=>?_⟩
 ·
  obtain ⟨hy1,j,hj,ej⟩:=(h.mem y).1 hy
  have hyL:=List.mem_of_getElem? ej
  by_cases hyx:y=x
  · subst hyx;exact hk.2 j hj ej
  ·
   have a1:=hk.1.same y hyL e hyx
   have a2:=hy1.same x hxL e.symm (fun e=>hyx e.symm)
   omega
 ·
  have:=h.len
  simp
  omega
 ·
  have e:a ∈ R.take k ++ x :: R.drop k ↔ a=x ∨ a ∈ R:=by
   rw [List.mem_append,List.mem_cons,← or_assoc,or_comm (a:=a ∈ R.take k),or_assoc,← List.mem_append,List.take_append_drop]
  rw [e,h.mem a]
  constructor
  ·
   rintro (rfl | ⟨h1,k',hk',e'⟩)
   · exact ⟨hk.1,i,by omega,hx⟩
   · exact ⟨h1,k',by omega,e'⟩
  ·
   rintro ⟨h1,k',hk',e'⟩
   rcases Nat.lt_or_ge k' i with hki | hki
   · exact .inr ⟨h1,k',hki,e'⟩
   ·
    have:k'=i:=by omega
    subst this
    rw [hx] at e'
    injection e' with e'
    exact .inl e'.symm
end Go.Proofs.YtipdclphpkgceaaGreatDoor

namespace Go.Proofs.YtipdclphpkgceaaGreatDoor
open Go.RowKit
theorem Tryz.lineHeld:Tryz.prog.stoodInHeld 83=false:=by kernel_rfl
theorem Tryz.lineGuard:Tryz.prog.eqGuardType Tryz.prog.depth 83=false:=by kernel_rfl
theorem Tryz.lineFieldsIs:(Tryz.prog.fieldsOf 83).toList=[{ name := "Burst",type:=3,offset:=0,embedded:=false,tag := "",pkgPath := "",byteOffset:=0 },{ name := "Rate",type:=3,offset:=1,embedded:=false,tag := "",pkgPath := "",byteOffset:=8 }]:=by
 simp only [Program.fieldsOf,Tryz.underlying83]
theorem Tryz.lineFields:Tryz.prog.underlying 83=some (.struct (Tryz.prog.fieldsOf 83)):=by
 simp only [Program.fieldsOf,Tryz.underlying83]
theorem Tryz.part0 (w:World) (x y:Int):(part 3 #[.int .i64 x,.int .i64 y] 0).run Tryz.prog w=.ok (.int .i64 x) w:=by kernel_rfl
theorem Tryz.part1 (w:World) (x y:Int):(part 3 #[.int .i64 x,.int .i64 y] 1).run Tryz.prog w=.ok (.int .i64 y) w:=by kernel_rfl
theorem Tryz.eqLine (w:World) (x y x' y':Int):(binOp .eql 83 (.agg #[.int .i64 x,.int .i64 y]) (.agg #[.int .i64 x',.int .i64 y'])).run Tryz.prog w=.ok (.bool (x == x' && y == y')) w:=by
 rw [run_eql_struct,run_equalIn_struct _ 9999 _ _ _ Tryz.lineFields Tryz.lineHeld,Tryz.lineFieldsIs]
 have h1:("Burst" : String) ≠ "_" := by decide
 have h2:("Rate" : String) ≠ "_" := by decide
 simp only [Op.eqFields,if_pos h1,if_pos h2,Sem.run_bind,Tryz.part0,Tryz.part1,Result.andThen_ok,run_equalIn_int _ 9998 3 .i64 .i64 _ _ Tryz.underlying3,Sem.run_ite,Sem.run_pure]
 cases x == x' <;> cases y == y' <;> rfl
structure En (ls:List (Int × Int)) (i k:Nat) (p:Int × Int) (low lowBy:Int) (op:Bool) (high highBy:Int):Prop where
 lim:DL p (ls.take k) low lowBy op high highBy
 early:∀ j,j < k → j < i → ls[j]? ≠ some p
 same:∀ b,b ∈ ls.take k → b.2=p.2 → b ≠ p → p.1 < b.1
theorem TH (ls:List (Int × Int)) (i:Nat) (p:Int × Int):En ls i 0 p 0 1 false 0 0:=
 ⟨Yk p,fun _ h=>absurd h (Nat.not_lt_zero _),fun _ h=>by simp at h⟩
section
variable {ls:List (Int × Int)} {i k:Nat} {p b:Int × Int} {low lowBy high highBy low' lowBy' high' highBy':Int} {op op':Bool}
theorem Ea (h:En ls i k p low lowBy op high highBy) (hb:ls[k]? = some b) (hl:DL p (ls.take k ++ [b]) low' lowBy' op' high' highBy') (he:b=p → ¬ k < i) (hs:b.2=p.2 → b ≠ p → p.1 < b.1):En ls i (k+1) p low' lowBy' op' high' highBy':=by
 have e:ls.take (k+1)=ls.take k ++ [b]:=by rw [List.take_add_one,hb];rfl
 refine ⟨by rw [e];exact hl,fun j hj hi e'=>?_,fun c hc h1 h2=>?_⟩
 ·
  rcases Nat.lt_or_ge j k with hjk | hjk
  · exact h.early j hjk hi e'
  ·
   have:j=k:=by omega
   subst this
   rw [hb] at e'
   injection e' with e'
   exact he e' hi
 ·
  rw [e] at hc
  rcases List.mem_append.1 hc with hc | hc
  · exact h.same c hc h1 h2
  ·
   rw [List.mem_singleton.1 hc] at h1 h2 ⊢
   exact hs h1 h2
theorem Uv (h:En ls i k p low lowBy op high highBy) (hb:ls[k]? = some p) (hk:¬ k < i):En ls i (k+1) p low lowBy op high highBy:=
 Ea h hb (RY h.lim rfl) (fun _=>hk) (fun _ hne=>absurd rfl hne)
theorem Gi (h:b.2 ≠ p.2):b=p → ¬ k < i:=fun e=>absurd (e ▸ rfl) h
theorem UC (h:En ls i k p low lowBy op high highBy) (hb:ls[k]? = some b) (hne:b ≠ p) (hs:b.2=p.2) (hl:p.1 < b.1):En ls i (k+1) p low lowBy op high highBy:=
 Ea h hb (RY h.lim hs) (fun e=>absurd e hne) (fun _ _=>hl)
theorem TA (h:En ls i k p low lowBy op high highBy) (hb:ls[k]? = some b) (hs:p.2 < b.2) (hn:p.1 - b.1 < 0):En ls i (k+1) p low lowBy op high highBy:=
 Ea h hb (WR h.lim hs hn) (Gi (by omega)) (fun e _=>by omega)
theorem PT (h:En ls i k p low lowBy op high highBy) (hb:ls[k]? = some b) (hs:p.2 < b.2) (hn:0 ≤ p.1 - b.1) (hp:(p.1 - b.1) * lowBy < low * (b.2 - p.2)):En ls i (k+1) p low lowBy op high highBy:=
 Ea h hb (TY h.lim hs hn hp) (Gi (by omega)) (fun e _=>by omega)
theorem XA (h:En ls i k p low lowBy op high highBy) (hb:ls[k]? = some b) (hok:BJ ls) (hpl:p ∈ ls) (hs:p.2 < b.2) (hn:0 ≤ p.1 - b.1) (hp:low * (b.2 - p.2) ≤ (p.1 - b.1) * lowBy):En ls i (k+1) p (p.1 - b.1) (b.2 - p.2) true high highBy:=
 Ea h hb (ZP h.lim (Ap (hok p hpl)) (Ap (hok b (List.mem_of_getElem? hb))) hs hn hp) (Gi (by omega)) (fun e _=>by omega)
theorem MK (h:En ls i k p low lowBy op high highBy) (hb:ls[k]? = some b) (hok:BJ ls) (hpl:p ∈ ls) (hs:b.2 < p.2) (hp:highBy=0 ∨ -(p.1 - b.1) * highBy < high * -(b.2 - p.2)):En ls i (k+1) p low lowBy op (-(p.1 - b.1)) (-(b.2 - p.2)):=
 Ea h hb (Y8 h.lim (Ap (hok p hpl)) (Ap (hok b (List.mem_of_getElem? hb))) hs hp) (Gi (by omega)) (fun e _=>by omega)
theorem RG (h:En ls i k p low lowBy op high highBy) (hb:ls[k]? = some b) (hs:b.2 < p.2) (hz:highBy ≠ 0) (hp:¬ -(p.1 - b.1) * highBy < high * -(b.2 - p.2)):En ls i (k+1) p low lowBy op high highBy:=
 Ea h hb (WN h.lim hs hz hp) (Gi (by omega)) (fun e _=>by omega)
theorem P7 (hb:ls[k]? = some p) (hk:k < i):¬ KeptAt ls i p:=fun h=>h.2 k hk hb
theorem SH (hb:ls[k]? = some b) (hne:b ≠ p) (hs:b.2=p.2) (hl:b.1 ≤ p.1):¬ KeptAt ls i p:=fun h=>by
 have:=h.1.same b (List.mem_of_getElem? hb) hs hne
 omega
theorem XK (h:En ls i ls.length p low lowBy op high highBy) (hi:i ≤ ls.length):DL p ls low lowBy op high highBy ∧ (∀ b,b ∈ ls → b.2=p.2 → b ≠ p → p.1 < b.1) ∧ (ET p ls ↔ KeptAt ls i p):=by
 have h1:=h.lim
 have h2:=h.same
 rw [List.take_length] at h1 h2
 exact ⟨h1,h2,⟨fun hs=>⟨hs,fun j hj=>h.early j (by omega) hj⟩,fun hk=>hk.1⟩⟩
end
theorem PO {a b:Int} (h1 : -20000 ≤ a) (h2:a ≤ 20000) (h3 : -100000 ≤ b) (h4:b ≤ 100000) : -2000000000 ≤ a * b ∧ a * b ≤ 2000000000:=by
 have h:=Int.natAbs_mul a b
 have ha:a.natAbs ≤ 20000:=by omega
 have hb:b.natAbs ≤ 100000:=by omega
 have:=Nat.mul_le_mul ha hb
 omega
def Y7 (ls:List (Int × Int)) (i:Nat) (p:Int × Int) (w w':World) (e:Ending):Prop:=∃ v,e=.returned (.bool v) ∧ (v=true ↔ KeptAt ls i p) ∧ Below w.heap.size w w'
theorem MO {ls:List (Int × Int)} {i:Nat} {p:Int × Int} {w w':World} {e:Ending} (v:Bool) (he:e=.returned (.bool v)) (h:v=true ↔ KeptAt ls i p) (hb:Below w.heap.size w w'):Y7 ls i p w w' e:=⟨v,he,h,hb⟩
theorem PV (a:Option Addr) (cap i:Nat) (ls:List (Int × Int)) (px py:Int) (w:World) (hl:AL w a ls) (hi:ls[i]? = some (px,py)) (hn:ls.length ≤ 1000) (hok:BJ ls) :
  Calls Tryz.prog 120 #[.slice a ls.length cap,.int .i64 i] w fun e w'=>Y7 ls i (px,py) w w' e:=by
 have hil:i < ls.length:=(List.getElem?_eq_some_iff.1 hi).1
 have hpl:(px,py) ∈ ls:=List.mem_of_getElem? hi
 obtain ⟨b,off,rfl,hlt,hc⟩:=hl.some (by omega)
 have c1:=(hc i px py hi).1
 have c2:=(hc i px py hi).2
 have HOK:Hid (BJ ls ∧ (px,py) ∈ ls):=⟨hok,hpl⟩
 obtain ⟨p1,p2,p3,p4⟩:=Ap (hok _ hpl)
 simp only [] at p1 p2 p3 p4
 have q:=Tryz.eqLine
 have g:=fun (w:World) op x y xs ys=>run_eqGuard_agg (P:=Tryz.prog) w op 83 x y xs ys Tryz.lineGuard
 have HB0:Hid (Below w.heap.size w (w.alloc (.cells #[.int .i64 px,.int .i64 py] 83))):=(Below.refl _ _).alloc (Nat.le_refl _) _
 have HC:Hid (∀ (i:Nat) (x y:Int),ls[i]? = some (x,y) → w.cell? ⟨b,off+i * 2,none⟩=some (.int .i64 x) ∧ w.cell? ⟨b,off+i * 2+1,none⟩=some (.int .i64 y)):=hc
 clear hl hok hpl hi hc
 go_enter Tryz.func120,Tryz.ntmps120
 go_wp2_with fail
 go_loopw [5,6,7,8,9,11] (fun lo lb op hg hb j wr=>∃ (k:Nat) (low lowBy:Int) (o:Bool) (high highBy:Int),k ≤ ls.length ∧ lo=.int .i64 low ∧ lb=.int .i64 lowBy ∧ op=.bool o ∧ hg=.int .i64 high ∧ hb=.int .i64 highBy ∧ j=.int .i64 k ∧ En ls i k (px,py) low lowBy o high highBy ∧ wr.cell? ⟨w.heap.size,0,none⟩=some (.int .i64 px) ∧ wr.cell? ⟨w.heap.size,1,none⟩=some (.int .i64 py) ∧ Below w.heap.size w wr) (fun _ _ _ _ _ j _=>ls.length - (intOf j).toNat)
 case atStart=>exact ⟨0,0,1,false,0,0,Nat.zero_le _,rfl,rfl,rfl,rfl,rfl,rfl,TH _ _ _,by simp,by simp,HB0.out⟩
 case round=>
  obtain ⟨k,low,lowBy,o,high,highBy,hk,rfl,rfl,rfl,rfl,rfl,rfl,hsf,d1,d2,hb⟩:=hrel
  have HSF:Hid (En ls i k (px,py) low lowBy o high highBy):=hsf
  obtain ⟨l1,l2,l3,l4⟩:=hsf.lim.lowBd
  obtain ⟨h1,h2,h3,h4⟩:=hsf.lim.highBd
  have HBR:Hid (Below w.heap.size w wr):=hb
  have hs:=hb.size
  have hlt0:w.heap.size < wr.heap.size:=Ck d1
  clear hsf
  by_cases hkn:k < ls.length
  ·
   obtain ⟨⟨x,y⟩,hp,hm⟩:=Ai ls k hkn
   obtain ⟨r1,r2,r3,r4⟩:=Ap (HOK.out.1 _ hm)
   simp only [] at r1 r2 r3 r4
   have HP:Hid (ls[k]? = some (x,y)):=hp
   have e1:wr.cell? ⟨b,off+k * 2,none⟩=some (.int .i64 x):=cell_later hb (HC.out k x y hp).1
   have e2:wr.cell? ⟨b,off+k * 2+1,none⟩=some (.int .i64 y):=cell_later hb (HC.out k x y hp).2
   have HBR1:Hid (Below w.heap.size w (wr.alloc (.cells #[.int .i64 x,.int .i64 y] 83))):=HBR.out.alloc hs _
   clear hp hm hb
   clear HB0 c1 c2
   by_cases heq:x=px ∧ y=py
   ·
    obtain ⟨rfl,rfl⟩:=heq
    by_cases hki:k < i
    ·
     go_wp2_with fail
     go_ret
     exact MO false rfl (⟨fun h=>(by cases h),fun h=>absurd h (P7 HP.out hki)⟩) HBR1.out
    ·
     go_wp2_with fail
     go_roundw
     case measure=>simp [intOf];omega
     case rel=>exact ⟨k+1,low,lowBy,o,high,highBy,by omega,rfl,rfl,rfl,rfl,rfl,by go_num,Uv HSF.out HP.out hki,cell_later ((Below.refl _ _).alloc (Nat.le_refl _) _) d1,cell_later ((Below.refl _ _).alloc (Nat.le_refl _) _) d2,HBR1.out⟩
   ·
    have HNE:Hid ((x,y) ≠ (px,py)):=fun e=>heq (by injection e with e1 e2;exact ⟨e1,e2⟩)
    by_cases hyy:y=py
    ·
     subst hyy
     have hxe:(x == px)=false:=by
      rcases Bool.eq_false_or_eq_true (x == px) with h | h
      · exact absurd ⟨eq_of_beq h,rfl⟩ heq
      · exact h
     clear heq
     by_cases hle:x ≤ px
     ·
      go_wp2_with fail
      go_ret
      exact MO false rfl (⟨fun h=>(by cases h),fun h=>absurd h (SH HP.out HNE.out rfl hle)⟩) HBR1.out
     ·
      go_wp2_with fail
      go_roundw
      case measure=>simp [intOf];omega
      case rel=>exact ⟨k+1,low,lowBy,o,high,highBy,by omega,rfl,rfl,rfl,rfl,rfl,by go_num,UC HSF.out HP.out HNE.out rfl (show px < x by omega),cell_later ((Below.refl _ _).alloc (Nat.le_refl _) _) d1,cell_later ((Below.refl _ _).alloc (Nat.le_refl _) _) d2,HBR1.out⟩
    ·
     have hye:(y == py)=false:=by
      rcases Bool.eq_false_or_eq_true (y == py) with h | h
      · exact absurd (eq_of_beq h) hyy
      · exact h
     clear heq
     by_cases hgt:py < y
     ·
      obtain ⟨m1,m2⟩:=PO (show -20000 ≤ px - x by omega) (show px - x ≤ 20000 by omega) (show -100000 ≤ lowBy by omega) l4
      obtain ⟨m3,m4⟩:=PO (show -20000 ≤ low by omega) l2 (show -100000 ≤ y - py by omega) (show y - py ≤ 100000 by omega)
      by_cases hn0:px - x < 0
      ·
       go_wp2_with fail
       go_roundw
       case measure=>simp [intOf];omega
       case rel=>exact ⟨k+1,low,lowBy,o,high,highBy,by omega,rfl,rfl,rfl,rfl,rfl,by go_num,TA HSF.out HP.out hgt hn0,cell_later ((Below.refl _ _).alloc (Nat.le_refl _) _) d1,cell_later ((Below.refl _ _).alloc (Nat.le_refl _) _) d2,HBR1.out⟩
      ·
       by_cases hpr:low * (y - py) ≤ (px - x) * lowBy
       ·
        go_wp2_with fail
        go_roundw
        case measure=>simp [intOf];omega
        case rel=>exact ⟨k+1,px - x,y - py,true,high,highBy,by omega,rfl,rfl,rfl,rfl,rfl,by go_num,XA HSF.out HP.out HOK.out.1 HOK.out.2 hgt (show 0 ≤ px - x by omega) hpr,cell_later ((Below.refl _ _).alloc (Nat.le_refl _) _) d1,cell_later ((Below.refl _ _).alloc (Nat.le_refl _) _) d2,HBR1.out⟩
       ·
        go_wp2_with fail
        go_roundw
        case measure=>simp [intOf];omega
        case rel=>exact ⟨k+1,low,lowBy,o,high,highBy,by omega,rfl,rfl,rfl,rfl,rfl,by go_num,PT HSF.out HP.out hgt (show 0 ≤ px - x by omega) (show (px - x) * lowBy < low * (y - py) by omega),cell_later ((Below.refl _ _).alloc (Nat.le_refl _) _) d1,cell_later ((Below.refl _ _).alloc (Nat.le_refl _) _) d2,HBR1.out⟩
     ·
      have hlt1:y < py:=by omega
      obtain ⟨m1,m2⟩:=PO (show -20000 ≤ -(px - x) by omega) (show -(px - x) ≤ 20000 by omega) (show -100000 ≤ highBy by omega) h4
      obtain ⟨m3,m4⟩:=PO h1 h2 (show -100000 ≤ -(y - py) by omega) (show -(y - py) ≤ 100000 by omega)
      by_cases hz:highBy=0
      ·
       have hz':(highBy == 0)=true:=by rw [hz];rfl
       go_wp2_with fail
       go_roundw
       case measure=>simp [intOf];omega
       case rel=>exact ⟨k+1,low,lowBy,o,-(px - x),-(y - py),by omega,rfl,rfl,rfl,rfl,rfl,by go_num,MK HSF.out HP.out HOK.out.1 HOK.out.2 hlt1 (.inl hz),cell_later ((Below.refl _ _).alloc (Nat.le_refl _) _) d1,cell_later ((Below.refl _ _).alloc (Nat.le_refl _) _) d2,HBR1.out⟩
      ·
       by_cases hpr : -(px - x) * highBy < high * -(y - py)
       ·
        go_wp2_with fail
        go_roundw
        case measure=>simp [intOf];omega
        case rel=>exact ⟨k+1,low,lowBy,o,-(px - x),-(y - py),by omega,rfl,rfl,rfl,rfl,rfl,by go_num,MK HSF.out HP.out HOK.out.1 HOK.out.2 hlt1 (.inr hpr),cell_later ((Below.refl _ _).alloc (Nat.le_refl _) _) d1,cell_later ((Below.refl _ _).alloc (Nat.le_refl _) _) d2,HBR1.out⟩
       ·
        go_wp2_with fail
        go_roundw
        case measure=>simp [intOf];omega
        case rel=>exact ⟨k+1,low,lowBy,o,high,highBy,by omega,rfl,rfl,rfl,rfl,rfl,by go_num,RG HSF.out HP.out hlt1 hz hpr,cell_later ((Below.refl _ _).alloc (Nat.le_refl _) _) d1,cell_later ((Below.refl _ _).alloc (Nat.le_refl _) _) d2,HBR1.out⟩
  ·
   obtain rfl:k=ls.length:=by omega
   obtain ⟨hlim,hsame,hiff⟩:=XK HSF.out (by omega)
   have HE:Hid (DL (px,py) ls low lowBy o high highBy ∧ (∀ b,b ∈ ls → b.2=(px,py).2 → b ≠ (px,py) → (px,py).1 < b.1) ∧ (ET (px,py) ls ↔ KeptAt ls i (px,py))):=⟨hlim,hsame,hiff⟩
   obtain ⟨m1,m2⟩:=PO (show -20000 ≤ low by omega) l2 (show -100000 ≤ highBy by omega) h4
   obtain ⟨m3,m4⟩:=PO h1 h2 (show -100000 ≤ lowBy by omega) l4
   clear hlim hsame hiff hb HB0 c1 c2
   by_cases hz:highBy=0
   ·
    go_wp2_with fail
    go_ret
    exact MO true rfl (⟨fun _=>HE.out.2.2.1 (Yc HE.out.1 HE.out.2.1 hz),fun _=>rfl⟩) HBR.out
   ·
    cases o with
    | false=>
     go_wp2_with fail
     go_ret
     exact MO _ rfl (by rw [decide_eq_true_iff];exact (X3 HE.out.1 HE.out.2.1 hz rfl).trans HE.out.2.2) HBR.out
    | true=>
     go_wp2_with fail
     go_ret
     exact MO _ rfl (by rw [decide_eq_true_iff];exact (YV HE.out.1 HE.out.2.1 hz rfl).trans HE.out.2.2) HBR.out
theorem Um (low high:Int) (k1 k2:Value) (p:Int → Bool) (w0 w:World) (hw:Below w0.heap.size w0 w) (h0:0 ≤ low) (h1:low ≤ high) (h2:high ≤ 1099511627777)
  (hcall:∀ (n:Int) (W:World),low ≤ n → n < high → Below w0.heap.size w0 W → Calls Tryz.prog 63 #[.int .i64 n,k1,k2] W fun e w'=>e=.returned (.bool (p n)) ∧ Below W.heap.size W w') :
  Calls Tryz.prog 62 #[.int .i64 low,.int .i64 high,.func (.func 63) #[] #[k1,k2]] w fun e w'=>∃ r:Int,e=.returned (.int .i64 r) ∧ low ≤ r ∧ r ≤ high ∧ (r=high ∨ p r=true) ∧ (r=low ∨ p (r - 1)=false) ∧ Below w0.heap.size w0 w':=by
 have HC:Hid (∀ (n:Int) (W:World),low ≤ n → n < high → Below w0.heap.size w0 W → Calls Tryz.prog 63 #[.int .i64 n,k1,k2] W fun e w'=>e=.returned (.bool (p n)) ∧ Below W.heap.size W w'):=hcall
 clear hcall
 go_enter Tryz.func62,Tryz.ntmps62
 go_wp2_with fail
 go_loopw [0,1] (fun l h wr=>∃ a b:Int,l=.int .i64 a ∧ h=.int .i64 b ∧ low ≤ a ∧ a ≤ b ∧ b ≤ high ∧ (b=high ∨ p b=true) ∧ (a=low ∨ p (a - 1)=false) ∧ Below w0.heap.size w0 wr) (fun l h _=>(intOf h - intOf l).toNat)
 case atStart=>exact ⟨low,high,rfl,rfl,Int.le_refl _,h1,Int.le_refl _,.inl rfl,.inl rfl,hw⟩
 case round=>
  obtain ⟨a,b,rfl,rfl,i1,i2,i3,i4,i5,hb⟩:=hrel
  have HI:Hid ((b=high ∨ p b=true) ∧ (a=low ∨ p (a - 1)=false) ∧ Below w0.heap.size w0 wr):=⟨i4,i5,hb⟩
  clear i4 i5 hb
  by_cases hab:a < b
  ·
   obtain ⟨m,hm⟩:∃ m,a+(b - a) / 2=m:=⟨_,rfl⟩
   have m1:a ≤ m:=by omega
   have m2:m < b:=by omega
   have HM:Hid (a+(b - a) / 2=m):=hm
   clear hm
   cases hpm:p m with
   | true=>
    have HP:Hid (p m=true):=hpm
    clear hpm
    go_wp2_with fail
    rw [HM.out]
    refine (HC.out m _ (by omega) (by omega) HI.out.2.2).mono ?_
    rintro e w1 ⟨rfl,hb1⟩
    rw [HP.out]
    have HB1:Hid (Below w0.heap.size w0 w1):=HI.out.2.2.trans (hb1.mono HI.out.2.2.size)
    clear hb1
    go_wp2_with fail
    go_roundw
    case rel=>exact ⟨a,m,rfl,rfl,i1,m1,by omega,.inr HP.out,HI.out.2.1,HB1.out⟩
    case measure=>simp [intOf];omega
   | false=>
    have HP:Hid (p m=false):=hpm
    clear hpm
    go_wp2_with fail
    rw [HM.out]
    refine (HC.out m _ (by omega) (by omega) HI.out.2.2).mono ?_
    rintro e w1 ⟨rfl,hb1⟩
    rw [HP.out]
    have HB1:Hid (Below w0.heap.size w0 w1):=HI.out.2.2.trans (hb1.mono HI.out.2.2.size)
    clear hb1
    go_wp2_with fail
    go_roundw
    case rel=>exact ⟨m+1,b,rfl,rfl,by omega,by omega,i3,HI.out.1,.inr (by rw [show m+1 - 1=m by omega];exact HP.out),HB1.out⟩
    case measure=>simp [intOf];omega
  ·
   go_wp2_with fail
   go_ret
   obtain ⟨i4,i5,hb⟩:=HI.out
   have e:a=b:=by omega
   subst e
   exact ⟨a,rfl,i1,i3,i4,i5,hb⟩
theorem Vl (low high:Int) (k1 k2:Value) (p:Int → Bool) (w0 w:World) (hw:Below w0.heap.size w0 w) (h0:0 ≤ low) (h1:low ≤ high) (h2:high ≤ 1099511627777)
  (hcall:∀ (n:Int) (W:World),low ≤ n → n < high → Below w0.heap.size w0 W → Calls Tryz.prog 90 #[.int .i64 n,k1,k2] W fun e w'=>e=.returned (.bool (p n)) ∧ Below W.heap.size W w') :
  Calls Tryz.prog 62 #[.int .i64 low,.int .i64 high,.func (.func 90) #[] #[k1,k2]] w fun e w'=>∃ r:Int,e=.returned (.int .i64 r) ∧ low ≤ r ∧ r ≤ high ∧ (r=high ∨ p r=true) ∧ (r=low ∨ p (r - 1)=false) ∧ Below w0.heap.size w0 w':=by
 have HC:Hid (∀ (n:Int) (W:World),low ≤ n → n < high → Below w0.heap.size w0 W → Calls Tryz.prog 90 #[.int .i64 n,k1,k2] W fun e w'=>e=.returned (.bool (p n)) ∧ Below W.heap.size W w'):=hcall
 clear hcall
 go_enter Tryz.func62,Tryz.ntmps62
 go_wp2_with fail
 go_loopw [0,1] (fun l h wr=>∃ a b:Int,l=.int .i64 a ∧ h=.int .i64 b ∧ low ≤ a ∧ a ≤ b ∧ b ≤ high ∧ (b=high ∨ p b=true) ∧ (a=low ∨ p (a - 1)=false) ∧ Below w0.heap.size w0 wr) (fun l h _=>(intOf h - intOf l).toNat)
 case atStart=>exact ⟨low,high,rfl,rfl,Int.le_refl _,h1,Int.le_refl _,.inl rfl,.inl rfl,hw⟩
 case round=>
  obtain ⟨a,b,rfl,rfl,i1,i2,i3,i4,i5,hb⟩:=hrel
  have HI:Hid ((b=high ∨ p b=true) ∧ (a=low ∨ p (a - 1)=false) ∧ Below w0.heap.size w0 wr):=⟨i4,i5,hb⟩
  clear i4 i5 hb
  by_cases hab:a < b
  ·
   obtain ⟨m,hm⟩:∃ m,a+(b - a) / 2=m:=⟨_,rfl⟩
   have m1:a ≤ m:=by omega
   have m2:m < b:=by omega
   have HM:Hid (a+(b - a) / 2=m):=hm
   clear hm
   cases hpm:p m with
   | true=>
    have HP:Hid (p m=true):=hpm
    clear hpm
    go_wp2_with fail
    rw [HM.out]
    refine (HC.out m _ (by omega) (by omega) HI.out.2.2).mono ?_
    rintro e w1 ⟨rfl,hb1⟩
    rw [HP.out]
    have HB1:Hid (Below w0.heap.size w0 w1):=HI.out.2.2.trans (hb1.mono HI.out.2.2.size)
    clear hb1
    go_wp2_with fail
    go_roundw
    case rel=>exact ⟨a,m,rfl,rfl,i1,m1,by omega,.inr HP.out,HI.out.2.1,HB1.out⟩
    case measure=>simp [intOf];omega
   | false=>
    have HP:Hid (p m=false):=hpm
    clear hpm
    go_wp2_with fail
    rw [HM.out]
    refine (HC.out m _ (by omega) (by omega) HI.out.2.2).mono ?_
    rintro e w1 ⟨rfl,hb1⟩
    rw [HP.out]
    have HB1:Hid (Below w0.heap.size w0 w1):=HI.out.2.2.trans (hb1.mono HI.out.2.2.size)
    clear hb1
    go_wp2_with fail
    go_roundw
    case rel=>exact ⟨m+1,b,rfl,rfl,by omega,by omega,i3,HI.out.1,.inr (by rw [show m+1 - 1=m by omega];exact HP.out),HB1.out⟩
    case measure=>simp [intOf];omega
  ·
   go_wp2_with fail
   go_ret
   obtain ⟨i4,i5,hb⟩:=HI.out
   have e:a=b:=by omega
   subst e
   exact ⟨a,rfl,i1,i3,i4,i5,hb⟩
end Go.Proofs.YtipdclphpkgceaaGreatDoor
