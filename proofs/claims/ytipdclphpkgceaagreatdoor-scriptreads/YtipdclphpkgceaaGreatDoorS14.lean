/- Own facts, put together: no statement of its own. -/
import Derived.Test.YtipdclphpkgceaaGreatDoorS09
import Derived.Test.YtipdclphpkgceaaGreatDoorS13
import Derived.Test.YtipdclphpkgceaaGreatDoorS01
import Derived.Laws.StructEq
import Derived.BigQuiet
import Derived.Test.YtipdclphpkgceaaGreatDoorS04
set_option maxHeartbeats 4000000
set_option maxRecDepth 100000

namespace Go.Proofs.YtipdclphpkgceaaGreatDoor
section
variable {cs:Nat → List (Int × Int)} {ps:List Pk}
theorem NeverAt.one (ho:OkPks ps) {i j:Nat} (h:NeverAt cs ps i) (k:NeverAt cs ps j) (hf:flowOf ps i=flowOf ps j):i=j:=by
 obtain ⟨p,s,h1,h2,h3,h4⟩:=h
 obtain ⟨q,t,k1,k2,k3,k4⟩:=k
 have hi:=lt_of_get h1
 have hj:=lt_of_get k1
 have ai:=num_at ho hi (Nat.le_refl _)
 have aj:=num_at ho hj (Nat.le_refl _)
 rw [← hf] at k2 k3 aj
 have hown:=own_num ho (flowOf ps i) ps.length (Nat.le_refl _)
 have gi:=(hown.2 _ _ ai).2.2.2
 have gj:=(hown.2 _ _ aj).2.2.2
 have e:=never_one (gi.trans h1) h3 h4 (gj.trans k1) k3 k4
 rw [e,aj] at ai
 exact (Option.some.inj ai).symm
theorem never_num (ho:OkPks ps) {f:Nat} (hc:cs f ≠ []) {r i:Nat} {p:Pk} {s:Sh} (hr:(numTo ps f ps.length)[r]? = some i) (h1:(ownTo ps f ps.length)[r]? = some p) (h2:shape (cs f) ((ownTo ps f ps.length).take r)=some s) (h3:shStep s p=none):NeverAt cs ps i ∧ flowOf ps i=f:=by
 obtain ⟨g1,g2,g3,g4⟩:=(own_num ho f ps.length (Nat.le_refl _)).2 r i hr
 exact ⟨⟨p,s,g4.symm.trans h1,by rw [g2];exact hc,by rw [g2,g3];exact h2,h3⟩,g2⟩
theorem never_not (ho:OkPks ps) {f:Nat} {out:List Pk} (hs:shapedFl cs ps f=some out) {j:Nat} (hj:flowOf ps j=f):¬ NeverAt cs ps j:=by
 rintro ⟨p,s,h1,h2,h3,h4⟩
 rw [hj] at h2 h3
 unfold shapedFl at hs
 rw [if_neg h2] at hs
 have hjl:=lt_of_get h1
 have aj:=num_at ho hjl (Nat.le_refl _)
 rw [hj] at aj
 have gj:=((own_num ho f ps.length (Nat.le_refl _)).2 _ _ aj).2.2.2
 rw [shape_stuck (gj.trans h1) h3 h4] at hs
 cases hs
def FlowsDone (cs:Nat → List (Int × Int)) (ps:List Pk) (f:Nat) (z:Int) (a:Nat → Int):Prop:=
 (z = -1 ∧ ∀ g,g < f → ∃ out,shapedFl cs ps g=some out ∧ ∀ (r i:Nat),(numTo ps g ps.length)[r]? = some i → a i=tickOf out r) ∨
  (∃ i:Nat,z=i ∧ NeverAt cs ps i ∧ flowOf ps i < f ∧ ∀ j,NeverAt cs ps j → flowOf ps j < f → i ≤ j)
theorem flowsDone_none (a:Nat → Int):FlowsDone cs ps 0 (-1) a:=.inl ⟨rfl,fun _ h=>absurd h (Nat.not_lt_zero _)⟩
theorem FlowsDone.range {f:Nat} {z:Int} {a:Nat → Int} (h:FlowsDone cs ps f z a):z = -1 ∨ ∃ i:Nat,z=i ∧ i < ps.length:=by
 rcases h with ⟨h,-⟩ | ⟨i,h,⟨p,s,h1,-⟩,-⟩
 · exact .inl h
 · exact .inr ⟨i,h,lt_of_get h1⟩
theorem FlowsDone.shaped (ho:OkPks ps) {f:Nat} {z:Int} {a a':Nat → Int} {out:List Pk} (h:FlowsDone cs ps f z a) (hs:shapedFl cs ps f=some out) (h1:∀ (r i:Nat),(numTo ps f ps.length)[r]? = some i → a' i=tickOf out r) (h2:∀ i,i ∉ numTo ps f ps.length → a' i=a i):FlowsDone cs ps (f+1) z a':=by
 rcases h with ⟨rfl,h⟩ | ⟨i,rfl,hi,hf,hall⟩
 ·
  refine .inl ⟨rfl,fun g hg=>?_⟩
  rcases Nat.lt_or_ge g f with h' | h'
  ·
   obtain ⟨o,e1,e2⟩:=h g h'
   refine ⟨o,e1,fun r i hr=>?_⟩
   rw [h2 i ?_]
   · exact e2 r i hr
   ·
    intro hm
    have m1:=num_mem.1 (List.mem_of_getElem? hr)
    have m2:=num_mem.1 hm
    omega
  ·
   obtain rfl:g=f:=by omega
   exact ⟨out,hs,h1⟩
 ·
  refine .inr ⟨i,rfl,hi,by omega,fun j hj hjf=>?_⟩
  rcases Nat.lt_or_ge (flowOf ps j) f with h' | h'
  · exact hall j hj h'
  · exact absurd hj (never_not ho hs (by omega))
theorem FlowsDone.stuck (ho:OkPks ps) {f:Nat} {z:Int} {a a':Nat → Int} {n:Nat} (h:FlowsDone cs ps f z a) (hn:NeverAt cs ps n) (hf:flowOf ps n=f):FlowsDone cs ps (f+1) (if z < 0 ∨ (n:Int) < z then (n:Int) else z) a':=by
 have self:∀ j,NeverAt cs ps j → flowOf ps j < f+1 → flowOf ps j < f ∨ j=n:=fun j hj hjf=>by
  rcases Nat.lt_or_ge (flowOf ps j) f with h' | h'
  · exact .inl h'
  · exact .inr (hj.one ho hn (by omega))
 rcases h with ⟨rfl,h⟩ | ⟨i,rfl,hi,hif,hall⟩
 ·
  rw [if_pos (.inl (by omega))]
  refine .inr ⟨n,rfl,hn,by omega,fun j hj hjf=>?_⟩
  rcases self j hj hjf with h' | h'
  ·
   obtain ⟨out,e1,-⟩:=h _ h'
   exact absurd hj (never_not ho e1 rfl)
  · omega
 ·
  by_cases hlt:n < i
  ·
   rw [if_pos (.inr (by omega))]
   refine .inr ⟨n,rfl,hn,by omega,fun j hj hjf=>?_⟩
   rcases self j hj hjf with h' | h'
   ·
    have:=hall j hj h'
    omega
   · omega
  ·
   rw [if_neg (by omega)]
   refine .inr ⟨i,rfl,hi,by omega,fun j hj hjf=>?_⟩
   rcases self j hj hjf with h' | h'
   · exact hall j hj h'
   · omega
end
end Go.Proofs.YtipdclphpkgceaaGreatDoor

namespace Go.Proofs.YtipdclphpkgceaaGreatDoor
open Go.RowKit
def AddTo (S:List (Int × Int) → List (Int × Int) → Int → List (Int × Int) → Prop) (cs:List (List (Int × Int))):Nat → List (Int × Int) → Prop
 | 0,_=>False
 | 1,L=>L=curveFl cs 0
 | k+2,L=>∃ M,AddTo S cs (k+1) M ∧ curveFl cs (k+1) ≠ [] ∧ S M (curveFl cs (k+1)) 0 L
theorem addTo_next {S:List (Int × Int) → List (Int × Int) → Int → List (Int × Int) → Prop} {cs:List (List (Int × Int))} {k:Nat} {M L:List (Int × Int)} (h:AddTo S cs k M) (h1:curveFl cs k ≠ []) (h2:S M (curveFl cs k) 0 L):AddTo S cs (k+1) L:=by
 cases k with
 | zero=>exact h.elim
 | succ k=>exact ⟨M,h,h1,h2⟩
def CurveAll (S:List (Int × Int) → List (Int × Int) → Int → List (Int × Int) → Prop) (cs:List (List (Int × Int))) (L:List (Int × Int)):Prop:=curveFl cs 0 ≠ [] ∧ ∃ k,1 ≤ k ∧ k ≤ 8 ∧ AddTo S cs k L ∧ (k=8 ∨ curveFl cs k=[])
def CurveNone (S:List (Int × Int) → List (Int × Int) → Int → List (Int × Int) → Prop) (cs:List (List (Int × Int))):Prop:=curveFl cs 0=[] ∨ (curveFl cs 0 ≠ [] ∧ ∃ k M code L,1 ≤ k ∧ k < 8 ∧ AddTo S cs k M ∧ curveFl cs k ≠ [] ∧ S M (curveFl cs k) code L ∧ code ≠ 0)
structure SumWay (S:List (Int × Int) → List (Int × Int) → Int → List (Int × Int) → Prop):Prop where
 ok:∀ la lb L,okCurve la → okCurve lb → S la lb 0 L → okCurve L
 num:∀ la lb c L,S la lb c L → 0 ≤ c ∧ c ≤ 9
 one:∀ la lb c L c' L',okCurve la → okCurve lb → S la lb c L → S la lb c' L' → c=c' ∧ L=L'
theorem addTo_ok {S:List (Int × Int) → List (Int × Int) → Int → List (Int × Int) → Prop} (hS:SumWay S) {cs:List (List (Int × Int))} (hc:CurvesOk (curveFl cs)) (h0:curveFl cs 0 ≠ []):∀ k L,k ≤ 8 → AddTo S cs k L → okCurve L
 | 0,L,_,h=>h.elim
 | 1,L,_,h=>by
  have h:L=curveFl cs 0:=h
  rcases hc 0 (by decide) with e | e
  · exact absurd e h0
  · rw [h];exact e
 | k+2,L,hk,⟨M,h1,h2,h3⟩=>by
  rcases hc (k+1) (by omega) with e | e
  · exact absurd e h2
  · exact hS.ok M _ L (addTo_ok hS hc h0 (k+1) M (by omega) h1) e h3
theorem addTo_one {S:List (Int × Int) → List (Int × Int) → Int → List (Int × Int) → Prop} (hS:SumWay S) {cs:List (List (Int × Int))} (hc:CurvesOk (curveFl cs)) (h0:curveFl cs 0 ≠ []):∀ k L L',k ≤ 8 → AddTo S cs k L → AddTo S cs k L' → L=L'
 | 0,L,L',_,h,_=>h.elim
 | 1,L,L',_,h,h'=>by
  have h:L=curveFl cs 0:=h
  have h':L'=curveFl cs 0:=h'
  rw [h,h']
 | k+2,L,L',hk,⟨M,h1,h2,h3⟩,⟨M',g1,g2,g3⟩=>by
  obtain rfl:=addTo_one hS hc h0 (k+1) M M' (by omega) h1 g1
  rcases hc (k+1) (by omega) with e | e
  · exact absurd e h2
  · exact (hS.one M _ 0 L 0 L' (addTo_ok hS hc h0 (k+1) M (by omega) h1) e h3 g3).2
theorem addTo_some {S:List (Int × Int) → List (Int × Int) → Int → List (Int × Int) → Prop} {cs:List (List (Int × Int))}:∀ k L,AddTo S cs k L → ∀ j,1 ≤ j → j < k → curveFl cs j ≠ []
 | 0,L,h,_,_,_=>h.elim
 | 1,L,_,j,h1,h2=>by omega
 | k+2,L,⟨M,h1,h2,h3⟩,j,g1,g2=>by
  by_cases e:j=k+1
  · rw [e];exact h2
  · exact addTo_some (k+1) M h1 j g1 (by omega)
theorem addTo_down {S:List (Int × Int) → List (Int × Int) → Int → List (Int × Int) → Prop} {cs:List (List (Int × Int))}:∀ k L,AddTo S cs k L → ∀ j,1 ≤ j → j ≤ k → ∃ M,AddTo S cs j M
 | 0,L,h,_,_,_=>h.elim
 | 1,L,h,j,h1,h2=>by
  obtain rfl:j=1:=by omega
  exact ⟨L,h⟩
 | k+2,L,h,j,g1,g2=>by
  by_cases e:j=k+2
  · subst e;exact ⟨L,h⟩
  ·
   obtain ⟨M,h1,-,-⟩:=h
   exact addTo_down (k+1) M h1 j g1 (by omega)
theorem addTo_step {S:List (Int × Int) → List (Int × Int) → Int → List (Int × Int) → Prop} {cs:List (List (Int × Int))} {k:Nat} {L:List (Int × Int)} (h:AddTo S cs (k+1) L) (hk:1 ≤ k):∃ M,AddTo S cs k M ∧ S M (curveFl cs k) 0 L:=by
 cases k with
 | zero=>omega
 | succ k=>
  obtain ⟨M,h1,-,h3⟩:=h
  exact ⟨M,h1,h3⟩
theorem CurveAll.one {S:List (Int × Int) → List (Int × Int) → Int → List (Int × Int) → Prop} (hS:SumWay S) {cs:List (List (Int × Int))} (hc:CurvesOk (curveFl cs)) {L L':List (Int × Int)} (h:CurveAll S cs L) (h':CurveAll S cs L'):L=L':=by
 obtain ⟨h0,k,k1,k8,hk,he⟩:=h
 obtain ⟨-,j,j1,j8,hj,hf⟩:=h'
 have e:k=j:=by
  rcases Nat.lt_trichotomy k j with h | h | h
  ·
   rcases he with e | e
   · omega
   · exact absurd e (addTo_some j L' hj k k1 h)
  · exact h
  ·
   rcases hf with e | e
   · omega
   · exact absurd e (addTo_some k L hk j j1 h)
 subst e
 exact addTo_one hS hc h0 k L L' k8 hk hj
theorem CurveAll.no {S:List (Int × Int) → List (Int × Int) → Int → List (Int × Int) → Prop} (hS:SumWay S) {cs:List (List (Int × Int))} (hc:CurvesOk (curveFl cs)) {L:List (Int × Int)} (h:CurveAll S cs L):¬ CurveNone S cs:=by
 obtain ⟨h0,k,k1,k8,hk,he⟩:=h
 rintro (h | ⟨-,j,M,code,N,j1,j8,hj,hne,hs,hcode⟩)
 · exact h0 h
 ·
  have hjk:j < k:=by
   rcases Nat.lt_trichotomy k j with h | h | h
   ·
    rcases he with e | e
    · omega
    · exact absurd e (addTo_some j M hj k k1 h)
   ·
    subst h
    rcases he with e | e
    · omega
    · exact absurd e hne
   · exact h
  obtain ⟨N',hN⟩:=addTo_down k L hk (j+1) (by omega) (by omega)
  obtain ⟨M',hM,hs'⟩:=addTo_step hN j1
  obtain rfl:=addTo_one hS hc h0 j M M' (by omega) hj hM
  rcases hc j j8 with e | e
  · exact hne e
  · exact hcode (hS.one M _ code N 0 N' (addTo_ok hS hc h0 j M (by omega) hj) e hs hs').1
end Go.Proofs.YtipdclphpkgceaaGreatDoor

namespace Go.Proofs.YtipdclphpkgceaaGreatDoor
structure SomeOf (a:Int × Int) (L:List (Int × Int)):Prop where
 same:∀ b,b ∈ L → b.2=a.2 → b ≠ a → a.1 < b.1
 flat:∀ c,c ∈ L → c.2 < a.2 → a.1 < c.1
 both:∀ b,b ∈ L → ∀ c,c ∈ L → a.2 < b.2 → c.2 < a.2 → (a.1 - b.1) * (a.2 - c.2) < (c.1 - a.1) * (b.2 - a.2)
structure LimIs (a:Int × Int) (P:List (Int × Int)) (low lowBy:Int) (op:Bool) (high highBy:Int):Prop where
 lowBd:0 ≤ low ∧ low ≤ 20000 ∧ 1 ≤ lowBy ∧ lowBy ≤ 100000
 highBd : -20000 ≤ high ∧ high ≤ 20000 ∧ 0 ≤ highBy ∧ highBy ≤ 100000
 isLow:op=true → ∃ b,b ∈ P ∧ a.2 < b.2 ∧ low=a.1 - b.1 ∧ lowBy=b.2 - a.2
 zero:op=false → low=0
 noLow:op=false → ∀ b,b ∈ P → a.2 < b.2 → a.1 < b.1
 maxLow:∀ b,b ∈ P → a.2 < b.2 → b.1 ≤ a.1 → (a.1 - b.1) * lowBy ≤ low * (b.2 - a.2)
 isHigh:highBy ≠ 0 → ∃ c,c ∈ P ∧ c.2 < a.2 ∧ high=c.1 - a.1 ∧ highBy=a.2 - c.2
 noHigh:highBy=0 → ∀ c,c ∈ P → ¬ c.2 < a.2
 minHigh:∀ c,c ∈ P → c.2 < a.2 → high * (a.2 - c.2) ≤ (c.1 - a.1) * highBy
theorem frac_trans {n1 d1 n2 d2 n3 d3:Int} (h1:0 ≤ d1) (h2:0 < d2) (h3:0 ≤ d3) (a:n1 * d2 ≤ n2 * d1) (b:n2 * d3 ≤ n3 * d2):n1 * d3 ≤ n3 * d1:=by
 have s1:=Int.mul_le_mul_of_nonneg_right a h3
 have s2:=Int.mul_le_mul_of_nonneg_right b h1
 have e1:n1 * d2 * d3=d2 * (n1 * d3):=by simp only [Int.mul_comm,Int.mul_left_comm]
 have e2:n2 * d1 * d3=n2 * d3 * d1:=by simp only [Int.mul_comm,Int.mul_left_comm]
 have e3:n3 * d2 * d1=d2 * (n3 * d1):=by simp only [Int.mul_comm,Int.mul_left_comm]
 exact Int.le_of_mul_le_mul_left (show d2 * (n1 * d3) ≤ d2 * (n3 * d1) by omega) h2
theorem lim_none (a:Int × Int):LimIs a [] 0 1 false 0 0 where
 lowBd:=by decide
 highBd:=by decide
 isLow h:=by cases h
 zero _:=rfl
 noLow _ b h:=by cases h
 maxLow b h:=by cases h
 isHigh h:=absurd rfl h
 noHigh _ c h:=by cases h
 minHigh c h:=by cases h
section
variable {a b:Int × Int} {P:List (Int × Int)} {low lowBy high highBy:Int} {op:Bool}
theorem lim_keep (h:LimIs a P low lowBy op high highBy) (hn:a.2 < b.2 → a.1 < b.1 ∨ (op=true ∧ (a.1 - b.1) * lowBy ≤ low * (b.2 - a.2))) (hh:b.2 < a.2 → highBy ≠ 0 ∧ high * (a.2 - b.2) ≤ (b.1 - a.1) * highBy):LimIs a (P ++ [b]) low lowBy op high highBy where
 lowBd:=h.lowBd
 highBd:=h.highBd
 isLow e:=by obtain ⟨c,hc,r⟩:=h.isLow e;exact ⟨c,List.mem_append.2 (.inl hc),r⟩
 zero:=h.zero
 noLow e c hc hl:=by
  rcases List.mem_append.1 hc with hc | hc
  · exact h.noLow e c hc hl
  ·
   rw [List.mem_singleton.1 hc] at hl ⊢
   rcases hn hl with h | ⟨h,-⟩
   · exact h
   · rw [e] at h;cases h
 maxLow c hc hl hl':=by
  rcases List.mem_append.1 hc with hc | hc
  · exact h.maxLow c hc hl hl'
  ·
   rw [List.mem_singleton.1 hc] at hl hl' ⊢
   rcases hn hl with h | ⟨-,h⟩
   · omega
   · exact h
 isHigh e:=by obtain ⟨c,hc,r⟩:=h.isHigh e;exact ⟨c,List.mem_append.2 (.inl hc),r⟩
 noHigh e c hc hl:=by
  rcases List.mem_append.1 hc with hc | hc
  · exact h.noHigh e c hc hl
  ·
   rw [List.mem_singleton.1 hc] at hl
   exact (hh hl).1 e
 minHigh c hc hl:=by
  rcases List.mem_append.1 hc with hc | hc
  · exact h.minHigh c hc hl
  ·
   rw [List.mem_singleton.1 hc] at hl ⊢
   exact (hh hl).2
theorem lim_same (h:LimIs a P low lowBy op high highBy) (hs:b.2=a.2):LimIs a (P ++ [b]) low lowBy op high highBy:=
 lim_keep h (fun hl=>by omega) (fun hl=>by omega)
theorem lim_above (h:LimIs a P low lowBy op high highBy) (hs:a.2 < b.2) (hn:a.1 - b.1 < 0):LimIs a (P ++ [b]) low lowBy op high highBy:=
 lim_keep h (fun _=>.inl (by omega)) (fun hl=>by omega)
theorem lim_sooner (h:LimIs a P low lowBy op high highBy) (hs:a.2 < b.2) (hn:0 ≤ a.1 - b.1) (hp:(a.1 - b.1) * lowBy < low * (b.2 - a.2)):LimIs a (P ++ [b]) low lowBy op high highBy:=by
 refine lim_keep h (fun _=>.inr ⟨?_,Int.le_of_lt hp⟩) (fun hl=>by omega)
 cases hop:op with
 | true=>rfl
 | false=>
  rw [h.zero hop,Int.zero_mul] at hp
  have:=Int.mul_nonneg hn (show 0 ≤ lowBy by have:=h.lowBd;omega)
  omega
theorem lim_later (h:LimIs a P low lowBy op high highBy) (hs:b.2 < a.2) (hz:highBy ≠ 0) (hp:¬ -(a.1 - b.1) * highBy < high * -(b.2 - a.2)):LimIs a (P ++ [b]) low lowBy op high highBy:=by
 refine lim_keep h (fun hl=>by omega) (fun _=>⟨hz,?_⟩)
 have e1 : -(a.1 - b.1)=b.1 - a.1:=by omega
 have e2 : -(b.2 - a.2)=a.2 - b.2:=by omega
 rw [e1,e2] at hp
 omega
theorem lim_low (h:LimIs a P low lowBy op high highBy) (ha:1 ≤ a.1 ∧ a.1 ≤ 20000 ∧ 0 ≤ a.2 ∧ a.2 ≤ 100000) (hb:1 ≤ b.1 ∧ b.1 ≤ 20000 ∧ 0 ≤ b.2 ∧ b.2 ≤ 100000) (hs:a.2 < b.2) (hn:0 ≤ a.1 - b.1) (hp:low * (b.2 - a.2) ≤ (a.1 - b.1) * lowBy):LimIs a (P ++ [b]) (a.1 - b.1) (b.2 - a.2) true high highBy where
 lowBd:=by omega
 highBd:=h.highBd
 isLow _:=⟨b,by simp,hs,rfl,rfl⟩
 zero e:=by cases e
 noLow e:=by cases e
 maxLow c hc hl hl':=by
  rcases List.mem_append.1 hc with hc | hc
  · exact frac_trans (by omega) (by have:=h.lowBd;omega) (by omega) (h.maxLow c hc hl hl') hp
  ·
   rw [List.mem_singleton.1 hc] at hl hl' ⊢
   exact Int.le_refl _
 isHigh e:=by obtain ⟨c,hc,r⟩:=h.isHigh e;exact ⟨c,List.mem_append.2 (.inl hc),r⟩
 noHigh e c hc hl:=by
  rcases List.mem_append.1 hc with hc | hc
  · exact h.noHigh e c hc hl
  ·
   rw [List.mem_singleton.1 hc] at hl
   omega
 minHigh c hc hl:=by
  rcases List.mem_append.1 hc with hc | hc
  · exact h.minHigh c hc hl
  ·
   rw [List.mem_singleton.1 hc] at hl
   omega
theorem lim_high (h:LimIs a P low lowBy op high highBy) (ha:1 ≤ a.1 ∧ a.1 ≤ 20000 ∧ 0 ≤ a.2 ∧ a.2 ≤ 100000) (hb:1 ≤ b.1 ∧ b.1 ≤ 20000 ∧ 0 ≤ b.2 ∧ b.2 ≤ 100000) (hs:b.2 < a.2) (hp:highBy=0 ∨ -(a.1 - b.1) * highBy < high * -(b.2 - a.2)):LimIs a (P ++ [b]) low lowBy op (-(a.1 - b.1)) (-(b.2 - a.2)):=by
 have e1 : -(a.1 - b.1)=b.1 - a.1:=by omega
 have e2 : -(b.2 - a.2)=a.2 - b.2:=by omega
 rw [e1,e2] at hp ⊢
 exact {
  lowBd:=h.lowBd
  highBd:=by omega
  isLow:=fun e=>by obtain ⟨c,hc,r⟩:=h.isLow e;exact ⟨c,List.mem_append.2 (.inl hc),r⟩
  zero:=h.zero
  noLow:=fun e c hc hl=>by
   rcases List.mem_append.1 hc with hc | hc
   · exact h.noLow e c hc hl
   ·
    rw [List.mem_singleton.1 hc] at hl
    omega
  maxLow:=fun c hc hl hl'=>by
   rcases List.mem_append.1 hc with hc | hc
   · exact h.maxLow c hc hl hl'
   ·
    rw [List.mem_singleton.1 hc] at hl
    omega
  isHigh:=fun _=>⟨b,by simp,hs,rfl,rfl⟩
  noHigh:=fun e=>by omega
  minHigh:=fun c hc hl=>by
   rcases List.mem_append.1 hc with hc | hc
   ·
    rcases hp with hp | hp
    · exact absurd hl (h.noHigh hp c hc)
    ·
     by_cases hz:highBy=0
     · exact absurd hl (h.noHigh hz c hc)
     · exact frac_trans (by omega) (by have:=h.highBd;omega) (by omega) (Int.le_of_lt hp) (h.minHigh c hc hl)
   ·
    rw [List.mem_singleton.1 hc] at hl ⊢
    exact Int.le_refl _ }
theorem lim_free (h:LimIs a P low lowBy op high highBy) (hs:∀ b,b ∈ P → b.2=a.2 → b ≠ a → a.1 < b.1) (hz:highBy=0):SomeOf a P:=
 ⟨hs,fun c hc hl=>absurd hl (h.noHigh hz c hc),fun _ _ c hc _ hl=>absurd hl (h.noHigh hz c hc)⟩
theorem lim_shut (h:LimIs a P low lowBy op high highBy) (hs:∀ b,b ∈ P → b.2=a.2 → b ≠ a → a.1 < b.1) (hz:highBy ≠ 0) (ho:op=false):0 < high ↔ SomeOf a P:=by
 obtain ⟨c0,hc0,hl0,rfl,rfl⟩:=h.isHigh hz
 constructor
 ·
  intro hp
  have hflat:∀ c,c ∈ P → c.2 < a.2 → a.1 < c.1:=fun c hc hl=>by
   have h1:=h.minHigh c hc hl
   have h2:0 < (c0.1 - a.1) * (a.2 - c.2):=Int.mul_pos hp (by omega)
   have:=Int.pos_of_mul_pos_left (show 0 < (c.1 - a.1) * (a.2 - c0.2) by omega) (by omega)
   omega
  refine ⟨hs,hflat,fun b hb c hc hab hca=>?_⟩
  have h1:=h.noLow ho b hb hab
  have h2:=hflat c hc hca
  have h3:(a.1 - b.1) * (a.2 - c.2) < 0:=Int.mul_neg_of_neg_of_pos (by omega) (by omega)
  have h4:0 < (c.1 - a.1) * (b.2 - a.2):=Int.mul_pos (by omega) (by omega)
  omega
 ·
  intro hS
  have:=hS.flat c0 hc0 hl0
  omega
theorem lim_open (h:LimIs a P low lowBy op high highBy) (hs:∀ b,b ∈ P → b.2=a.2 → b ≠ a → a.1 < b.1) (hz:highBy ≠ 0) (ho:op=true):low * highBy < high * lowBy ↔ SomeOf a P:=by
 obtain ⟨c0,hc0,hl0,rfl,rfl⟩:=h.isHigh hz
 obtain ⟨b0,hb0,hg0,rfl,rfl⟩:=h.isLow ho
 have hbd:=h.lowBd
 constructor
 ·
  intro hp
  have hp0:0 < c0.1 - a.1:=by
   have h2:0 ≤ (a.1 - b0.1) * (a.2 - c0.2):=Int.mul_nonneg hbd.1 (by omega)
   exact Int.pos_of_mul_pos_left (show 0 < (c0.1 - a.1) * (b0.2 - a.2) by omega) (by omega)
  have hflat:∀ c,c ∈ P → c.2 < a.2 → a.1 < c.1:=fun c hc hl=>by
   have h1:=h.minHigh c hc hl
   have h2:0 < (c0.1 - a.1) * (a.2 - c.2):=Int.mul_pos hp0 (by omega)
   have:=Int.pos_of_mul_pos_left (show 0 < (c.1 - a.1) * (a.2 - c0.2) by omega) (by omega)
   omega
  refine ⟨hs,hflat,fun b hb c hc hab hca=>?_⟩
  have h2:=hflat c hc hca
  by_cases hba:b.1 ≤ a.1
  ·
   have m1:=h.maxLow b hb hab hba
   have m2:=h.minHigh c hc hca
   rcases Int.lt_or_le ((a.1 - b.1) * (a.2 - c.2)) ((c.1 - a.1) * (b.2 - a.2)) with hlt | hle
   · exact hlt
   ·
    exfalso
    have t1:=frac_trans (n1:=c0.1 - a.1) (d1:=a.2 - c0.2) (n2:=c.1 - a.1) (d2:=a.2 - c.2) (n3:=a.1 - b.1) (d3:=b.2 - a.2) (by omega) (by omega) (by omega) m2 hle
    have t2:=frac_trans (n1:=c0.1 - a.1) (d1:=a.2 - c0.2) (n2:=a.1 - b.1) (d2:=b.2 - a.2) (n3:=a.1 - b0.1) (d3:=b0.2 - a.2) (by omega) (by omega) (by omega) t1 m1
    omega
  ·
   have h3:(a.1 - b.1) * (a.2 - c.2) < 0:=Int.mul_neg_of_neg_of_pos (by omega) (by omega)
   have h4:0 < (c.1 - a.1) * (b.2 - a.2):=Int.mul_pos (by omega) (by omega)
   omega
 ·
  intro hS
  exact hS.both b0 hb0 c0 hc0 hg0 hl0
end
def Falls (R:List (Int × Int)):Prop:=R.Pairwise fun a b=>b.2 < a.2
theorem falls_same:∀ {R S:List (Int × Int)},Falls R → Falls S → (∀ a,a ∈ R ↔ a ∈ S) → R=S
 | [],[],_,_,_=>rfl
 | [],s :: S,_,_,h=>by have:=(h s).2 (List.mem_cons_self ..);cases this
 | r :: R,[],_,_,h=>by have:=(h r).1 (List.mem_cons_self ..);cases this
 | r :: R,s :: S,hR,hS,h=>by
  have hr:=List.pairwise_cons.1 hR
  have hs:=List.pairwise_cons.1 hS
  have e:r=s:=by
   rcases List.mem_cons.1 ((h r).1 (List.mem_cons_self ..)) with e | h1
   · exact e
   ·
    rcases List.mem_cons.1 ((h s).2 (List.mem_cons_self ..)) with e | h2
    · exact e.symm
    ·
     have:=hs.1 r h1
     have:=hr.1 s h2
     omega
  subst e
  rw [falls_same hr.2 hs.2 fun a=>⟨fun ha=>?_,fun ha=>?_⟩]
  ·
   rcases List.mem_cons.1 ((h a).1 (List.mem_cons_of_mem _ ha)) with e | h1
   · have:=hr.1 a ha;rw [e] at this;omega
   · exact h1
  ·
   rcases List.mem_cons.1 ((h a).2 (List.mem_cons_of_mem _ ha)) with e | h1
   · have:=hs.1 a ha;rw [e] at this;omega
   · exact h1
theorem falls_put {R:List (Int × Int)} {x:Int × Int} {k:Nat} (hR:Falls R) (h1:∀ j y,j < k → R[j]? = some y → x.2 < y.2) (h2:∀ y,R[k]? = some y → ¬ x.2 < y.2) (hx:∀ y,y ∈ R → y.2 ≠ x.2):Falls (R.take k ++ x :: R.drop k):=by
 have hR':=hR
 unfold Falls at hR' ⊢
 rw [← List.take_append_drop k R,List.pairwise_append] at hR'
 have hd:∀ y,y ∈ R.drop k → y.2 < x.2:=by
  intro y hy
  have hyR:=List.mem_of_mem_drop hy
  rcases hq:R.drop k with _ | ⟨z,r⟩
  · rw [hq] at hy;cases hy
  ·
   have hz:R[k]? = some z:=by rw [← List.head?_drop,hq];rfl
   have hz':=h2 z hz
   have hzx:=hx z (List.mem_of_getElem? hz)
   rw [hq] at hy
   rcases List.mem_cons.1 hy with rfl | hy
   · omega
   ·
    have:=hR'.2.1
    rw [hq] at this
    have:=(List.pairwise_cons.1 this).1 y hy
    omega
 have ht:∀ y,y ∈ R.take k → x.2 < y.2:=by
  intro y hy
  obtain ⟨j,hj⟩:=List.mem_iff_getElem?.1 hy
  rw [List.getElem?_take] at hj
  split at hj
  · next h=>exact h1 j y h hj
  · cases hj
 rw [List.pairwise_append]
 refine ⟨hR'.1,List.pairwise_cons.2 ⟨hd,hR'.2.1⟩,fun y hy z hz=>?_⟩
 rcases List.mem_cons.1 hz with rfl | hz
 · exact ht y hy
 ·
  have:=ht y hy
  have:=hd z hz
  omega
def KeptAt (L:List (Int × Int)) (i:Nat) (a:Int × Int):Prop:=SomeOf a L ∧ ∀ k,k < i → L[k]? ≠ some a
structure KeptTo (L:List (Int × Int)) (i:Nat) (R:List (Int × Int)):Prop where
 falls:Falls R
 len:R.length ≤ i
 mem:∀ a,a ∈ R ↔ SomeOf a L ∧ ∃ k,k < i ∧ L[k]? = some a
theorem kept_none (L:List (Int × Int)):KeptTo L 0 []:=⟨List.Pairwise.nil,Nat.le_refl _,fun a=>⟨fun h=>(by cases h),fun ⟨_,k,hk,_⟩=>absurd hk (Nat.not_lt_zero _)⟩⟩
theorem kept_skip {L R:List (Int × Int)} {i:Nat} {x:Int × Int} (h:KeptTo L i R) (hx:L[i]? = some x) (hn:¬ KeptAt L i x):KeptTo L (i+1) R:=by
 refine ⟨h.falls,Nat.le_succ_of_le h.len,fun a=>(h.mem a).trans ⟨fun ⟨h1,k,hk,e⟩=>⟨h1,k,by omega,e⟩,fun ⟨h1,k,hk,e⟩=>⟨h1,?_⟩⟩⟩
 rcases Nat.lt_or_ge k i with hki | hki
 · exact ⟨k,hki,e⟩
 ·
  have:k=i:=by omega
  subst this
  rw [hx] at e
  injection e with e
  subst e
  rcases Classical.em (∃ k',k' < k ∧ L[k']? = some x) with h' | h'
  · exact h'
  · exact absurd ⟨h1,fun k' hk' e'=>h' ⟨k',hk',e'⟩⟩ hn
theorem kept_put {L R:List (Int × Int)} {i k:Nat} {x:Int × Int} (h:KeptTo L i R) (hx:L[i]? = some x) (hk:KeptAt L i x) (h1:∀ j y,j < k → R[j]? = some y → x.2 < y.2) (h2:∀ y,R[k]? = some y → ¬ x.2 < y.2):KeptTo L (i+1) (R.take k ++ x :: R.drop k):=by
 have hxL:=List.mem_of_getElem? hx
 refine ⟨falls_put h.falls h1 h2 fun y hy e=>?_,?_,fun a=>?_⟩
 ·
  obtain ⟨hy1,j,hj,ej⟩:=(h.mem y).1 hy
  have hyL:=List.mem_of_getElem? ej
  by_cases hyx:y=x
  · subst hyx;exact hk.2 j hj ej
  ·
   have a1:=hk.1.same y hyL e hyx
   have a2:=hy1.same x hxL e.symm (fun e=>hyx e.symm)
   omega
 ·
  have:=h.len
  simp
  omega
 ·
  have e:a ∈ R.take k ++ x :: R.drop k ↔ a=x ∨ a ∈ R:=by
   rw [List.mem_append,List.mem_cons,← or_assoc,or_comm (a:=a ∈ R.take k),or_assoc,← List.mem_append,List.take_append_drop]
  rw [e,h.mem a]
  constructor
  ·
   rintro (rfl | ⟨h1,k',hk',e'⟩)
   · exact ⟨hk.1,i,by omega,hx⟩
   · exact ⟨h1,k',by omega,e'⟩
  ·
   rintro ⟨h1,k',hk',e'⟩
   rcases Nat.lt_or_ge k' i with hki | hki
   · exact .inr ⟨h1,k',hki,e'⟩
   ·
    have:k'=i:=by omega
    subst this
    rw [hx] at e'
    injection e' with e'
    exact .inl e'.symm
end Go.Proofs.YtipdclphpkgceaaGreatDoor

namespace Go.Proofs.YtipdclphpkgceaaGreatDoor
open Go.RowKit
theorem Tryz.lineHeld:Tryz.prog.stoodInHeld 83=false:=by kernel_rfl
theorem Tryz.lineGuard:Tryz.prog.eqGuardType Tryz.prog.depth 83=false:=by kernel_rfl
theorem Tryz.lineFieldsIs:(Tryz.prog.fieldsOf 83).toList=[{ name := "Burst",type:=3,offset:=0,embedded:=false,tag := "",pkgPath := "",byteOffset:=0 },{ name := "Rate",type:=3,offset:=1,embedded:=false,tag := "",pkgPath := "",byteOffset:=8 }]:=by
 simp only [Program.fieldsOf,Tryz.underlying83]
theorem Tryz.lineFields:Tryz.prog.underlying 83=some (.struct (Tryz.prog.fieldsOf 83)):=by
 simp only [Program.fieldsOf,Tryz.underlying83]
theorem Tryz.part0 (w:World) (x y:Int):(part 3 #[.int .i64 x,.int .i64 y] 0).run Tryz.prog w=.ok (.int .i64 x) w:=by kernel_rfl
theorem Tryz.part1 (w:World) (x y:Int):(part 3 #[.int .i64 x,.int .i64 y] 1).run Tryz.prog w=.ok (.int .i64 y) w:=by kernel_rfl
theorem Tryz.eqLine (w:World) (x y x' y':Int):(binOp .eql 83 (.agg #[.int .i64 x,.int .i64 y]) (.agg #[.int .i64 x',.int .i64 y'])).run Tryz.prog w=.ok (.bool (x == x' && y == y')) w:=by
 rw [run_eql_struct,run_equalIn_struct _ 9999 _ _ _ Tryz.lineFields Tryz.lineHeld,Tryz.lineFieldsIs]
 have h1:("Burst" : String) ≠ "_" := by decide
 have h2:("Rate" : String) ≠ "_" := by decide
 simp only [Op.eqFields,if_pos h1,if_pos h2,Sem.run_bind,Tryz.part0,Tryz.part1,Result.andThen_ok,run_equalIn_int _ 9998 3 .i64 .i64 _ _ Tryz.underlying3,Sem.run_ite,Sem.run_pure]
 cases x == x' <;> cases y == y' <;> rfl
structure SoFar (ls:List (Int × Int)) (i k:Nat) (p:Int × Int) (low lowBy:Int) (op:Bool) (high highBy:Int):Prop where
 lim:LimIs p (ls.take k) low lowBy op high highBy
 early:∀ j,j < k → j < i → ls[j]? ≠ some p
 same:∀ b,b ∈ ls.take k → b.2=p.2 → b ≠ p → p.1 < b.1
theorem sofar_none (ls:List (Int × Int)) (i:Nat) (p:Int × Int):SoFar ls i 0 p 0 1 false 0 0:=
 ⟨lim_none p,fun _ h=>absurd h (Nat.not_lt_zero _),fun _ h=>by simp at h⟩
section
variable {ls:List (Int × Int)} {i k:Nat} {p b:Int × Int} {low lowBy high highBy low' lowBy' high' highBy':Int} {op op':Bool}
theorem sofar_next (h:SoFar ls i k p low lowBy op high highBy) (hb:ls[k]? = some b) (hl:LimIs p (ls.take k ++ [b]) low' lowBy' op' high' highBy') (he:b=p → ¬ k < i) (hs:b.2=p.2 → b ≠ p → p.1 < b.1):SoFar ls i (k+1) p low' lowBy' op' high' highBy':=by
 have e:ls.take (k+1)=ls.take k ++ [b]:=by rw [List.take_add_one,hb];rfl
 refine ⟨by rw [e];exact hl,fun j hj hi e'=>?_,fun c hc h1 h2=>?_⟩
 ·
  rcases Nat.lt_or_ge j k with hjk | hjk
  · exact h.early j hjk hi e'
  ·
   have:j=k:=by omega
   subst this
   rw [hb] at e'
   injection e' with e'
   exact he e' hi
 ·
  rw [e] at hc
  rcases List.mem_append.1 hc with hc | hc
  · exact h.same c hc h1 h2
  ·
   rw [List.mem_singleton.1 hc] at h1 h2 ⊢
   exact hs h1 h2
theorem sofar_self (h:SoFar ls i k p low lowBy op high highBy) (hb:ls[k]? = some p) (hk:¬ k < i):SoFar ls i (k+1) p low lowBy op high highBy:=
 sofar_next h hb (lim_same h.lim rfl) (fun _=>hk) (fun _ hne=>absurd rfl hne)
theorem ne_of_rate (h:b.2 ≠ p.2):b=p → ¬ k < i:=fun e=>absurd (e ▸ rfl) h
theorem sofar_same (h:SoFar ls i k p low lowBy op high highBy) (hb:ls[k]? = some b) (hne:b ≠ p) (hs:b.2=p.2) (hl:p.1 < b.1):SoFar ls i (k+1) p low lowBy op high highBy:=
 sofar_next h hb (lim_same h.lim hs) (fun e=>absurd e hne) (fun _ _=>hl)
theorem sofar_above (h:SoFar ls i k p low lowBy op high highBy) (hb:ls[k]? = some b) (hs:p.2 < b.2) (hn:p.1 - b.1 < 0):SoFar ls i (k+1) p low lowBy op high highBy:=
 sofar_next h hb (lim_above h.lim hs hn) (ne_of_rate (by omega)) (fun e _=>by omega)
theorem sofar_sooner (h:SoFar ls i k p low lowBy op high highBy) (hb:ls[k]? = some b) (hs:p.2 < b.2) (hn:0 ≤ p.1 - b.1) (hp:(p.1 - b.1) * lowBy < low * (b.2 - p.2)):SoFar ls i (k+1) p low lowBy op high highBy:=
 sofar_next h hb (lim_sooner h.lim hs hn hp) (ne_of_rate (by omega)) (fun e _=>by omega)
theorem sofar_low (h:SoFar ls i k p low lowBy op high highBy) (hb:ls[k]? = some b) (hok:okAll ls) (hpl:p ∈ ls) (hs:p.2 < b.2) (hn:0 ≤ p.1 - b.1) (hp:low * (b.2 - p.2) ≤ (p.1 - b.1) * lowBy):SoFar ls i (k+1) p (p.1 - b.1) (b.2 - p.2) true high highBy:=
 sofar_next h hb (lim_low h.lim (okLine_true (hok p hpl)) (okLine_true (hok b (List.mem_of_getElem? hb))) hs hn hp) (ne_of_rate (by omega)) (fun e _=>by omega)
theorem sofar_high (h:SoFar ls i k p low lowBy op high highBy) (hb:ls[k]? = some b) (hok:okAll ls) (hpl:p ∈ ls) (hs:b.2 < p.2) (hp:highBy=0 ∨ -(p.1 - b.1) * highBy < high * -(b.2 - p.2)):SoFar ls i (k+1) p low lowBy op (-(p.1 - b.1)) (-(b.2 - p.2)):=
 sofar_next h hb (lim_high h.lim (okLine_true (hok p hpl)) (okLine_true (hok b (List.mem_of_getElem? hb))) hs hp) (ne_of_rate (by omega)) (fun e _=>by omega)
theorem sofar_later (h:SoFar ls i k p low lowBy op high highBy) (hb:ls[k]? = some b) (hs:b.2 < p.2) (hz:highBy ≠ 0) (hp:¬ -(p.1 - b.1) * highBy < high * -(b.2 - p.2)):SoFar ls i (k+1) p low lowBy op high highBy:=
 sofar_next h hb (lim_later h.lim hs hz hp) (ne_of_rate (by omega)) (fun e _=>by omega)
theorem sofar_double (hb:ls[k]? = some p) (hk:k < i):¬ KeptAt ls i p:=fun h=>h.2 k hk hb
theorem sofar_under (hb:ls[k]? = some b) (hne:b ≠ p) (hs:b.2=p.2) (hl:b.1 ≤ p.1):¬ KeptAt ls i p:=fun h=>by
 have:=h.1.same b (List.mem_of_getElem? hb) hs hne
 omega
theorem sofar_end (h:SoFar ls i ls.length p low lowBy op high highBy) (hi:i ≤ ls.length):LimIs p ls low lowBy op high highBy ∧ (∀ b,b ∈ ls → b.2=p.2 → b ≠ p → p.1 < b.1) ∧ (SomeOf p ls ↔ KeptAt ls i p):=by
 have h1:=h.lim
 have h2:=h.same
 rw [List.take_length] at h1 h2
 exact ⟨h1,h2,⟨fun hs=>⟨hs,fun j hj=>h.early j (by omega) hj⟩,fun hk=>hk.1⟩⟩
end
theorem prodS {a b:Int} (h1 : -20000 ≤ a) (h2:a ≤ 20000) (h3 : -100000 ≤ b) (h4:b ≤ 100000) : -2000000000 ≤ a * b ∧ a * b ≤ 2000000000:=by
 have h:=Int.natAbs_mul a b
 have ha:a.natAbs ≤ 20000:=by omega
 have hb:b.natAbs ≤ 100000:=by omega
 have:=Nat.mul_le_mul ha hb
 omega
def SomeIs (ls:List (Int × Int)) (i:Nat) (p:Int × Int) (w w':World) (e:Ending):Prop:=∃ v,e=.returned (.bool v) ∧ (v=true ↔ KeptAt ls i p) ∧ Below w.heap.size w w'
theorem someIs {ls:List (Int × Int)} {i:Nat} {p:Int × Int} {w w':World} {e:Ending} (v:Bool) (he:e=.returned (.bool v)) (h:v=true ↔ KeptAt ls i p) (hb:Below w.heap.size w w'):SomeIs ls i p w w' e:=⟨v,he,h,hb⟩
theorem somewhere_ok (a:Option Addr) (cap i:Nat) (ls:List (Int × Int)) (px py:Int) (w:World) (hl:Lies w a ls) (hi:ls[i]? = some (px,py)) (hn:ls.length ≤ 1000) (hok:okAll ls) :
  Calls Tryz.prog 120 #[.slice a ls.length cap,.int .i64 i] w fun e w'=>SomeIs ls i (px,py) w w' e:=by
 have hil:i < ls.length:=(List.getElem?_eq_some_iff.1 hi).1
 have hpl:(px,py) ∈ ls:=List.mem_of_getElem? hi
 obtain ⟨b,off,rfl,hlt,hc⟩:=hl.some (by omega)
 have c1:=(hc i px py hi).1
 have c2:=(hc i px py hi).2
 have HOK:Hid (okAll ls ∧ (px,py) ∈ ls):=⟨hok,hpl⟩
 obtain ⟨p1,p2,p3,p4⟩:=okLine_true (hok _ hpl)
 simp only [] at p1 p2 p3 p4
 have q:=Tryz.eqLine
 have g:=fun (w:World) op x y xs ys=>run_eqGuard_agg (P:=Tryz.prog) w op 83 x y xs ys Tryz.lineGuard
 have HB0:Hid (Below w.heap.size w (w.alloc (.cells #[.int .i64 px,.int .i64 py] 83))):=(Below.refl _ _).alloc (Nat.le_refl _) _
 have HC:Hid (∀ (i:Nat) (x y:Int),ls[i]? = some (x,y) → w.cell? ⟨b,off+i * 2,none⟩=some (.int .i64 x) ∧ w.cell? ⟨b,off+i * 2+1,none⟩=some (.int .i64 y)):=hc
 clear hl hok hpl hi hc
 go_enter Tryz.func120,Tryz.ntmps120
 go_wp2_with fail
 go_loopw [5,6,7,8,9,11] (fun lo lb op hg hb j wr=>∃ (k:Nat) (low lowBy:Int) (o:Bool) (high highBy:Int),k ≤ ls.length ∧ lo=.int .i64 low ∧ lb=.int .i64 lowBy ∧ op=.bool o ∧ hg=.int .i64 high ∧ hb=.int .i64 highBy ∧ j=.int .i64 k ∧ SoFar ls i k (px,py) low lowBy o high highBy ∧ wr.cell? ⟨w.heap.size,0,none⟩=some (.int .i64 px) ∧ wr.cell? ⟨w.heap.size,1,none⟩=some (.int .i64 py) ∧ Below w.heap.size w wr) (fun _ _ _ _ _ j _=>ls.length - (intOf j).toNat)
 case atStart=>exact ⟨0,0,1,false,0,0,Nat.zero_le _,rfl,rfl,rfl,rfl,rfl,rfl,sofar_none _ _ _,by simp,by simp,HB0.out⟩
 case round=>
  obtain ⟨k,low,lowBy,o,high,highBy,hk,rfl,rfl,rfl,rfl,rfl,rfl,hsf,d1,d2,hb⟩:=hrel
  have HSF:Hid (SoFar ls i k (px,py) low lowBy o high highBy):=hsf
  obtain ⟨l1,l2,l3,l4⟩:=hsf.lim.lowBd
  obtain ⟨h1,h2,h3,h4⟩:=hsf.lim.highBd
  have HBR:Hid (Below w.heap.size w wr):=hb
  have hs:=hb.size
  have hlt0:w.heap.size < wr.heap.size:=cell_lt d1
  clear hsf
  by_cases hkn:k < ls.length
  ·
   obtain ⟨⟨x,y⟩,hp,hm⟩:=get_some ls k hkn
   obtain ⟨r1,r2,r3,r4⟩:=okLine_true (HOK.out.1 _ hm)
   simp only [] at r1 r2 r3 r4
   have HP:Hid (ls[k]? = some (x,y)):=hp
   have e1:wr.cell? ⟨b,off+k * 2,none⟩=some (.int .i64 x):=cell_later hb (HC.out k x y hp).1
   have e2:wr.cell? ⟨b,off+k * 2+1,none⟩=some (.int .i64 y):=cell_later hb (HC.out k x y hp).2
   have HBR1:Hid (Below w.heap.size w (wr.alloc (.cells #[.int .i64 x,.int .i64 y] 83))):=HBR.out.alloc hs _
   clear hp hm hb
   clear HB0 c1 c2
   by_cases heq:x=px ∧ y=py
   ·
    obtain ⟨rfl,rfl⟩:=heq
    by_cases hki:k < i
    ·
     go_wp2_with fail
     go_ret
     exact someIs false rfl (⟨fun h=>(by cases h),fun h=>absurd h (sofar_double HP.out hki)⟩) HBR1.out
    ·
     go_wp2_with fail
     go_roundw
     case measure=>simp [intOf];omega
     case rel=>exact ⟨k+1,low,lowBy,o,high,highBy,by omega,rfl,rfl,rfl,rfl,rfl,by go_num,sofar_self HSF.out HP.out hki,cell_later ((Below.refl _ _).alloc (Nat.le_refl _) _) d1,cell_later ((Below.refl _ _).alloc (Nat.le_refl _) _) d2,HBR1.out⟩
   ·
    have HNE:Hid ((x,y) ≠ (px,py)):=fun e=>heq (by injection e with e1 e2;exact ⟨e1,e2⟩)
    by_cases hyy:y=py
    ·
     subst hyy
     have hxe:(x == px)=false:=by
      rcases Bool.eq_false_or_eq_true (x == px) with h | h
      · exact absurd ⟨eq_of_beq h,rfl⟩ heq
      · exact h
     clear heq
     by_cases hle:x ≤ px
     ·
      go_wp2_with fail
      go_ret
      exact someIs false rfl (⟨fun h=>(by cases h),fun h=>absurd h (sofar_under HP.out HNE.out rfl hle)⟩) HBR1.out
     ·
      go_wp2_with fail
      go_roundw
      case measure=>simp [intOf];omega
      case rel=>exact ⟨k+1,low,lowBy,o,high,highBy,by omega,rfl,rfl,rfl,rfl,rfl,by go_num,sofar_same HSF.out HP.out HNE.out rfl (show px < x by omega),cell_later ((Below.refl _ _).alloc (Nat.le_refl _) _) d1,cell_later ((Below.refl _ _).alloc (Nat.le_refl _) _) d2,HBR1.out⟩
    ·
     have hye:(y == py)=false:=by
      rcases Bool.eq_false_or_eq_true (y == py) with h | h
      · exact absurd (eq_of_beq h) hyy
      · exact h
     clear heq
     by_cases hgt:py < y
     ·
      obtain ⟨m1,m2⟩:=prodS (show -20000 ≤ px - x by omega) (show px - x ≤ 20000 by omega) (show -100000 ≤ lowBy by omega) l4
      obtain ⟨m3,m4⟩:=prodS (show -20000 ≤ low by omega) l2 (show -100000 ≤ y - py by omega) (show y - py ≤ 100000 by omega)
      by_cases hn0:px - x < 0
      ·
       go_wp2_with fail
       go_roundw
       case measure=>simp [intOf];omega
       case rel=>exact ⟨k+1,low,lowBy,o,high,highBy,by omega,rfl,rfl,rfl,rfl,rfl,by go_num,sofar_above HSF.out HP.out hgt hn0,cell_later ((Below.refl _ _).alloc (Nat.le_refl _) _) d1,cell_later ((Below.refl _ _).alloc (Nat.le_refl _) _) d2,HBR1.out⟩
      ·
       by_cases hpr:low * (y - py) ≤ (px - x) * lowBy
       ·
        go_wp2_with fail
        go_roundw
        case measure=>simp [intOf];omega
        case rel=>exact ⟨k+1,px - x,y - py,true,high,highBy,by omega,rfl,rfl,rfl,rfl,rfl,by go_num,sofar_low HSF.out HP.out HOK.out.1 HOK.out.2 hgt (show 0 ≤ px - x by omega) hpr,cell_later ((Below.refl _ _).alloc (Nat.le_refl _) _) d1,cell_later ((Below.refl _ _).alloc (Nat.le_refl _) _) d2,HBR1.out⟩
       ·
        go_wp2_with fail
        go_roundw
        case measure=>simp [intOf];omega
        case rel=>exact ⟨k+1,low,lowBy,o,high,highBy,by omega,rfl,rfl,rfl,rfl,rfl,by go_num,sofar_sooner HSF.out HP.out hgt (show 0 ≤ px - x by omega) (show (px - x) * lowBy < low * (y - py) by omega),cell_later ((Below.refl _ _).alloc (Nat.le_refl _) _) d1,cell_later ((Below.refl _ _).alloc (Nat.le_refl _) _) d2,HBR1.out⟩
     ·
      have hlt1:y < py:=by omega
      obtain ⟨m1,m2⟩:=prodS (show -20000 ≤ -(px - x) by omega) (show -(px - x) ≤ 20000 by omega) (show -100000 ≤ highBy by omega) h4
      obtain ⟨m3,m4⟩:=prodS h1 h2 (show -100000 ≤ -(y - py) by omega) (show -(y - py) ≤ 100000 by omega)
      by_cases hz:highBy=0
      ·
       have hz':(highBy == 0)=true:=by rw [hz];rfl
       go_wp2_with fail
       go_roundw
       case measure=>simp [intOf];omega
       case rel=>exact ⟨k+1,low,lowBy,o,-(px - x),-(y - py),by omega,rfl,rfl,rfl,rfl,rfl,by go_num,sofar_high HSF.out HP.out HOK.out.1 HOK.out.2 hlt1 (.inl hz),cell_later ((Below.refl _ _).alloc (Nat.le_refl _) _) d1,cell_later ((Below.refl _ _).alloc (Nat.le_refl _) _) d2,HBR1.out⟩
      ·
       by_cases hpr : -(px - x) * highBy < high * -(y - py)
       ·
        go_wp2_with fail
        go_roundw
        case measure=>simp [intOf];omega
        case rel=>exact ⟨k+1,low,lowBy,o,-(px - x),-(y - py),by omega,rfl,rfl,rfl,rfl,rfl,by go_num,sofar_high HSF.out HP.out HOK.out.1 HOK.out.2 hlt1 (.inr hpr),cell_later ((Below.refl _ _).alloc (Nat.le_refl _) _) d1,cell_later ((Below.refl _ _).alloc (Nat.le_refl _) _) d2,HBR1.out⟩
       ·
        go_wp2_with fail
        go_roundw
        case measure=>simp [intOf];omega
        case rel=>exact ⟨k+1,low,lowBy,o,high,highBy,by omega,rfl,rfl,rfl,rfl,rfl,by go_num,sofar_later HSF.out HP.out hlt1 hz hpr,cell_later ((Below.refl _ _).alloc (Nat.le_refl _) _) d1,cell_later ((Below.refl _ _).alloc (Nat.le_refl _) _) d2,HBR1.out⟩
  ·
   obtain rfl:k=ls.length:=by omega
   obtain ⟨hlim,hsame,hiff⟩:=sofar_end HSF.out (by omega)
   have HE:Hid (LimIs (px,py) ls low lowBy o high highBy ∧ (∀ b,b ∈ ls → b.2=(px,py).2 → b ≠ (px,py) → (px,py).1 < b.1) ∧ (SomeOf (px,py) ls ↔ KeptAt ls i (px,py))):=⟨hlim,hsame,hiff⟩
   obtain ⟨m1,m2⟩:=prodS (show -20000 ≤ low by omega) l2 (show -100000 ≤ highBy by omega) h4
   obtain ⟨m3,m4⟩:=prodS h1 h2 (show -100000 ≤ lowBy by omega) l4
   clear hlim hsame hiff hb HB0 c1 c2
   by_cases hz:highBy=0
   ·
    go_wp2_with fail
    go_ret
    exact someIs true rfl (⟨fun _=>HE.out.2.2.1 (lim_free HE.out.1 HE.out.2.1 hz),fun _=>rfl⟩) HBR.out
   ·
    cases o with
    | false=>
     go_wp2_with fail
     go_ret
     exact someIs _ rfl (by rw [decide_eq_true_iff];exact (lim_shut HE.out.1 HE.out.2.1 hz rfl).trans HE.out.2.2) HBR.out
    | true=>
     go_wp2_with fail
     go_ret
     exact someIs _ rfl (by rw [decide_eq_true_iff];exact (lim_open HE.out.1 HE.out.2.1 hz rfl).trans HE.out.2.2) HBR.out
end Go.Proofs.YtipdclphpkgceaaGreatDoor
