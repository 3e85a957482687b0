/- Own facts, put together: no statement of its own. -/
import Derived.Test.YtipdclphpkgceaaGreatDoorA01
import Derived.Deep.DeepCutAuto
import Derived.Deep.RegionLaw
import Derived.Test.YtipdclphpkgceaaGreatDoorA13
set_option maxHeartbeats 1000000
set_option maxRecDepth 100000

namespace Go.Proofs.YtipdclphpkgceaaGreatDoor
def miss (x n:Int):Int:=max (n - x) 0
def Bw (p q:Int × Int) (n:Int):Bool:=
 if miss q.1 n=0 then decide (0 < miss p.1 n) else decide (miss q.1 n * p.2 < miss p.1 n * q.2)
def lastOf (n:Int):Int × Int → List (Int × Int) → Int × Int
 | x,[]=>x
 | x,y :: r=>lastOf n (if Bw y x n=true then y else x) r
def A8 (n:Int):List (Int × Int) → Int × Int
 | []=>(0,0)
 | p :: r=>lastOf n p r
def BI (p:Int × Int) (n:Int):Int:=if miss p.1 n=0 then 0 else (miss p.1 n * 1000+p.2 - 1) / p.2
theorem Em (x n:Int):0 ≤ miss x n:=by unfold miss;omega
theorem Io {p q:Int × Int} {n:Int} (h:Bw p q n=false):(miss q.1 n=0 → miss p.1 n=0) ∧ (miss q.1 n ≠ 0 → miss p.1 n * q.2 ≤ miss q.1 n * p.2):=by
 unfold Bw at h
 have:=Em p.1 n
 split at h
 · next hq=>exact ⟨fun _=>by have:=of_decide_eq_false h;omega,fun h'=>absurd hq h'⟩
 · next hq=>exact ⟨fun h'=>absurd h' hq,fun _=>by have:=of_decide_eq_false h;omega⟩
theorem KR {p q:Int × Int} {n:Int} (h1:miss q.1 n=0 → miss p.1 n=0) (h2:miss q.1 n ≠ 0 → miss p.1 n * q.2 ≤ miss q.1 n * p.2):Bw p q n=false:=by
 unfold Bw
 split
 · next hq=>have:=h1 hq;exact decide_eq_false (by omega)
 · next hq=>have:=h2 hq;exact decide_eq_false (by omega)
theorem Ro {p q:Int × Int} {n:Int} (h:Bw p q n=true):(miss q.1 n=0 → 0 < miss p.1 n) ∧ (miss q.1 n ≠ 0 → miss q.1 n * p.2 < miss p.1 n * q.2):=by
 unfold Bw at h
 split at h
 · next hq=>exact ⟨fun _=>of_decide_eq_true h,fun h'=>absurd hq h'⟩
 · next hq=>exact ⟨fun h'=>absurd h' hq,fun _=>of_decide_eq_true h⟩
theorem Lg (p:Int × Int) (n:Int):Bw p p n=false:=KR (fun h=>h) (fun _=>Int.le_refl _)
theorem Xh {m k l u v t:Int} (hm:0 ≤ m) (hk:0 < k) (hl:0 ≤ l) (h1:m * u ≤ k * v) (h2:k * t < l * u):m * t ≤ l * v:=by
 rcases Int.lt_or_le (l * v) (m * t) with h | h
 ·
  have a:=Int.mul_lt_mul_of_pos_left h hk
  have b:=Int.mul_le_mul_of_nonneg_left h1 hl
  have c:=Int.mul_le_mul_of_nonneg_left (Int.le_of_lt h2) hm
  have e1:k * (m * t)=m * (k * t):=by ac_rfl
  have e2:m * (l * u)=l * (m * u):=by ac_rfl
  have e3:l * (k * v)=k * (l * v):=by ac_rfl
  omega
 · exact h
theorem UM {x y z:Int × Int} {n:Int} (hy:0 ≤ y.2) (hz:0 ≤ z.2) (h1:Bw y x n=false) (h2:Bw z x n=true):Bw y z n=false:=by
 obtain ⟨a1,a2⟩:=Io h1
 obtain ⟨b1,b2⟩:=Ro h2
 have my:=Em y.1 n
 have mz:=Em z.1 n
 have mx:=Em x.1 n
 by_cases h0:miss x.1 n=0
 ·
  have hm:=a1 h0
  refine KR (fun _=>hm) (fun _=>?_)
  rw [hm,Int.zero_mul]
  exact Int.mul_nonneg mz hy
 ·
  have p1:=a2 h0
  have p2:=b2 h0
  refine KR (fun hzz=>?_) (fun _=>Xh my (by omega) mz p1 p2)
  rw [hzz,Int.zero_mul] at p2
  have:=Int.mul_nonneg mx hz
  omega
theorem NE (n:Int) (r:List (Int × Int)):∀ x,lastOf n x r=x ∨ lastOf n x r ∈ r:=by
 induction r with
 | nil=>intro x;exact .inl rfl
 | cons y r ih=>
  intro x
  show lastOf n (if Bw y x n=true then y else x) r=x ∨ lastOf n (if Bw y x n=true then y else x) r ∈ y :: r
  rcases ih (if Bw y x n=true then y else x) with h | h
  ·
   rw [h]
   split
   · exact .inr (List.mem_cons_self ..)
   · exact .inl rfl
  · exact .inr (List.mem_cons_of_mem _ h)
theorem Es (n:Int) (ls:List (Int × Int)) (h:1 ≤ ls.length):A8 n ls ∈ ls:=by
 cases ls with
 | nil=>simp at h
 | cons p r=>
  show lastOf n p r ∈ p :: r
  rcases NE n r p with h | h
  · rw [h];exact List.mem_cons_self ..
  · exact List.mem_cons_of_mem _ h
theorem UJ (n:Int) (r:List (Int × Int)):∀ x,(∀ p,p ∈ x :: r → 0 ≤ p.2) → ∀ y,(0 ≤ y.2 ∧ Bw y x n=false) ∨ y ∈ r → Bw y (lastOf n x r) n=false:=by
 induction r with
 | nil=>
  intro x _ y hy
  rcases hy with hy | hy
  · exact hy.2
  · cases hy
 | cons z r ih=>
  intro x hpos y hy
  show Bw y (lastOf n (if Bw z x n=true then z else x) r) n=false
  have hz:=hpos z (List.mem_cons_of_mem _ (List.mem_cons_self ..))
  by_cases h:Bw z x n=true
  ·
   rw [if_pos h]
   refine ih z (fun p hp=>hpos p (List.mem_cons_of_mem _ hp)) y ?_
   rcases hy with hy | hy
   · exact .inl ⟨hy.1,UM hy.1 hz hy.2 h⟩
   ·
    rcases List.mem_cons.1 hy with rfl | hy
    · exact .inl ⟨hz,Lg _ _⟩
    · exact .inr hy
  ·
   rw [if_neg h]
   have h':Bw z x n=false:=by simpa using h
   refine ih x (fun p hp=>hpos p (by rcases List.mem_cons.1 hp with rfl | hp;exact List.mem_cons_self ..;exact List.mem_cons_of_mem _ (List.mem_cons_of_mem _ hp))) y ?_
   rcases hy with hy | hy
   · exact .inl hy
   ·
    rcases List.mem_cons.1 hy with rfl | hy
    · exact .inl ⟨hz,h'⟩
    · exact .inr hy
theorem Pt (n:Int) (ls:List (Int × Int)) (hp:∀ p,p ∈ ls → 0 ≤ p.2) (y:Int × Int) (hy:y ∈ ls):Bw y (A8 n ls) n=false:=by
 cases ls with
 | nil=>cases hy
 | cons p r=>
  refine UJ n r p hp y ?_
  rcases List.mem_cons.1 hy with rfl | hy
  · exact .inl ⟨hp _ (List.mem_cons_self ..),Lg _ _⟩
  · exact .inr hy
theorem QP {m r t:Int} (hr:0 < r):(m * 1000+r - 1) / r ≤ t ↔ m * 1000 ≤ r * t:=by
 have h1:=Int.mul_ediv_self_le (x:=m * 1000+r - 1) (k:=r) (by omega)
 have h2:=Int.lt_mul_ediv_self_add (x:=m * 1000+r - 1) (k:=r) hr
 generalize (m * 1000+r - 1) / r=q at *
 constructor
 ·
  intro h
  have:=Int.mul_le_mul_of_nonneg_left h (Int.le_of_lt hr)
  omega
 ·
  intro h
  rcases Int.lt_or_le t q with h' | h'
  ·
   have:=Int.mul_le_mul_of_nonneg_left (show t+1 ≤ q by omega) (Int.le_of_lt hr)
   rw [Int.mul_add] at this
   omega
  · exact h'
theorem MW {t x y n:Int}:n ≤ Bq t x y ↔ 1000 * (n - x) ≤ y * t:=by
 unfold Bq
 omega
theorem Ms {x n:Int} (h:miss x n ≠ 0):miss x n=n - x ∧ 0 < n - x:=by unfold miss at *;omega
theorem Xw {x n:Int} (h:miss x n=0):n ≤ x:=by unfold miss at h;omega
theorem Y6 (ls:List (Int × Int)) (n:Int) (h:Ag ls) (hn:miss (A8 n ls).1 n=0 ∨ 0 < (A8 n ls).2):0 ≤ BI (A8 n ls) n ∧ n ≤ Bt (BI (A8 n ls) n) ls:=by
 have hpos:∀ p,p ∈ ls → 0 ≤ p.2:=fun p hp=>(Ap (h.2.2 p hp)).2.2.1
 have hmax:=Pt n ls hpos
 generalize A8 n ls=z at *
 have hc:0 ≤ BI z n:=by
  unfold BI
  split
  · exact Int.le_refl _
  ·
   next hz=>
   obtain ⟨e1,e2⟩:=Ms hz
   rcases hn with hn | hn
   · exact absurd hn hz
   · exact Int.ediv_nonneg (by omega) (by omega)
 refine ⟨hc,?_⟩
 obtain ⟨p,hp,e⟩:=Ib (BI z n) ls h.1
 rw [e,MW]
 obtain ⟨a1,a2⟩:=Io (hmax p hp)
 by_cases hz:miss z.1 n=0
 ·
  have:=Xw (a1 hz)
  have:=Int.mul_nonneg (hpos p hp) hc
  omega
 ·
  have hr:0 < z.2:=by
   rcases hn with hn | hn
   · exact absurd hn hz
   · exact hn
  have hcz:z.2 * BI z n ≥ miss z.1 n * 1000:=by
   have:=(QP (m:=miss z.1 n) (t:=BI z n) hr).1 (by unfold BI;rw [if_neg hz];exact Int.le_refl _)
   exact this
  have hle:=a2 hz
  have hmp:n - p.1 ≤ miss p.1 n:=by unfold miss;omega
  have hpp:=hpos p hp
  generalize BI z n=C at *
  generalize miss z.1 n=k at *
  generalize miss p.1 n=m at *
  -- z.2 * (p.2 * C)=p.2 * (z.2 * C) ≥ p.2 * (k * 1000) ≥ 1000 * (m * z.2)
  rcases Int.lt_or_le (p.2 * C) (1000 * (n - p.1)) with hlt | hge
  ·
   have b1:=Int.mul_le_mul_of_nonneg_left (show k * 1000 ≤ z.2 * C from hcz) hpp
   have b2:p.2 * (k * 1000)=1000 * (k * p.2):=by ac_rfl
   have b3:p.2 * (z.2 * C)=z.2 * (p.2 * C):=by ac_rfl
   have b4:m * z.2=z.2 * m:=Int.mul_comm _ _
   have b5:=Int.mul_lt_mul_of_pos_left (show p.2 * C < 1000 * m by omega) hr
   have b6:z.2 * (1000 * m)=1000 * (z.2 * m):=by ac_rfl
   omega
  · exact hge
def turns (per:Int) (ls:List (Int × Int)) (n:Int):Bool:=decide (0 < miss (A8 n ls).1 n ∧ (A8 n ls).2 * per ≤ 1000)
theorem NV {per t n k:Int} {ls:List (Int × Int)} (h:Ag ls) (hper:1 ≤ per) (t0:0 ≤ t) (hk:turns per ls k=false) (hn:n ≤ k) (hc:n ≤ Bt t ls) :
  (miss (A8 k ls).1 k=0 ∨ 0 < (A8 k ls).2) ∧ per * n - t ≤ per * k - BI (A8 k ls) k:=by
 have hm:=Es k ls h.1
 have hok:=Ap (h.2.2 _ hm)
 have hl:=Int.le_trans hc (Ip t ls _ hm)
 have hk':¬ (0 < miss (A8 k ls).1 k ∧ (A8 k ls).2 * per ≤ 1000):=of_decide_eq_false hk
 generalize A8 k ls=z at *
 have hmul:=Int.mul_le_mul_of_nonneg_left hn (show 0 ≤ per by omega)
 have mn:=Em z.1 k
 by_cases hz:miss z.1 k=0
 ·
  refine ⟨.inl hz,?_⟩
  unfold BI
  rw [if_pos hz]
  omega
 ·
  have hfast:1000 < z.2 * per:=by
   rcases Int.lt_or_le 1000 (z.2 * per) with h | h
   · exact h
   · exact absurd ⟨by omega,h⟩ hk'
  have hr:0 < z.2:=by
   rcases Int.lt_or_le 0 z.2 with h | h
   · exact h
   ·
    have:z.2=0:=by omega
    rw [this,Int.zero_mul] at hfast
    omega
  refine ⟨.inr hr,?_⟩
  obtain ⟨e1,e2⟩:=Ms hz
  have:BI z k ≤ t+per * (k - n):=by
   unfold BI
   rw [if_neg hz,QP hr,e1,Int.mul_add]
   have b1:=MW.1 hl
   have b2:=Int.mul_le_mul_of_nonneg_right (show 1000 ≤ z.2 * per by omega) (show 0 ≤ k - n by omega)
   have b3:z.2 * per * (k - n)=z.2 * (per * (k - n)):=Int.mul_assoc _ _ _
   omega
  rw [Int.mul_sub] at this
  omega
theorem LM {per t n k:Int} {ls:List (Int × Int)} (h:Ag ls) (hk:turns per ls k=true) (hn:k ≤ n) (hc:n ≤ Bt t ls) :
  0 < (A8 k ls).2 ∧ per * n - t ≤ per * k - BI (A8 k ls) k:=by
 have hm:=Es k ls h.1
 have hok:=Ap (h.2.2 _ hm)
 have hl:=Int.le_trans hc (Ip t ls _ hm)
 have hk':0 < miss (A8 k ls).1 k ∧ (A8 k ls).2 * per ≤ 1000:=of_decide_eq_true hk
 generalize A8 k ls=z at *
 have hz:miss z.1 k ≠ 0:=by omega
 obtain ⟨e1,e2⟩:=Ms hz
 have b1:=MW.1 hl
 have hr:0 < z.2:=by
  rcases Int.lt_or_le 0 z.2 with h | h
  · exact h
  ·
   have:z.2=0:=by omega
   rw [this,Int.zero_mul] at b1
   omega
 refine ⟨hr,?_⟩
 have:BI z k ≤ t - per * (n - k):=by
  unfold BI
  rw [if_neg hz,QP hr,e1,Int.mul_sub]
  have b2:=Int.mul_le_mul_of_nonneg_right hk'.2 (show 0 ≤ n - k by omega)
  have b3:z.2 * per * (n - k)=z.2 * (per * (n - k)):=Int.mul_assoc _ _ _
  omega
 rw [Int.mul_sub] at this
 omega
def Cg:Int → List (Int × Int) → Int
 | m,[]=>m
 | m,p :: r=>Cg (min m p.2) r
def EX:List (Int × Int) → Int
 | []=>0
 | p :: r=>Cg p.2 r
theorem MC (l:List (Int × Int)):∀ (m:Int) (p:Int × Int),Cg m (l ++ [p])=min (Cg m l) p.2:=by
 induction l with
 | nil=>intro m p;rfl
 | cons q r ih=>intro m p;exact ih _ p
theorem PZ (l:List (Int × Int)):∀ m:Int,Cg m l=m ∨ ∃ p,p ∈ l ∧ Cg m l=p.2:=by
 induction l with
 | nil=>intro m;exact .inl rfl
 | cons q r ih=>
  intro m
  show Cg (min m q.2) r=m ∨ ∃ p,p ∈ q :: r ∧ Cg (min m q.2) r=p.2
  rcases ih (min m q.2) with h | ⟨p,hp,h⟩
  ·
   rw [h]
   by_cases hm:m ≤ q.2
   · exact .inl (by omega)
   · exact .inr ⟨q,List.mem_cons_self ..,by omega⟩
  · exact .inr ⟨p,List.mem_cons_of_mem _ hp,h⟩
theorem Pw (ls:List (Int × Int)) (h:1 ≤ ls.length):∃ p,p ∈ ls ∧ EX ls=p.2:=by
 cases ls with
 | nil=>simp at h
 | cons q r=>
  rcases PZ r q.2 with h | ⟨p,hp,h⟩
  · exact ⟨q,List.mem_cons_self ..,h⟩
  · exact ⟨p,List.mem_cons_of_mem _ hp,h⟩
theorem Xc {per:Int} {ls:List (Int × Int)} (h:Ag ls) (hper:1 ≤ per) (hs:EX ls * per ≤ 1000):turns per ls 20019999=true:=by
 have hm:=Es 20019999 ls h.1
 have hpos:∀ p,p ∈ ls → 0 ≤ p.2:=fun p hp=>(Ap (h.2.2 p hp)).2.2.1
 have hmax:=Pt 20019999 ls hpos
 have hok:=Ap (h.2.2 _ hm)
 obtain ⟨s,hsm,hse⟩:=Pw ls h.1
 rw [hse] at hs
 have hsk:=Ap (h.2.2 s hsm)
 have hl:=hmax s hsm
 unfold turns
 generalize A8 20019999 ls=z at *
 have e1:miss z.1 20019999=20019999 - z.1:=by unfold miss;omega
 have e2:miss s.1 20019999=20019999 - s.1:=by unfold miss;omega
 refine decide_eq_true ⟨by omega,?_⟩
 rcases Int.lt_or_le 1000 (z.2 * per) with hf | hf
 ·
  exfalso
  have hlt:s.2 < z.2:=by
   rcases Int.lt_or_le s.2 z.2 with h | h
   · exact h
   ·
    have:=Int.mul_le_mul_of_nonneg_right h (show 0 ≤ per by omega)
    omega
  have hs1:s.2 ≤ 1000:=by
   have:=Int.mul_le_mul_of_nonneg_left hper hsk.2.2.1
   omega
  have:=(Io hl).2 (by omega)
  rw [e1,e2] at this
  have a1:=Int.mul_le_mul_of_nonneg_right (show 19999999 ≤ 20019999 - s.1 by omega) (show 0 ≤ z.2 by omega)
  have a2:=Int.mul_le_mul_of_nonneg_right (show 20019999 - z.1 ≤ 20019998 by omega) hsk.2.2.1
  omega
 · exact hf
theorem WM {per:Int} {ls:List (Int × Int)} (h:Ag ls):turns per ls 1=false:=by
 have hm:=Es 1 ls h.1
 have hok:=Ap (h.2.2 _ hm)
 unfold turns
 generalize A8 1 ls=z at *
 refine decide_eq_false fun h=>?_
 have:=h.1
 unfold miss at this
 omega
def Gj (per:Int) (ls:List (Int × Int)) (n:Int):Bool:=decide (Bt (per * n) ls ≤ n)
theorem WF {per n:Int} {ls:List (Int × Int)} (h:Ag ls) (hper:1 ≤ per) (hn:1 ≤ n) (hq:Gj per ls n=true) :
  ∃ p,p ∈ ls ∧ p.1 ≤ n ∧ p.2 * per < 1000 ∧ p.2 * (per * n) < 1000 * (n - p.1+1):=by
 have hq':Bt (per * n) ls ≤ n:=of_decide_eq_true hq
 obtain ⟨p,hp,e⟩:=Ib (per * n) ls h.1
 rw [e] at hq'
 have hok:=Ap (h.2.2 p hp)
 unfold Bq at hq'
 have h1:p.2 * (per * n) < 1000 * (n - p.1+1):=by omega
 have hlt:p.2 * per < 1000:=by
  rcases Int.lt_or_le (p.2 * per) 1000 with h | h
  · exact h
  ·
   have:=Int.mul_le_mul_of_nonneg_right h (show 0 ≤ n by omega)
   rw [Int.mul_assoc] at this
   omega
 refine ⟨p,hp,?_,hlt,h1⟩
 rcases Int.lt_or_le n p.1 with h2 | h2
 ·
  have:=Int.mul_nonneg hok.2.2.1 (Int.mul_nonneg (show 0 ≤ per by omega) (show 0 ≤ n by omega))
  omega
 · exact h2
theorem WJ {per n:Int} {ls:List (Int × Int)} (h:Ag ls) (hper:1 ≤ per) (hn:1 ≤ n) (hq:Gj per ls n=true):Gj per ls (n+1)=true:=by
 obtain ⟨p,hp,_,h1,h2⟩:=WF h hper hn hq
 have:=Ip (per * (n+1)) ls p hp
 refine decide_eq_true ?_
 unfold Bq at this
 have e:p.2 * (per * (n+1))=p.2 * (per * n)+p.2 * per:=by rw [Int.mul_add,Int.mul_add,Int.mul_one]
 rw [e] at this
 omega
theorem ZZ {per:Int} {ls:List (Int × Int)} (h:Ag ls) (hper:1 ≤ per) (k:Nat):∀ n:Int,1 ≤ n → Gj per ls n=true → Gj per ls (n+k)=true:=by
 induction k with
 | zero=>intro n _ hq;simpa using hq
 | succ k ih=>
  intro n hn hq
  have:=ih (n+1) (by omega) (WJ h hper hn hq)
  rw [show n+((k+1:Nat):Int)=n+1+k by omega]
  exact this
theorem VL {per m n:Int} {ls:List (Int × Int)} (h:Ag ls) (hper:1 ≤ per) (hm:1 ≤ m) (hmn:m ≤ n) (hq:Gj per ls m=true):Gj per ls n=true:=by
 have:=ZZ (per:=per) h hper (n - m).toNat m hm hq
 rw [show m+((n - m).toNat:Int)=n by omega] at this
 exact this
end Go.Proofs.YtipdclphpkgceaaGreatDoor

namespace Go.Proofs.YtipdclphpkgceaaGreatDoor
open Go.RowKit
theorem bB (x n:Int):(if n - x < 0 then 0 else n - x)=miss x n:=by unfold miss;split <;> omega
theorem J5 {x n:Int} (hx:1 ≤ x) (hn:0 ≤ n):0 ≤ miss x n ∧ miss x n ≤ n:=by unfold miss;omega
theorem Fu (x y n:Int) (w:World) (hx:1 ≤ x) (hx2:x ≤ 20000) (hn:0 ≤ n) (hn2:n ≤ 20020000) :
  Calls Tryz.prog 92 #[.agg #[.int .i64 x,.int .i64 y],.int .i64 n] w fun e w'=>e=.returned (.int .i64 (miss x n)) ∧ Below w.heap.size w w':=by
 go_enter Tryz.func92,Tryz.ntmps92
 go_wp2
 all_goals
  go_ret
  exact ⟨congrArg (fun z=>Ending.returned (.int .i64 z)) (by unfold miss;omega),(Below.refl _ _).alloc (Nat.le_refl _) _⟩
theorem Sg {p q:Int × Int} {n:Int} (h:miss q.1 n=0):Bw p q n=decide (0 < miss p.1 n):=by unfold Bw;rw [if_pos h]
theorem Ty {p q:Int × Int} {n:Int} (h:miss q.1 n ≠ 0):Bw p q n=decide (miss q.1 n * p.2 < miss p.1 n * q.2):=by unfold Bw;rw [if_neg h]
theorem VV {m y:Int} (hm:0 ≤ m) (hm2:m ≤ 20020000) (hy:0 ≤ y) (hy2:y ≤ 100000):0 ≤ m * y ∧ m * y ≤ 2002000000000:=by
 refine ⟨Int.mul_nonneg hm hy,?_⟩
 have a:=Int.mul_le_mul_of_nonneg_right hm2 hy
 omega
theorem LA (x y x2 y2 n:Int) (w:World) (hx:1 ≤ x) (hx2:x ≤ 20000) (hy:0 ≤ y) (hy2:y ≤ 100000) (gx:1 ≤ x2) (gx2:x2 ≤ 20000) (gy:0 ≤ y2) (gy2:y2 ≤ 100000) (hn:0 ≤ n) (hn2:n ≤ 20020000) :
  Calls Tryz.prog 122 #[.agg #[.int .i64 x,.int .i64 y],.agg #[.int .i64 x2,.int .i64 y2],.int .i64 n] w fun e w'=>e=.returned (.bool (Bw (x,y) (x2,y2) n)) ∧ Below w.heap.size w w':=by
 have hbW:Below w.heap.size w ((w.alloc (.cells #[.int .i64 x,.int .i64 y] 83)).alloc (.cells #[.int .i64 x2,.int .i64 y2] 83)):=((Below.refl _ _).alloc (Nat.le_refl _) _).alloc (by simp) _
 have c0:((w.alloc (.cells #[.int .i64 x,.int .i64 y] 83)).alloc (.cells #[.int .i64 x2,.int .i64 y2] 83)).cell? ⟨w.heap.size,0,none⟩=some (.int .i64 x):=by simp
 have c1:((w.alloc (.cells #[.int .i64 x,.int .i64 y] 83)).alloc (.cells #[.int .i64 x2,.int .i64 y2] 83)).cell? ⟨w.heap.size,1,none⟩=some (.int .i64 y):=by simp
 have c2:((w.alloc (.cells #[.int .i64 x,.int .i64 y] 83)).alloc (.cells #[.int .i64 x2,.int .i64 y2] 83)).cell? ⟨w.heap.size+1,0,none⟩=some (.int .i64 x2):=by simp
 have c3:((w.alloc (.cells #[.int .i64 x,.int .i64 y] 83)).alloc (.cells #[.int .i64 x2,.int .i64 y2] 83)).cell? ⟨w.heap.size+1,1,none⟩=some (.int .i64 y2):=by simp
 have mb1:=J5 hx hn
 have mb2:=J5 gx hn
 go_enter Tryz.func122,Tryz.ntmps122
 go_upto_region 1 with fail
 generalize (w.alloc (.cells #[.int .i64 x,.int .i64 y] 83)).alloc (.cells #[.int .i64 x2,.int .i64 y2] 83)=W at *
 have HBW:Hid (Below w.heap.size w W):=hbW
 clear hbW
 go_cut [7,8] (fun s7 s8 wx=>s7=.int .i64 (miss x n) ∧ s8=.int .i64 (miss x2 n) ∧ Below W.heap.size W wx)
 case first=>
  go_region_with (first
   | (go_at_call_of 92 (Value.agg #[.int .i64 x2,.int .i64 y2]);go_must (refine (Fu x2 y2 n _ gx gx2 hn hn2).mono ?_;rintro e wb ⟨rfl,hbb⟩;have HBb:Hid (Below W.heap.size W wb):=HBa.out.trans (hbb.mono HBa.out.size);clear hbb))
   | (go_at_call_of 92 (Value.agg #[.int .i64 x,.int .i64 y]);go_must (refine (Fu x y n _ hx hx2 hn hn2).mono ?_;rintro e wa ⟨rfl,hba⟩;have HBa:Hid (Below W.heap.size W wa):=⟨hba.os,hba.tape,hba.output,hba.size,hba.block⟩;have d2:=cell_later HBa.out c2;have d3:=cell_later HBa.out c3;clear hba))
   | fail)
  all_goals (go_wp2_with fail;go_meet;exact ⟨rfl,rfl,HBb.out⟩)
 case rest=>
 obtain ⟨rfl,rfl,hbc⟩:=hcut
 have HBC:Hid (Below w.heap.size w wc):=HBW.out.trans (hbc.mono HBW.out.size)
 have e1:=cell_later hbc c1
 have e3:=cell_later hbc c3
 clear hbc c0 c1 c2 c3
 have HZ:Hid (miss (x2,y2).1 n=0 → Bw (x,y) (x2,y2) n=decide (0 < miss x n)):=fun h=>Sg h
 have HS:Hid (miss (x2,y2).1 n ≠ 0 → Bw (x,y) (x2,y2) n=decide (miss x2 n * y < miss x n * y2)):=fun h=>Ty h
 obtain ⟨A,hA⟩:∃ A,miss x n=A:=⟨_,rfl⟩
 obtain ⟨B,hB⟩:∃ B,miss x2 n=B:=⟨_,rfl⟩
 have HA:Hid (miss x n=A):=hA
 have HB:Hid (miss x2 n=B):=hB
 rw [hA] at mb1 ⊢
 rw [hB] at mb2 ⊢
 clear hA hB
 obtain ⟨m1,m2⟩:=mb1
 obtain ⟨m3,m4⟩:=mb2
 obtain ⟨p1,p2⟩:=VV m1 (by omega) gy gy2
 obtain ⟨p3,p4⟩:=VV m3 (by omega) hy hy2
 by_cases hz:B=0
 ·
  have hz':(B == 0)=true:=by simpa using hz
  have HR:Hid (Bw (x,y) (x2,y2) n=decide (0 < A)):=by show _=_;rw [HZ.out (by show miss x2 n=0;rw [HB.out];exact hz),HA.out]
  clear hz
  go_wp2_with fail
  go_ret
  exact ⟨congrArg (fun z=>Ending.returned (.bool z)) HR.out.symm,HBC.out⟩
 ·
  have hz':(B == 0)=false:=by simpa using hz
  have HR:Hid (Bw (x,y) (x2,y2) n=decide (B * y < A * y2)):=by show _=_;rw [HS.out (by show miss x2 n ≠ 0;rw [HB.out];exact hz),HA.out,HB.out]
  clear hz
  go_wp2_with fail
  go_ret
  exact ⟨congrArg (fun z=>Ending.returned (.bool z)) HR.out.symm,HBC.out⟩
theorem XM (x y n:Int) (w:World) (hx:1 ≤ x) (hx2:x ≤ 20000) (hy:0 ≤ y) (hy2:y ≤ 100000) (hn:0 ≤ n) (hn2:n ≤ 20020000) (hk:miss x n=0 ∨ 0 < y) :
  Calls Tryz.prog 123 #[.agg #[.int .i64 x,.int .i64 y],.int .i64 n] w fun e w'=>e=.returned (.int .i64 (BI (x,y) n)) ∧ Below w.heap.size w w':=by
 have mb:=J5 hx hn
 obtain ⟨A,hA⟩:∃ A,miss x n=A:=⟨_,rfl⟩
 have HA:Hid (miss x n=A):=hA
 have HC:Hid (BI (x,y) n=if A=0 then 0 else (A * 1000+y - 1) / y):=by show _=_;unfold BI;rw [show miss (x,y).1 n=A from hA]
 rw [hA] at mb hk
 clear hA
 obtain ⟨m1,m2⟩:=mb
 by_cases hz:A=0
 ·
  subst hz
  go_enter Tryz.func123,Tryz.ntmps123
  go_wp2_with fail
  refine (Fu x y n _ hx hx2 hn hn2).mono ?_
  rintro e w1 ⟨rfl,hb⟩
  rw [HA.out]
  have HB:Hid (Below w.heap.size w w1):=((Below.refl _ _).alloc (Nat.le_refl _) _).trans (hb.mono (by simp))
  clear hb
  go_wp2_with fail
  go_ret
  exact ⟨congrArg (fun z=>Ending.returned (.int .i64 z)) (by rw [HC.out];simp),HB.out⟩
 ·
  have hz':(A == 0)=false:=by simpa using hz
  have hy0:0 < y:=by omega
  have hyne:(y == 0)=false:=by simp;omega
  have HR:Hid (BI (x,y) n=(A * 1000+y - 1) / y):=by show _=_;rw [HC.out,if_neg hz]
  clear hk hz
  go_enter Tryz.func123,Tryz.ntmps123
  go_wp2_with fail
  refine (Fu x y n _ hx hx2 hn hn2).mono ?_
  rintro e w1 ⟨rfl,hb⟩
  rw [HA.out]
  have HB:Hid (Below w.heap.size w w1):=((Below.refl _ _).alloc (Nat.le_refl _) _).trans (hb.mono (by simp))
  have d1:w1.cell? ⟨w.heap.size,1,none⟩=some (.int .i64 y):=cell_later hb (by simp)
  clear hb
  go_wp2_with fail
  go_ret
  exact ⟨congrArg (fun z=>Ending.returned (.int .i64 z)) HR.out.symm,HB.out⟩
theorem Rq (n:Int) (r:List (Int × Int)):∀ (x y:Int × Int),lastOf n x (r ++ [y])=if Bw y (lastOf n x r) n=true then y else lastOf n x r:=by
 induction r with
 | nil=>intro x y;rfl
 | cons z r ih=>intro x y;exact ih _ y
theorem Pe {w:World} {b off:Nat} {x0 y0:Int} {r:List (Int × Int)} (hc:∀ i x y,((x0,y0) :: r)[i]? = some (x,y) → w.cell? ⟨b,off+i * 2,none⟩=some (.int .i64 x) ∧ w.cell? ⟨b,off+i * 2+1,none⟩=some (.int .i64 y)) :
  (w.cell? ⟨b,off,none⟩=some (.int .i64 x0) ∧ w.cell? ⟨b,off+1,none⟩=some (.int .i64 y0)) ∧ ∀ i x y,r[i]? = some (x,y) → w.cell? ⟨b,off+2+i * 2,none⟩=some (.int .i64 x) ∧ w.cell? ⟨b,off+2+i * 2+1,none⟩=some (.int .i64 y):=by
 have ha:=hc 0 x0 y0 rfl
 refine ⟨⟨by simpa using ha.1,by simpa using ha.2⟩,fun i x y hi=>?_⟩
 have:=hc (i+1) x y (by simpa using hi)
 rw [show off+(i+1) * 2=off+2+i * 2 by omega] at this
 exact this
theorem Kj (a:Option Addr) (cap:Nat) (ls:List (Int × Int)) (w:World) (hl:AL w a ls) (h:Ag ls) (hcap:ls.length ≤ cap) (hm:cap ≤ maxLen) :
  Calls Tryz.prog 60 #[.slice a ls.length cap] w fun e w'=>e=.returned (.int .i64 (EX ls)) ∧ Below w.heap.size w w':=by
 obtain ⟨h1,h6,hok⟩:=h
 obtain ⟨b,off,rfl,hlt,hc⟩:=hl.some h1
 clear hl
 unfold maxLen at hm
 obtain ⟨x0,y0,r,rfl⟩:∃ x y r,ls=(x,y) :: r:=by
  cases ls with
  | nil=>simp at h1
  | cons p r=>exact ⟨p.1,p.2,r,rfl⟩
 obtain ⟨n,hn⟩:∃ n,r.length=n:=⟨_,rfl⟩
 have Hn:=(show Hid (r.length=n) from hn)
 have h6':n ≤ 5:=by simp at h6;omega
 have hcap':n+1 ≤ cap:=by simp at hcap;omega
 rw [show ((x0,y0) :: r).length=n+1 by simp [hn]]
 clear h1 h6 hcap hn
 obtain ⟨⟨hx0,hy0⟩,hr⟩:=Pe hc
 have HR:Hid (∀ i x y,r[i]? = some (x,y) → w.cell? ⟨b,off+2+i * 2,none⟩=some (.int .i64 x) ∧ w.cell? ⟨b,off+2+i * 2+1,none⟩=some (.int .i64 y)):=hr
 have HL:Hid (EX ((x0,y0) :: r)=Cg y0 r):=rfl
 clear hok hc hr
 by_cases hc1:cap=1
 ·
  subst hc1
  obtain rfl:n=0:=by omega
  have hr0:r=[]:=List.length_eq_zero_iff.1 Hn.out
  subst hr0
  clear HR Hn
  go_enter Tryz.func60,Tryz.ntmps60
  go_wp2
  refine wp_loop_rounds 1 ?_
  rw [rounds_succ]
  go_wp2
  go_ret
  exact ⟨rfl,Below.refl _ _⟩
 ·
  have hc2:1 < cap:=by omega
  clear hc1
  go_enter Tryz.func60,Tryz.ntmps60
  go_wp2
  go_loopw [3,13] (fun m i wr=>∃ k:Nat,k ≤ n ∧ i=.int .i64 k ∧ m=.int .i64 (Cg y0 (r.take k)) ∧ Below w.heap.size w wr) (fun _ i _=>n - (intOf i).toNat)
  case atStart=>exact ⟨0,Nat.zero_le _,rfl,rfl,Below.refl _ _⟩
  case round=>
   obtain ⟨k,hk,rfl,rfl,hb⟩:=hrel
   have hs:=hb.size
   by_cases hkn:k < n
   ·
    obtain ⟨⟨x,y⟩,hp,-⟩:=Ai r k (by rw [Hn.out];exact hkn)
    have hc1:wr.cell? ⟨b,off+2+k * 2,none⟩=some (.int .i64 x):=by rw [hb.cell (p:=⟨b,off+2+k * 2,none⟩) hlt];exact (HR.out k x y hp).1
    have hc2:wr.cell? ⟨b,off+2+k * 2+1,none⟩=some (.int .i64 y):=by rw [hb.cell (p:=⟨b,off+2+k * 2+1,none⟩) hlt];exact (HR.out k x y hp).2
    have hts:r.take (k+1)=r.take k ++ [(x,y)]:=by rw [List.take_add_one,hp];rfl
    have HS:Hid (Cg y0 (r.take (k+1))=min (Cg y0 (r.take k)) y):=by show _=_;rw [hts];exact MC _ _ _
    obtain ⟨M,hM⟩:∃ M,Cg y0 (r.take k)=M:=⟨_,rfl⟩
    rw [hM]
    have HM:Hid (Cg y0 (r.take k)=M):=hM
    clear hM hts hp
    go_wp2
    all_goals
     go_roundw
     case rel=>
      refine ⟨k+1,by omega,by go_num,?_,hb.alloc hs _⟩
      rw [HS.out,HM.out]
      all_goals first | exact congrArg (Value.int .i64) (Y9 _ _) | exact congrArg (Value.int .i64) (by omega)
     case measure=>simp [intOf];omega
   ·
    go_wp2
    go_ret
    refine ⟨congrArg (fun z=>Ending.returned (.int .i64 z)) ?_,hb⟩
    rw [List.take_of_length_le (by rw [Hn.out];omega)]
    exact HL.out.symm
structure G8 (b:Nat) (w:World) (x y:Value):Prop where
 c0:w.cell? ⟨b,0,none⟩=some x
 c1:w.cell? ⟨b,1,none⟩=some y
 f0:w.frozen? ⟨b,0,none⟩=false
 f1:w.frozen? ⟨b,1,none⟩=false
theorem G8.lt {b:Nat} {w:World} {x y:Value} (h:G8 b w x y):b < w.heap.size:=Ck h.c0
theorem G8.later {b:Nat} {w w':World} {x y:Value} (h:G8 b w x y) (hb:Below w.heap.size w w'):G8 b w' x y:=
 ⟨cell_later hb h.c0,cell_later hb h.c1,by rw [hb.frozen (p:=⟨b,0,none⟩) h.lt];exact h.f0,by rw [hb.frozen (p:=⟨b,1,none⟩) h.lt];exact h.f1⟩
theorem KJ (w:World) (x y:Value) (t:TypeId):G8 w.heap.size (w.alloc (.cells #[x,y] t)) x y:=⟨by simp,by simp,by simp,by simp⟩
theorem Ca (w:World) (p a:Addr) (v:Value):(w.setCell p v).frozen? a=w.frozen? a:=by simp
theorem G8.set {b:Nat} {w:World} {x y:Value} (h:G8 b w x y) (u v:Value):G8 b ((w.setCell ⟨b,0,none⟩ u).setCell ⟨b,1,none⟩ v) u v:=by
 have h1:(w.setCell ⟨b,0,none⟩ u).cell? ⟨b,1,none⟩=some y:=by rw [World.cell?_setCell_other _ _ _ _ (by simp)];exact h.c1
 refine ⟨?_,World.cell?_setCell_same _ _ _ h1,?_,?_⟩
 · rw [World.cell?_setCell_other _ _ _ _ (by simp)];exact World.cell?_setCell_same _ _ _ h.c0
 · rw [Ca,Ca];exact h.f0
 · rw [Ca,Ca];exact h.f1
theorem cell_far (w:World) (p a:Addr) (v:Value) (h:p.block ≠ a.block):(w.setCell p v).cell? a=w.cell? a:=World.cell?_of_block (Below.heap_setCell w p v a.block (Ne.symm h))
theorem G8.far {b c:Nat} {w:World} {x y:Value} (h:G8 b w x y) (hbc:c ≠ b) (u v:Value):G8 b ((w.setCell ⟨c,0,none⟩ u).setCell ⟨c,1,none⟩ v) x y:=by
 refine ⟨?_,?_,?_,?_⟩
 · rw [cell_far _ _ _ _ hbc,cell_far _ _ _ _ hbc];exact h.c0
 · rw [cell_far _ _ _ _ hbc,cell_far _ _ _ _ hbc];exact h.c1
 · rw [Ca,Ca];exact h.f0
 · rw [Ca,Ca];exact h.f1
theorem QD (a:Option Addr) (cap:Nat) (ls:List (Int × Int)) (m:Int) (w:World) (hl:AL w a ls) (h:Ag ls) (hcap:ls.length ≤ cap) (hm:cap ≤ maxLen) (m0:0 ≤ m) (m1:m ≤ 20020000) :
  Calls Tryz.prog 91 #[.slice a ls.length cap,.int .i64 m] w fun e w'=>e=.returned (.agg #[.int .i64 (A8 m ls).1,.int .i64 (A8 m ls).2]) ∧ Below w.heap.size w w':=by
 obtain ⟨h1,h6,hok⟩:=h
 obtain ⟨b,off,rfl,hlt,hc⟩:=hl.some h1
 clear hl
 unfold maxLen at hm
 obtain ⟨x0,y0,r,rfl⟩:∃ x y r,ls=(x,y) :: r:=by
  cases ls with
  | nil=>simp at h1
  | cons p r=>exact ⟨p.1,p.2,r,rfl⟩
 obtain ⟨n,hn⟩:∃ n,r.length=n:=⟨_,rfl⟩
 have Hn:=(show Hid (r.length=n) from hn)
 have h6':n ≤ 5:=by simp at h6;omega
 have hcap':n+1 ≤ cap:=by simp at hcap;omega
 rw [show ((x0,y0) :: r).length=n+1 by simp [hn]]
 clear h1 h6 hcap hn
 obtain ⟨⟨hx0,hy0⟩,hr⟩:=Pe hc
 have HR:Hid (∀ i x y,r[i]? = some (x,y) → w.cell? ⟨b,off+2+i * 2,none⟩=some (.int .i64 x) ∧ w.cell? ⟨b,off+2+i * 2+1,none⟩=some (.int .i64 y)):=hr
 have HO:Hid (BJ ((x0,y0) :: r)):=hok
 have HL:Hid (A8 m ((x0,y0) :: r)=lastOf m (x0,y0) r):=rfl
 clear hok hc hr
 -- the two blocks that the call makes first
 have hbA:Below w.heap.size w ((w.alloc (.cells #[.int .i64 0,.int .i64 0] 83)).alloc (.cells #[.int .i64 x0,.int .i64 y0] 83)):=((Below.refl _ _).alloc (Nat.le_refl _) _).alloc (by simp) _
 have hRA:G8 w.heap.size ((w.alloc (.cells #[.int .i64 0,.int .i64 0] 83)).alloc (.cells #[.int .i64 x0,.int .i64 y0] 83)) (.int .i64 0) (.int .i64 0):=(KJ w _ _ _).later ((Below.refl _ _).alloc (Nat.le_refl _) _)
 have hXA:G8 (w.heap.size+1) ((w.alloc (.cells #[.int .i64 0,.int .i64 0] 83)).alloc (.cells #[.int .i64 x0,.int .i64 y0] 83)) (.int .i64 x0) (.int .i64 y0):=by
  have:=KJ (w.alloc (.cells #[.int .i64 0,.int .i64 0] 83)) (.int .i64 x0) (.int .i64 y0) 83
  simpa using this
 by_cases hc1:cap=1
 ·
  subst hc1
  obtain rfl:n=0:=by omega
  have hr0:r=[]:=List.length_eq_zero_iff.1 Hn.out
  subst hr0
  clear HR Hn HO hbA hRA hXA
  go_enter Tryz.func91,Tryz.ntmps91
  go_wp2
  refine wp_loop_rounds 1 ?_
  rw [rounds_succ]
  go_wp2
  exact bodyPost_ret (v:=.agg #[.int .i64 x0,.int .i64 y0]) (by simp [results,Tryz.results91,go_sem]) rfl ⟨rfl,((Below.refl _ _).alloc (Nat.le_refl _) _).alloc (by simp) _⟩
 ·
  have hc2:1 < cap:=by omega
  clear hc1
  go_enter Tryz.func91,Tryz.ntmps91
  go_wp2
  clear hx0 hy0
  generalize (w.alloc (.cells #[.int .i64 0,.int .i64 0] 83)).alloc (.cells #[.int .i64 x0,.int .i64 y0] 83)=W at *
  go_loopw [14] (fun i wr=>∃ k:Nat,k ≤ n ∧ i=.int .i64 k ∧ Below w.heap.size w wr ∧ G8 w.heap.size wr (.int .i64 0) (.int .i64 0) ∧ G8 (w.heap.size+1) wr (.int .i64 (lastOf m (x0,y0) (r.take k)).1) (.int .i64 (lastOf m (x0,y0) (r.take k)).2)) (fun i _=>n - (intOf i).toNat)
  case atStart=>exact ⟨0,Nat.zero_le _,rfl,hbA,hRA,hXA⟩
  case round=>
   obtain ⟨k,hk,rfl,hb,hR,hX⟩:=hrel
   clear hbA hRA hXA
   have HB:Hid (Below w.heap.size w wr):=hb
   have H0:Hid (G8 w.heap.size wr (.int .i64 0) (.int .i64 0)):=hR
   by_cases hkn:k < n
   ·
    obtain ⟨⟨x,y⟩,hp,hmem⟩:=Ai r k (by rw [Hn.out];exact hkn)
    have q1:wr.cell? ⟨b,off+2+k * 2,none⟩=some (.int .i64 x):=by rw [hb.cell (p:=⟨b,off+2+k * 2,none⟩) hlt];exact (HR.out k x y hp).1
    have q2:wr.cell? ⟨b,off+2+k * 2+1,none⟩=some (.int .i64 y):=by rw [hb.cell (p:=⟨b,off+2+k * 2+1,none⟩) hlt];exact (HR.out k x y hp).2
    have hts:r.take (k+1)=r.take k ++ [(x,y)]:=by rw [List.take_add_one,hp];rfl
    have HS:Hid (lastOf m (x0,y0) (r.take (k+1))=if Bw (x,y) (lastOf m (x0,y0) (r.take k)) m=true then (x,y) else lastOf m (x0,y0) (r.take k)):=by show _=_;rw [hts];exact Rq _ _ _ _
    have hz:BF (lastOf m (x0,y0) (r.take k)).1 (lastOf m (x0,y0) (r.take k)).2=true:=by
     rcases NE m (r.take k) (x0,y0) with h | h
     · rw [h];exact HO.out _ (List.mem_cons_self ..)
     · exact HO.out _ (List.mem_cons_of_mem _ (List.mem_of_mem_take h))
    obtain ⟨p1,p2,p3,p4⟩:=Ap (HO.out _ (List.mem_cons_of_mem _ hmem))
    obtain ⟨z1,z2,z3,z4⟩:=Ap hz
    generalize hZ:lastOf m (x0,y0) (r.take k)=Z at *
    have HZ:Hid (lastOf m (x0,y0) (r.take k)=Z):=hZ
    obtain ⟨X,Y⟩:=Z
    simp only [] at p1 p2 p3 p4 z1 z2 z3 z4 hX
    have HX:Hid (G8 (w.heap.size+1) wr (.int .i64 X) (.int .i64 Y)):=hX
    have hb1:Below wr.heap.size wr (wr.alloc (.cells #[.int .i64 x,.int .i64 y] 83)):=(Below.refl _ _).alloc (Nat.le_refl _) _
    obtain ⟨g0,g1,_,_⟩:=hX.later hb1
    have HB1:Hid (Below wr.heap.size wr (wr.alloc (.cells #[.int .i64 x,.int .i64 y] 83))):=hb1
    have HY:Hid (G8 wr.heap.size (wr.alloc (.cells #[.int .i64 x,.int .i64 y] 83)) (.int .i64 x) (.int .i64 y)):=KJ wr _ _ _
    clear hts hp hmem hz hb hR hX hb1 hZ
    cases hlat:Bw (x,y) (X,Y) m with
    | true=>
     have HT:Hid (Bw (x,y) (X,Y) m=true):=hlat
     clear hlat
     go_wp2_with fail
     refine (LA x y X Y m _ p1 p2 p3 p4 z1 z2 z3 z4 m0 m1).mono ?_
     rintro e w2 ⟨rfl,hb2⟩
     rw [HT.out]
     have HB2:Hid (Below wr.heap.size wr w2):=HB1.out.trans (hb2.mono HB1.out.size)
     obtain ⟨y0',y1',_,_⟩:=HY.out.later hb2
     have hX2:=HX.out.later HB2.out
     obtain ⟨k0,k1,k2,k3⟩:=hX2
     have hs2:w.heap.size ≤ w.heap.size+1:=by omega
     clear hb2
     go_wp2_with fail
     go_roundw
     case rel=>
      refine ⟨k+1,by omega,by go_num,?_,?_,?_⟩
      · exact ((HB.out.trans (HB2.out.mono HB.out.size)).setCell hs2 _).setCell hs2 _
      · exact (H0.out.later HB2.out).far (by omega) _ _
      ·
       rw [HS.out,if_pos HT.out]
       exact (HX.out.later HB2.out).set _ _
     case measure=>simp [intOf];omega
    | false=>
     have HT:Hid (Bw (x,y) (X,Y) m=false):=hlat
     clear hlat
     go_wp2_with fail
     refine (LA x y X Y m _ p1 p2 p3 p4 z1 z2 z3 z4 m0 m1).mono ?_
     rintro e w2 ⟨rfl,hb2⟩
     rw [HT.out]
     have HB2:Hid (Below wr.heap.size wr w2):=HB1.out.trans (hb2.mono HB1.out.size)
     clear hb2
     go_wp2_with fail
     go_roundw
     case rel=>
      refine ⟨k+1,by omega,by go_num,HB.out.trans (HB2.out.mono HB.out.size),H0.out.later HB2.out,?_⟩
      rw [HS.out,if_neg (by rw [HT.out];decide)]
      exact HX.out.later HB2.out
     case measure=>simp [intOf];omega
   ·
    have hk':k=n:=by omega
    subst hk'
    rw [List.take_of_length_le (by rw [Hn.out];omega)] at hX
    have HF:Hid (A8 m ((x0,y0) :: r)=lastOf m (x0,y0) r):=rfl
    generalize lastOf m (x0,y0) r=Z at *
    obtain ⟨X,Y⟩:=Z
    simp only [] at hX
    obtain ⟨g0,g1,_,_⟩:=hX
    obtain ⟨j0,j1,j2,j3⟩:=hR
    clear hb
    go_wp2_with fail
    refine bodyPost_ret (v:=.agg #[.int .i64 X,.int .i64 Y]) (by simp [results,Tryz.results91,go_sem,j0,j1]) rfl ⟨?_,(HB.out.setCell (Nat.le_refl _) _).setCell (Nat.le_refl _) _⟩
    rw [HF.out]
def Da (per:Int) (ls:List (Int × Int)) (n:Int):Int:=per * n - BI (A8 n ls) n
theorem Y5 {per n:Int} (h1:1 ≤ per) (h2:per ≤ 1000) (n0:0 ≤ n) (n1:n ≤ 20020000):0 ≤ per * n ∧ per * n ≤ 20020000000:=by
 refine ⟨Int.mul_nonneg (by omega) n0,?_⟩
 have a:=Int.mul_le_mul_of_nonneg_right h2 n0
 omega
theorem Rs {x y n:Int} (hx:1 ≤ x) (hy:0 ≤ y) (hy2:y ≤ 100000) (n0:0 ≤ n) (n1:n ≤ 20020000) (hk:miss x n=0 ∨ 0 < y):0 ≤ BI (x,y) n ∧ BI (x,y) n ≤ 20020100000:=by
 have mb:=J5 hx n0
 unfold BI
 split
 · omega
 ·
  next h=>
  have hy0:0 < y:=by
   rcases hk with hk | hk
   · exact absurd hk h
   · exact hk
  refine ⟨Int.ediv_nonneg (by simp only [];omega) hy,?_⟩
  have:=Int.ediv_le_self (a:=miss x n * 1000+y - 1) y (by omega)
  simp only []
  omega
theorem V4 (a:Option Addr) (cap:Nat) (ls:List (Int × Int)) (per n:Int) (w:World) (hl:AL w a ls) (h:Ag ls) (hcap:ls.length ≤ cap) (hm:cap ≤ maxLen) (p1:1 ≤ per) (p2:per ≤ 1000) (n0:0 ≤ n) (n1:n ≤ 20020000)
  (hk:miss (A8 n ls).1 n=0 ∨ 0 < (A8 n ls).2) :
  Calls Tryz.prog 93 #[.slice a ls.length cap,.int .i64 per,.int .i64 n] w fun e w'=>e=.returned (.int .i64 (Da per ls n)) ∧ Below w.heap.size w w':=by
 have HL:Hid (AL w a ls):=hl
 have HK:Hid (Ag ls):=h
 have Hc:Hid (ls.length ≤ cap ∧ cap ≤ maxLen):=⟨hcap,hm⟩
 obtain ⟨b1,b2⟩:=Y5 p1 p2 n0 n1
 have hok:=Ap (h.2.2 _ (Es n ls h.1))
 have HW:Hid (Da per ls n=per * n - BI (A8 n ls) n):=rfl
 have HI:Hid (A8 n ls=A8 n ls):=rfl
 generalize hZ:A8 n ls=Z at *
 have HZ:Hid (A8 n ls=Z):=hZ
 obtain ⟨X,Y⟩:=Z
 simp only [] at hok hk
 obtain ⟨q1,q2,q3,q4⟩:=hok
 obtain ⟨d1,d2⟩:=Rs q1 q3 q4 n0 n1 hk
 have HD:Hid (miss X n=0 ∨ 0 < Y):=hk
 clear hl h hcap hm hZ HI hk
 go_enter Tryz.func93,Tryz.ntmps93
 go_wp2_with fail
 refine (QD a cap ls n _ HL.out HK.out Hc.out.1 Hc.out.2 n0 n1).mono ?_
 rintro e w1 ⟨rfl,hb1⟩
 rw [HZ.out]
 have HB1:Hid (Below w.heap.size w w1):=hb1
 clear hb1
 go_wp2_with fail
 refine (XM X Y n _ q1 q2 q3 q4 n0 n1 HD.out).mono ?_
 rintro e w2 ⟨rfl,hb2⟩
 have HB2:Hid (Below w.heap.size w w2):=HB1.out.trans (hb2.mono HB1.out.size)
 clear hb2
 go_wp2_with fail
 go_ret
 exact ⟨congrArg (fun z=>Ending.returned (.int .i64 z)) HW.out.symm,HB2.out⟩
theorem WC (a:Option Addr) (cap:Nat) (ls:List (Int × Int)) (per n:Int) (w:World) (k1 k2:Nat) (c1:w.cell? ⟨k1,0,none⟩=some (.slice a ls.length cap)) (c2:w.cell? ⟨k2,0,none⟩=some (.int .i64 per))
  (hl:AL w a ls) (h:Ag ls) (hcap:ls.length ≤ cap) (hm:cap ≤ maxLen) (p1:1 ≤ per) (p2:per ≤ 1000) (n0:0 ≤ n) (n1:n ≤ 20020000) :
  Calls Tryz.prog 90 #[.int .i64 n,.pointer (some ⟨k1,0,none⟩),.pointer (some ⟨k2,0,none⟩)] w fun e w'=>e=.returned (.bool (turns per ls n)) ∧ Below w.heap.size w w':=by
 have HL:Hid (AL w a ls):=hl
 have HK:Hid (Ag ls):=h
 have Hc:Hid (ls.length ≤ cap ∧ cap ≤ maxLen):=⟨hcap,hm⟩
 have hok:=Ap (h.2.2 _ (Es n ls h.1))
 have HT:Hid (turns per ls n=decide (0 < miss (A8 n ls).1 n ∧ (A8 n ls).2 * per ≤ 1000)):=rfl
 have HI:Hid (A8 n ls=A8 n ls):=rfl
 generalize hZ:A8 n ls=Z at *
 have HZ:Hid (A8 n ls=Z):=hZ
 obtain ⟨X,Y⟩:=Z
 simp only [] at hok
 obtain ⟨q1,q2,q3,q4⟩:=hok
 have mb:=J5 q1 n0
 have pb1:0 ≤ Y * per:=Int.mul_nonneg q3 (by omega)
 have pb2:Y * per ≤ 100000000:=by
  have a1:=Int.mul_le_mul_of_nonneg_left p2 q3
  omega
 have HC2:Hid (w.cell? ⟨k2,0,none⟩=some (.int .i64 per)):=c2
 clear hl h hcap hm hZ HI c2
 go_enter Tryz.func90,Tryz.ntmps90
 go_wp2_with fail
 refine (QD a cap ls n _ HL.out HK.out Hc.out.1 Hc.out.2 n0 n1).mono ?_
 rintro e w1 ⟨rfl,hb1⟩
 rw [HZ.out]
 have HB1:Hid (Below w.heap.size w w1):=hb1
 have hy:=KJ w1 (.int .i64 X) (.int .i64 Y) 83
 have HY:Hid (G8 w1.heap.size (w1.alloc (.cells #[.int .i64 X,.int .i64 Y] 83)) (.int .i64 X) (.int .i64 Y)):=hy
 clear hb1 hy c1
 go_wp2_with fail
 refine (Fu X Y n _ q1 q2 n0 n1).mono ?_
 rintro e w2 ⟨rfl,hb2⟩
 obtain ⟨_,y1,_,_⟩:=HY.out.later hb2
 have HB2:Hid (Below w.heap.size w w2):=(HB1.out.alloc HB1.out.size _).trans (hb2.mono (by have:=HB1.out.size;simp;omega))
 have d2:=cell_later HB2.out HC2.out
 obtain ⟨A,hA⟩:∃ A,miss X n=A:=⟨_,rfl⟩
 have HA:Hid (miss X n=A):=hA
 rw [hA] at mb ⊢
 obtain ⟨m1,m2⟩:=mb
 clear hb2 hA
 by_cases hp:0 < A
 ·
  have HR:Hid (turns per ls n=decide (Y * per ≤ 1000)):=by
   show _=_
   rw [HT.out]
   simp only [HA.out]
   simp [hp]
  go_wp2_with fail
  go_ret
  exact ⟨congrArg (fun z=>Ending.returned (.bool z)) HR.out.symm,HB2.out⟩
 ·
  have HR:Hid (turns per ls n=false):=by
   show _=_
   rw [HT.out]
   simp only [HA.out]
   simp [hp]
  go_wp2_with fail
  go_ret
  exact ⟨congrArg (fun z=>Ending.returned (.bool z)) HR.out.symm,HB2.out⟩
end Go.Proofs.YtipdclphpkgceaaGreatDoor
