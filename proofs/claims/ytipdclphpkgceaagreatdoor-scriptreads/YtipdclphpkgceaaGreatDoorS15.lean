/- Own facts, put together: no statement of its own. -/
import Derived.Test.YtipdclphpkgceaaGreatDoorS04
import Derived.Test.YtipdclphpkgceaaGreatDoorS01
import Derived.Deep.DeepCutAuto
import Derived.Deep.RegionLaw
set_option maxHeartbeats 1000000
set_option maxRecDepth 100000

namespace Go.Proofs.YtipdclphpkgceaaGreatDoor
open Go.RowKit
theorem first_busy (low high:Int) (k1 k2:Value) (p:Int → Bool) (w0 w:World) (hw:Below w0.heap.size w0 w) (h0:0 ≤ low) (h1:low ≤ high) (h2:high ≤ 1099511627777)
  (hcall:∀ (n:Int) (W:World),low ≤ n → n < high → Below w0.heap.size w0 W → Calls Tryz.prog 63 #[.int .i64 n,k1,k2] W fun e w'=>e=.returned (.bool (p n)) ∧ Below W.heap.size W w') :
  Calls Tryz.prog 62 #[.int .i64 low,.int .i64 high,.func (.func 63) #[] #[k1,k2]] w fun e w'=>∃ r:Int,e=.returned (.int .i64 r) ∧ low ≤ r ∧ r ≤ high ∧ (r=high ∨ p r=true) ∧ (r=low ∨ p (r - 1)=false) ∧ Below w0.heap.size w0 w':=by
 have HC:Hid (∀ (n:Int) (W:World),low ≤ n → n < high → Below w0.heap.size w0 W → Calls Tryz.prog 63 #[.int .i64 n,k1,k2] W fun e w'=>e=.returned (.bool (p n)) ∧ Below W.heap.size W w'):=hcall
 clear hcall
 go_enter Tryz.func62,Tryz.ntmps62
 go_wp2_with fail
 go_loopw [0,1] (fun l h wr=>∃ a b:Int,l=.int .i64 a ∧ h=.int .i64 b ∧ low ≤ a ∧ a ≤ b ∧ b ≤ high ∧ (b=high ∨ p b=true) ∧ (a=low ∨ p (a - 1)=false) ∧ Below w0.heap.size w0 wr) (fun l h _=>(intOf h - intOf l).toNat)
 case atStart=>exact ⟨low,high,rfl,rfl,Int.le_refl _,h1,Int.le_refl _,.inl rfl,.inl rfl,hw⟩
 case round=>
  obtain ⟨a,b,rfl,rfl,i1,i2,i3,i4,i5,hb⟩:=hrel
  have HI:Hid ((b=high ∨ p b=true) ∧ (a=low ∨ p (a - 1)=false) ∧ Below w0.heap.size w0 wr):=⟨i4,i5,hb⟩
  clear i4 i5 hb
  by_cases hab:a < b
  ·
   obtain ⟨m,hm⟩:∃ m,a+(b - a) / 2=m:=⟨_,rfl⟩
   have m1:a ≤ m:=by omega
   have m2:m < b:=by omega
   have HM:Hid (a+(b - a) / 2=m):=hm
   clear hm
   cases hpm:p m with
   | true=>
    have HP:Hid (p m=true):=hpm
    clear hpm
    go_wp2_with fail
    rw [HM.out]
    refine (HC.out m _ (by omega) (by omega) HI.out.2.2).mono ?_
    rintro e w1 ⟨rfl,hb1⟩
    rw [HP.out]
    have HB1:Hid (Below w0.heap.size w0 w1):=HI.out.2.2.trans (hb1.mono HI.out.2.2.size)
    clear hb1
    go_wp2_with fail
    go_roundw
    case rel=>exact ⟨a,m,rfl,rfl,i1,m1,by omega,.inr HP.out,HI.out.2.1,HB1.out⟩
    case measure=>simp [intOf];omega
   | false=>
    have HP:Hid (p m=false):=hpm
    clear hpm
    go_wp2_with fail
    rw [HM.out]
    refine (HC.out m _ (by omega) (by omega) HI.out.2.2).mono ?_
    rintro e w1 ⟨rfl,hb1⟩
    rw [HP.out]
    have HB1:Hid (Below w0.heap.size w0 w1):=HI.out.2.2.trans (hb1.mono HI.out.2.2.size)
    clear hb1
    go_wp2_with fail
    go_roundw
    case rel=>exact ⟨m+1,b,rfl,rfl,by omega,by omega,i3,HI.out.1,.inr (by rw [show m+1 - 1=m by omega];exact HP.out),HB1.out⟩
    case measure=>simp [intOf];omega
  ·
   go_wp2_with fail
   go_ret
   obtain ⟨i4,i5,hb⟩:=HI.out
   have e:a=b:=by omega
   subst e
   exact ⟨a,rfl,i1,i3,i4,i5,hb⟩
theorem first_turn (low high:Int) (k1 k2:Value) (p:Int → Bool) (w0 w:World) (hw:Below w0.heap.size w0 w) (h0:0 ≤ low) (h1:low ≤ high) (h2:high ≤ 1099511627777)
  (hcall:∀ (n:Int) (W:World),low ≤ n → n < high → Below w0.heap.size w0 W → Calls Tryz.prog 90 #[.int .i64 n,k1,k2] W fun e w'=>e=.returned (.bool (p n)) ∧ Below W.heap.size W w') :
  Calls Tryz.prog 62 #[.int .i64 low,.int .i64 high,.func (.func 90) #[] #[k1,k2]] w fun e w'=>∃ r:Int,e=.returned (.int .i64 r) ∧ low ≤ r ∧ r ≤ high ∧ (r=high ∨ p r=true) ∧ (r=low ∨ p (r - 1)=false) ∧ Below w0.heap.size w0 w':=by
 have HC:Hid (∀ (n:Int) (W:World),low ≤ n → n < high → Below w0.heap.size w0 W → Calls Tryz.prog 90 #[.int .i64 n,k1,k2] W fun e w'=>e=.returned (.bool (p n)) ∧ Below W.heap.size W w'):=hcall
 clear hcall
 go_enter Tryz.func62,Tryz.ntmps62
 go_wp2_with fail
 go_loopw [0,1] (fun l h wr=>∃ a b:Int,l=.int .i64 a ∧ h=.int .i64 b ∧ low ≤ a ∧ a ≤ b ∧ b ≤ high ∧ (b=high ∨ p b=true) ∧ (a=low ∨ p (a - 1)=false) ∧ Below w0.heap.size w0 wr) (fun l h _=>(intOf h - intOf l).toNat)
 case atStart=>exact ⟨low,high,rfl,rfl,Int.le_refl _,h1,Int.le_refl _,.inl rfl,.inl rfl,hw⟩
 case round=>
  obtain ⟨a,b,rfl,rfl,i1,i2,i3,i4,i5,hb⟩:=hrel
  have HI:Hid ((b=high ∨ p b=true) ∧ (a=low ∨ p (a - 1)=false) ∧ Below w0.heap.size w0 wr):=⟨i4,i5,hb⟩
  clear i4 i5 hb
  by_cases hab:a < b
  ·
   obtain ⟨m,hm⟩:∃ m,a+(b - a) / 2=m:=⟨_,rfl⟩
   have m1:a ≤ m:=by omega
   have m2:m < b:=by omega
   have HM:Hid (a+(b - a) / 2=m):=hm
   clear hm
   cases hpm:p m with
   | true=>
    have HP:Hid (p m=true):=hpm
    clear hpm
    go_wp2_with fail
    rw [HM.out]
    refine (HC.out m _ (by omega) (by omega) HI.out.2.2).mono ?_
    rintro e w1 ⟨rfl,hb1⟩
    rw [HP.out]
    have HB1:Hid (Below w0.heap.size w0 w1):=HI.out.2.2.trans (hb1.mono HI.out.2.2.size)
    clear hb1
    go_wp2_with fail
    go_roundw
    case rel=>exact ⟨a,m,rfl,rfl,i1,m1,by omega,.inr HP.out,HI.out.2.1,HB1.out⟩
    case measure=>simp [intOf];omega
   | false=>
    have HP:Hid (p m=false):=hpm
    clear hpm
    go_wp2_with fail
    rw [HM.out]
    refine (HC.out m _ (by omega) (by omega) HI.out.2.2).mono ?_
    rintro e w1 ⟨rfl,hb1⟩
    rw [HP.out]
    have HB1:Hid (Below w0.heap.size w0 w1):=HI.out.2.2.trans (hb1.mono HI.out.2.2.size)
    clear hb1
    go_wp2_with fail
    go_roundw
    case rel=>exact ⟨m+1,b,rfl,rfl,by omega,by omega,i3,HI.out.1,.inr (by rw [show m+1 - 1=m by omega];exact HP.out),HB1.out⟩
    case measure=>simp [intOf];omega
  ·
   go_wp2_with fail
   go_ret
   obtain ⟨i4,i5,hb⟩:=HI.out
   have e:a=b:=by omega
   subst e
   exact ⟨a,rfl,i1,i3,i4,i5,hb⟩
end Go.Proofs.YtipdclphpkgceaaGreatDoor

namespace Go.Proofs.YtipdclphpkgceaaGreatDoor
def miss (x n:Int):Int:=max (n - x) 0
def laterB (p q:Int × Int) (n:Int):Bool:=
 if miss q.1 n=0 then decide (0 < miss p.1 n) else decide (miss q.1 n * p.2 < miss p.1 n * q.2)
def lastOf (n:Int):Int × Int → List (Int × Int) → Int × Int
 | x,[]=>x
 | x,y :: r=>lastOf n (if laterB y x n=true then y else x) r
def lastC (n:Int):List (Int × Int) → Int × Int
 | []=>(0,0)
 | p :: r=>lastOf n p r
def comesAt (p:Int × Int) (n:Int):Int:=if miss p.1 n=0 then 0 else (miss p.1 n * 1000+p.2 - 1) / p.2
theorem miss_nonneg (x n:Int):0 ≤ miss x n:=by unfold miss;omega
theorem laterB_false {p q:Int × Int} {n:Int} (h:laterB p q n=false):(miss q.1 n=0 → miss p.1 n=0) ∧ (miss q.1 n ≠ 0 → miss p.1 n * q.2 ≤ miss q.1 n * p.2):=by
 unfold laterB at h
 have:=miss_nonneg p.1 n
 split at h
 · next hq=>exact ⟨fun _=>by have:=of_decide_eq_false h;omega,fun h'=>absurd hq h'⟩
 · next hq=>exact ⟨fun h'=>absurd h' hq,fun _=>by have:=of_decide_eq_false h;omega⟩
theorem laterB_mk {p q:Int × Int} {n:Int} (h1:miss q.1 n=0 → miss p.1 n=0) (h2:miss q.1 n ≠ 0 → miss p.1 n * q.2 ≤ miss q.1 n * p.2):laterB p q n=false:=by
 unfold laterB
 split
 · next hq=>have:=h1 hq;exact decide_eq_false (by omega)
 · next hq=>have:=h2 hq;exact decide_eq_false (by omega)
theorem laterB_true {p q:Int × Int} {n:Int} (h:laterB p q n=true):(miss q.1 n=0 → 0 < miss p.1 n) ∧ (miss q.1 n ≠ 0 → miss q.1 n * p.2 < miss p.1 n * q.2):=by
 unfold laterB at h
 split at h
 · next hq=>exact ⟨fun _=>of_decide_eq_true h,fun h'=>absurd hq h'⟩
 · next hq=>exact ⟨fun h'=>absurd h' hq,fun _=>of_decide_eq_true h⟩
theorem laterB_self (p:Int × Int) (n:Int):laterB p p n=false:=laterB_mk (fun h=>h) (fun _=>Int.le_refl _)
theorem later_num {m k l u v t:Int} (hm:0 ≤ m) (hk:0 < k) (hl:0 ≤ l) (h1:m * u ≤ k * v) (h2:k * t < l * u):m * t ≤ l * v:=by
 rcases Int.lt_or_le (l * v) (m * t) with h | h
 ·
  have a:=Int.mul_lt_mul_of_pos_left h hk
  have b:=Int.mul_le_mul_of_nonneg_left h1 hl
  have c:=Int.mul_le_mul_of_nonneg_left (Int.le_of_lt h2) hm
  have e1:k * (m * t)=m * (k * t):=by ac_rfl
  have e2:m * (l * u)=l * (m * u):=by ac_rfl
  have e3:l * (k * v)=k * (l * v):=by ac_rfl
  omega
 · exact h
theorem later_step {x y z:Int × Int} {n:Int} (hy:0 ≤ y.2) (hz:0 ≤ z.2) (h1:laterB y x n=false) (h2:laterB z x n=true):laterB y z n=false:=by
 obtain ⟨a1,a2⟩:=laterB_false h1
 obtain ⟨b1,b2⟩:=laterB_true h2
 have my:=miss_nonneg y.1 n
 have mz:=miss_nonneg z.1 n
 have mx:=miss_nonneg x.1 n
 by_cases h0:miss x.1 n=0
 ·
  have hm:=a1 h0
  refine laterB_mk (fun _=>hm) (fun _=>?_)
  rw [hm,Int.zero_mul]
  exact Int.mul_nonneg mz hy
 ·
  have p1:=a2 h0
  have p2:=b2 h0
  refine laterB_mk (fun hzz=>?_) (fun _=>later_num my (by omega) mz p1 p2)
  rw [hzz,Int.zero_mul] at p2
  have:=Int.mul_nonneg mx hz
  omega
theorem lastOf_mem (n:Int) (r:List (Int × Int)):∀ x,lastOf n x r=x ∨ lastOf n x r ∈ r:=by
 induction r with
 | nil=>intro x;exact .inl rfl
 | cons y r ih=>
  intro x
  show lastOf n (if laterB y x n=true then y else x) r=x ∨ lastOf n (if laterB y x n=true then y else x) r ∈ y :: r
  rcases ih (if laterB y x n=true then y else x) with h | h
  ·
   rw [h]
   split
   · exact .inr (List.mem_cons_self ..)
   · exact .inl rfl
  · exact .inr (List.mem_cons_of_mem _ h)
theorem lastC_mem (n:Int) (ls:List (Int × Int)) (h:1 ≤ ls.length):lastC n ls ∈ ls:=by
 cases ls with
 | nil=>simp at h
 | cons p r=>
  show lastOf n p r ∈ p :: r
  rcases lastOf_mem n r p with h | h
  · rw [h];exact List.mem_cons_self ..
  · exact List.mem_cons_of_mem _ h
theorem lastOf_max (n:Int) (r:List (Int × Int)):∀ x,(∀ p,p ∈ x :: r → 0 ≤ p.2) → ∀ y,(0 ≤ y.2 ∧ laterB y x n=false) ∨ y ∈ r → laterB y (lastOf n x r) n=false:=by
 induction r with
 | nil=>
  intro x _ y hy
  rcases hy with hy | hy
  · exact hy.2
  · cases hy
 | cons z r ih=>
  intro x hpos y hy
  show laterB y (lastOf n (if laterB z x n=true then z else x) r) n=false
  have hz:=hpos z (List.mem_cons_of_mem _ (List.mem_cons_self ..))
  by_cases h:laterB z x n=true
  ·
   rw [if_pos h]
   refine ih z (fun p hp=>hpos p (List.mem_cons_of_mem _ hp)) y ?_
   rcases hy with hy | hy
   · exact .inl ⟨hy.1,later_step hy.1 hz hy.2 h⟩
   ·
    rcases List.mem_cons.1 hy with rfl | hy
    · exact .inl ⟨hz,laterB_self _ _⟩
    · exact .inr hy
  ·
   rw [if_neg h]
   have h':laterB z x n=false:=by simpa using h
   refine ih x (fun p hp=>hpos p (by rcases List.mem_cons.1 hp with rfl | hp;exact List.mem_cons_self ..;exact List.mem_cons_of_mem _ (List.mem_cons_of_mem _ hp))) y ?_
   rcases hy with hy | hy
   · exact .inl hy
   ·
    rcases List.mem_cons.1 hy with rfl | hy
    · exact .inl ⟨hz,h'⟩
    · exact .inr hy
theorem lastC_max (n:Int) (ls:List (Int × Int)) (hp:∀ p,p ∈ ls → 0 ≤ p.2) (y:Int × Int) (hy:y ∈ ls):laterB y (lastC n ls) n=false:=by
 cases ls with
 | nil=>cases hy
 | cons p r=>
  refine lastOf_max n r p hp y ?_
  rcases List.mem_cons.1 hy with rfl | hy
  · exact .inl ⟨hp _ (List.mem_cons_self ..),laterB_self _ _⟩
  · exact .inr hy
theorem ceil_le {m r t:Int} (hr:0 < r):(m * 1000+r - 1) / r ≤ t ↔ m * 1000 ≤ r * t:=by
 have h1:=Int.mul_ediv_self_le (x:=m * 1000+r - 1) (k:=r) (by omega)
 have h2:=Int.lt_mul_ediv_self_add (x:=m * 1000+r - 1) (k:=r) hr
 generalize (m * 1000+r - 1) / r=q at *
 constructor
 ·
  intro h
  have:=Int.mul_le_mul_of_nonneg_left h (Int.le_of_lt hr)
  omega
 ·
  intro h
  rcases Int.lt_or_le t q with h' | h'
  ·
   have:=Int.mul_le_mul_of_nonneg_left (show t+1 ≤ q by omega) (Int.le_of_lt hr)
   rw [Int.mul_add] at this
   omega
  · exact h'
theorem line_has {t x y n:Int}:n ≤ lineAt t x y ↔ 1000 * (n - x) ≤ y * t:=by
 unfold lineAt
 omega
theorem miss_pos {x n:Int} (h:miss x n ≠ 0):miss x n=n - x ∧ 0 < n - x:=by unfold miss at *;omega
theorem miss_zero {x n:Int} (h:miss x n=0):n ≤ x:=by unfold miss at h;omega
theorem has_at (ls:List (Int × Int)) (n:Int) (h:okCurve ls) (hn:miss (lastC n ls).1 n=0 ∨ 0 < (lastC n ls).2):0 ≤ comesAt (lastC n ls) n ∧ n ≤ curveAt (comesAt (lastC n ls) n) ls:=by
 have hpos:∀ p,p ∈ ls → 0 ≤ p.2:=fun p hp=>(okLine_true (h.2.2 p hp)).2.2.1
 have hmax:=lastC_max n ls hpos
 generalize lastC n ls=z at *
 have hc:0 ≤ comesAt z n:=by
  unfold comesAt
  split
  · exact Int.le_refl _
  ·
   next hz=>
   obtain ⟨e1,e2⟩:=miss_pos hz
   rcases hn with hn | hn
   · exact absurd hn hz
   · exact Int.ediv_nonneg (by omega) (by omega)
 refine ⟨hc,?_⟩
 obtain ⟨p,hp,e⟩:=curveAt_is (comesAt z n) ls h.1
 rw [e,line_has]
 obtain ⟨a1,a2⟩:=laterB_false (hmax p hp)
 by_cases hz:miss z.1 n=0
 ·
  have:=miss_zero (a1 hz)
  have:=Int.mul_nonneg (hpos p hp) hc
  omega
 ·
  have hr:0 < z.2:=by
   rcases hn with hn | hn
   · exact absurd hn hz
   · exact hn
  have hcz:z.2 * comesAt z n ≥ miss z.1 n * 1000:=by
   have:=(ceil_le (m:=miss z.1 n) (t:=comesAt z n) hr).1 (by unfold comesAt;rw [if_neg hz];exact Int.le_refl _)
   exact this
  have hle:=a2 hz
  have hmp:n - p.1 ≤ miss p.1 n:=by unfold miss;omega
  have hpp:=hpos p hp
  generalize comesAt z n=C at *
  generalize miss z.1 n=k at *
  generalize miss p.1 n=m at *
  -- z.2 * (p.2 * C)=p.2 * (z.2 * C) ≥ p.2 * (k * 1000) ≥ 1000 * (m * z.2)
  rcases Int.lt_or_le (p.2 * C) (1000 * (n - p.1)) with hlt | hge
  ·
   have b1:=Int.mul_le_mul_of_nonneg_left (show k * 1000 ≤ z.2 * C from hcz) hpp
   have b2:p.2 * (k * 1000)=1000 * (k * p.2):=by ac_rfl
   have b3:p.2 * (z.2 * C)=z.2 * (p.2 * C):=by ac_rfl
   have b4:m * z.2=z.2 * m:=Int.mul_comm _ _
   have b5:=Int.mul_lt_mul_of_pos_left (show p.2 * C < 1000 * m by omega) hr
   have b6:z.2 * (1000 * m)=1000 * (z.2 * m):=by ac_rfl
   omega
  · exact hge
def turns (per:Int) (ls:List (Int × Int)) (n:Int):Bool:=decide (0 < miss (lastC n ls).1 n ∧ (lastC n ls).2 * per ≤ 1000)
theorem wait_ahead {per t n k:Int} {ls:List (Int × Int)} (h:okCurve ls) (hper:1 ≤ per) (t0:0 ≤ t) (hk:turns per ls k=false) (hn:n ≤ k) (hc:n ≤ curveAt t ls) :
  (miss (lastC k ls).1 k=0 ∨ 0 < (lastC k ls).2) ∧ per * n - t ≤ per * k - comesAt (lastC k ls) k:=by
 have hm:=lastC_mem k ls h.1
 have hok:=okLine_true (h.2.2 _ hm)
 have hl:=Int.le_trans hc (curveAt_le t ls _ hm)
 have hk':¬ (0 < miss (lastC k ls).1 k ∧ (lastC k ls).2 * per ≤ 1000):=of_decide_eq_false hk
 generalize lastC k ls=z at *
 have hmul:=Int.mul_le_mul_of_nonneg_left hn (show 0 ≤ per by omega)
 have mn:=miss_nonneg z.1 k
 by_cases hz:miss z.1 k=0
 ·
  refine ⟨.inl hz,?_⟩
  unfold comesAt
  rw [if_pos hz]
  omega
 ·
  have hfast:1000 < z.2 * per:=by
   rcases Int.lt_or_le 1000 (z.2 * per) with h | h
   · exact h
   · exact absurd ⟨by omega,h⟩ hk'
  have hr:0 < z.2:=by
   rcases Int.lt_or_le 0 z.2 with h | h
   · exact h
   ·
    have:z.2=0:=by omega
    rw [this,Int.zero_mul] at hfast
    omega
  refine ⟨.inr hr,?_⟩
  obtain ⟨e1,e2⟩:=miss_pos hz
  have:comesAt z k ≤ t+per * (k - n):=by
   unfold comesAt
   rw [if_neg hz,ceil_le hr,e1,Int.mul_add]
   have b1:=line_has.1 hl
   have b2:=Int.mul_le_mul_of_nonneg_right (show 1000 ≤ z.2 * per by omega) (show 0 ≤ k - n by omega)
   have b3:z.2 * per * (k - n)=z.2 * (per * (k - n)):=Int.mul_assoc _ _ _
   omega
  rw [Int.mul_sub] at this
  omega
theorem wait_behind {per t n k:Int} {ls:List (Int × Int)} (h:okCurve ls) (hk:turns per ls k=true) (hn:k ≤ n) (hc:n ≤ curveAt t ls) :
  0 < (lastC k ls).2 ∧ per * n - t ≤ per * k - comesAt (lastC k ls) k:=by
 have hm:=lastC_mem k ls h.1
 have hok:=okLine_true (h.2.2 _ hm)
 have hl:=Int.le_trans hc (curveAt_le t ls _ hm)
 have hk':0 < miss (lastC k ls).1 k ∧ (lastC k ls).2 * per ≤ 1000:=of_decide_eq_true hk
 generalize lastC k ls=z at *
 have hz:miss z.1 k ≠ 0:=by omega
 obtain ⟨e1,e2⟩:=miss_pos hz
 have b1:=line_has.1 hl
 have hr:0 < z.2:=by
  rcases Int.lt_or_le 0 z.2 with h | h
  · exact h
  ·
   have:z.2=0:=by omega
   rw [this,Int.zero_mul] at b1
   omega
 refine ⟨hr,?_⟩
 have:comesAt z k ≤ t - per * (n - k):=by
  unfold comesAt
  rw [if_neg hz,ceil_le hr,e1,Int.mul_sub]
  have b2:=Int.mul_le_mul_of_nonneg_right hk'.2 (show 0 ≤ n - k by omega)
  have b3:z.2 * per * (n - k)=z.2 * (per * (n - k)):=Int.mul_assoc _ _ _
  omega
 rw [Int.mul_sub] at this
 omega
def leastFold:Int → List (Int × Int) → Int
 | m,[]=>m
 | m,p :: r=>leastFold (min m p.2) r
def leastR:List (Int × Int) → Int
 | []=>0
 | p :: r=>leastFold p.2 r
theorem leastFold_snoc (l:List (Int × Int)):∀ (m:Int) (p:Int × Int),leastFold m (l ++ [p])=min (leastFold m l) p.2:=by
 induction l with
 | nil=>intro m p;rfl
 | cons q r ih=>intro m p;exact ih _ p
theorem leastFold_is (l:List (Int × Int)):∀ m:Int,leastFold m l=m ∨ ∃ p,p ∈ l ∧ leastFold m l=p.2:=by
 induction l with
 | nil=>intro m;exact .inl rfl
 | cons q r ih=>
  intro m
  show leastFold (min m q.2) r=m ∨ ∃ p,p ∈ q :: r ∧ leastFold (min m q.2) r=p.2
  rcases ih (min m q.2) with h | ⟨p,hp,h⟩
  ·
   rw [h]
   by_cases hm:m ≤ q.2
   · exact .inl (by omega)
   · exact .inr ⟨q,List.mem_cons_self ..,by omega⟩
  · exact .inr ⟨p,List.mem_cons_of_mem _ hp,h⟩
theorem leastR_is (ls:List (Int × Int)) (h:1 ≤ ls.length):∃ p,p ∈ ls ∧ leastR ls=p.2:=by
 cases ls with
 | nil=>simp at h
 | cons q r=>
  rcases leastFold_is r q.2 with h | ⟨p,hp,h⟩
  · exact ⟨q,List.mem_cons_self ..,h⟩
  · exact ⟨p,List.mem_cons_of_mem _ hp,h⟩
theorem turns_far {per:Int} {ls:List (Int × Int)} (h:okCurve ls) (hper:1 ≤ per) (hs:leastR ls * per ≤ 1000):turns per ls 20019999=true:=by
 have hm:=lastC_mem 20019999 ls h.1
 have hpos:∀ p,p ∈ ls → 0 ≤ p.2:=fun p hp=>(okLine_true (h.2.2 p hp)).2.2.1
 have hmax:=lastC_max 20019999 ls hpos
 have hok:=okLine_true (h.2.2 _ hm)
 obtain ⟨s,hsm,hse⟩:=leastR_is ls h.1
 rw [hse] at hs
 have hsk:=okLine_true (h.2.2 s hsm)
 have hl:=hmax s hsm
 unfold turns
 generalize lastC 20019999 ls=z at *
 have e1:miss z.1 20019999=20019999 - z.1:=by unfold miss;omega
 have e2:miss s.1 20019999=20019999 - s.1:=by unfold miss;omega
 refine decide_eq_true ⟨by omega,?_⟩
 rcases Int.lt_or_le 1000 (z.2 * per) with hf | hf
 ·
  exfalso
  have hlt:s.2 < z.2:=by
   rcases Int.lt_or_le s.2 z.2 with h | h
   · exact h
   ·
    have:=Int.mul_le_mul_of_nonneg_right h (show 0 ≤ per by omega)
    omega
  have hs1:s.2 ≤ 1000:=by
   have:=Int.mul_le_mul_of_nonneg_left hper hsk.2.2.1
   omega
  have:=(laterB_false hl).2 (by omega)
  rw [e1,e2] at this
  have a1:=Int.mul_le_mul_of_nonneg_right (show 19999999 ≤ 20019999 - s.1 by omega) (show 0 ≤ z.2 by omega)
  have a2:=Int.mul_le_mul_of_nonneg_right (show 20019999 - z.1 ≤ 20019998 by omega) hsk.2.2.1
  omega
 · exact hf
theorem turns_one {per:Int} {ls:List (Int × Int)} (h:okCurve ls):turns per ls 1=false:=by
 have hm:=lastC_mem 1 ls h.1
 have hok:=okLine_true (h.2.2 _ hm)
 unfold turns
 generalize lastC 1 ls=z at *
 refine decide_eq_false fun h=>?_
 have:=h.1
 unfold miss at this
 omega
def busyB (per:Int) (ls:List (Int × Int)) (n:Int):Bool:=decide (curveAt (per * n) ls ≤ n)
theorem busy_slow {per n:Int} {ls:List (Int × Int)} (h:okCurve ls) (hper:1 ≤ per) (hn:1 ≤ n) (hq:busyB per ls n=true) :
  ∃ p,p ∈ ls ∧ p.1 ≤ n ∧ p.2 * per < 1000 ∧ p.2 * (per * n) < 1000 * (n - p.1+1):=by
 have hq':curveAt (per * n) ls ≤ n:=of_decide_eq_true hq
 obtain ⟨p,hp,e⟩:=curveAt_is (per * n) ls h.1
 rw [e] at hq'
 have hok:=okLine_true (h.2.2 p hp)
 unfold lineAt at hq'
 have h1:p.2 * (per * n) < 1000 * (n - p.1+1):=by omega
 have hlt:p.2 * per < 1000:=by
  rcases Int.lt_or_le (p.2 * per) 1000 with h | h
  · exact h
  ·
   have:=Int.mul_le_mul_of_nonneg_right h (show 0 ≤ n by omega)
   rw [Int.mul_assoc] at this
   omega
 refine ⟨p,hp,?_,hlt,h1⟩
 rcases Int.lt_or_le n p.1 with h2 | h2
 ·
  have:=Int.mul_nonneg hok.2.2.1 (Int.mul_nonneg (show 0 ≤ per by omega) (show 0 ≤ n by omega))
  omega
 · exact h2
theorem busy_step {per n:Int} {ls:List (Int × Int)} (h:okCurve ls) (hper:1 ≤ per) (hn:1 ≤ n) (hq:busyB per ls n=true):busyB per ls (n+1)=true:=by
 obtain ⟨p,hp,_,h1,h2⟩:=busy_slow h hper hn hq
 have:=curveAt_le (per * (n+1)) ls p hp
 refine decide_eq_true ?_
 unfold lineAt at this
 have e:p.2 * (per * (n+1))=p.2 * (per * n)+p.2 * per:=by rw [Int.mul_add,Int.mul_add,Int.mul_one]
 rw [e] at this
 omega
theorem busy_on {per:Int} {ls:List (Int × Int)} (h:okCurve ls) (hper:1 ≤ per) (k:Nat):∀ n:Int,1 ≤ n → busyB per ls n=true → busyB per ls (n+k)=true:=by
 induction k with
 | zero=>intro n _ hq;simpa using hq
 | succ k ih=>
  intro n hn hq
  have:=ih (n+1) (by omega) (busy_step h hper hn hq)
  rw [show n+((k+1:Nat):Int)=n+1+k by omega]
  exact this
theorem busy_le {per m n:Int} {ls:List (Int × Int)} (h:okCurve ls) (hper:1 ≤ per) (hm:1 ≤ m) (hmn:m ≤ n) (hq:busyB per ls m=true):busyB per ls n=true:=by
 have:=busy_on (per:=per) h hper (n - m).toNat m hm hq
 rw [show m+((n - m).toNat:Int)=n by omega] at this
 exact this
end Go.Proofs.YtipdclphpkgceaaGreatDoor

namespace Go.Proofs.YtipdclphpkgceaaGreatDoor
open Go.RowKit
theorem miss_if (x n:Int):(if n - x < 0 then 0 else n - x)=miss x n:=by unfold miss;split <;> omega
theorem miss_bd {x n:Int} (hx:1 ≤ x) (hn:0 ≤ n):0 ≤ miss x n ∧ miss x n ≤ n:=by unfold miss;omega
theorem missing_any (x y n:Int) (w:World) (hx:1 ≤ x) (hx2:x ≤ 20000) (hn:0 ≤ n) (hn2:n ≤ 20020000) :
  Calls Tryz.prog 92 #[.agg #[.int .i64 x,.int .i64 y],.int .i64 n] w fun e w'=>e=.returned (.int .i64 (miss x n)) ∧ Below w.heap.size w w':=by
 go_enter Tryz.func92,Tryz.ntmps92
 go_wp2
 all_goals
  go_ret
  exact ⟨congrArg (fun z=>Ending.returned (.int .i64 z)) (by unfold miss;omega),(Below.refl _ _).alloc (Nat.le_refl _) _⟩
theorem laterB_zero {p q:Int × Int} {n:Int} (h:miss q.1 n=0):laterB p q n=decide (0 < miss p.1 n):=by unfold laterB;rw [if_pos h]
theorem laterB_some {p q:Int × Int} {n:Int} (h:miss q.1 n ≠ 0):laterB p q n=decide (miss q.1 n * p.2 < miss p.1 n * q.2):=by unfold laterB;rw [if_neg h]
theorem prod_bd {m y:Int} (hm:0 ≤ m) (hm2:m ≤ 20020000) (hy:0 ≤ y) (hy2:y ≤ 100000):0 ≤ m * y ∧ m * y ≤ 2002000000000:=by
 refine ⟨Int.mul_nonneg hm hy,?_⟩
 have a:=Int.mul_le_mul_of_nonneg_right hm2 hy
 omega
theorem isLater_any (x y x2 y2 n:Int) (w:World) (hx:1 ≤ x) (hx2:x ≤ 20000) (hy:0 ≤ y) (hy2:y ≤ 100000) (gx:1 ≤ x2) (gx2:x2 ≤ 20000) (gy:0 ≤ y2) (gy2:y2 ≤ 100000) (hn:0 ≤ n) (hn2:n ≤ 20020000) :
  Calls Tryz.prog 122 #[.agg #[.int .i64 x,.int .i64 y],.agg #[.int .i64 x2,.int .i64 y2],.int .i64 n] w fun e w'=>e=.returned (.bool (laterB (x,y) (x2,y2) n)) ∧ Below w.heap.size w w':=by
 have hbW:Below w.heap.size w ((w.alloc (.cells #[.int .i64 x,.int .i64 y] 83)).alloc (.cells #[.int .i64 x2,.int .i64 y2] 83)):=((Below.refl _ _).alloc (Nat.le_refl _) _).alloc (by simp) _
 have c0:((w.alloc (.cells #[.int .i64 x,.int .i64 y] 83)).alloc (.cells #[.int .i64 x2,.int .i64 y2] 83)).cell? ⟨w.heap.size,0,none⟩=some (.int .i64 x):=by simp
 have c1:((w.alloc (.cells #[.int .i64 x,.int .i64 y] 83)).alloc (.cells #[.int .i64 x2,.int .i64 y2] 83)).cell? ⟨w.heap.size,1,none⟩=some (.int .i64 y):=by simp
 have c2:((w.alloc (.cells #[.int .i64 x,.int .i64 y] 83)).alloc (.cells #[.int .i64 x2,.int .i64 y2] 83)).cell? ⟨w.heap.size+1,0,none⟩=some (.int .i64 x2):=by simp
 have c3:((w.alloc (.cells #[.int .i64 x,.int .i64 y] 83)).alloc (.cells #[.int .i64 x2,.int .i64 y2] 83)).cell? ⟨w.heap.size+1,1,none⟩=some (.int .i64 y2):=by simp
 have mb1:=miss_bd hx hn
 have mb2:=miss_bd gx hn
 go_enter Tryz.func122,Tryz.ntmps122
 go_upto_region 1 with fail
 generalize (w.alloc (.cells #[.int .i64 x,.int .i64 y] 83)).alloc (.cells #[.int .i64 x2,.int .i64 y2] 83)=W at *
 have HBW:Hid (Below w.heap.size w W):=hbW
 clear hbW
 go_cut [7,8] (fun s7 s8 wx=>s7=.int .i64 (miss x n) ∧ s8=.int .i64 (miss x2 n) ∧ Below W.heap.size W wx)
 case first=>
  go_region_with (first
   | (go_at_call_of 92 (Value.agg #[.int .i64 x2,.int .i64 y2]);go_must (refine (missing_any x2 y2 n _ gx gx2 hn hn2).mono ?_;rintro e wb ⟨rfl,hbb⟩;have HBb:Hid (Below W.heap.size W wb):=HBa.out.trans (hbb.mono HBa.out.size);clear hbb))
   | (go_at_call_of 92 (Value.agg #[.int .i64 x,.int .i64 y]);go_must (refine (missing_any x y n _ hx hx2 hn hn2).mono ?_;rintro e wa ⟨rfl,hba⟩;have HBa:Hid (Below W.heap.size W wa):=⟨hba.os,hba.tape,hba.output,hba.size,hba.block⟩;have d2:=cell_later HBa.out c2;have d3:=cell_later HBa.out c3;clear hba))
   | fail)
  all_goals (go_wp2_with fail;go_meet;exact ⟨rfl,rfl,HBb.out⟩)
 case rest=>
 obtain ⟨rfl,rfl,hbc⟩:=hcut
 have HBC:Hid (Below w.heap.size w wc):=HBW.out.trans (hbc.mono HBW.out.size)
 have e1:=cell_later hbc c1
 have e3:=cell_later hbc c3
 clear hbc c0 c1 c2 c3
 have HZ:Hid (miss (x2,y2).1 n=0 → laterB (x,y) (x2,y2) n=decide (0 < miss x n)):=fun h=>laterB_zero h
 have HS:Hid (miss (x2,y2).1 n ≠ 0 → laterB (x,y) (x2,y2) n=decide (miss x2 n * y < miss x n * y2)):=fun h=>laterB_some h
 obtain ⟨A,hA⟩:∃ A,miss x n=A:=⟨_,rfl⟩
 obtain ⟨B,hB⟩:∃ B,miss x2 n=B:=⟨_,rfl⟩
 have HA:Hid (miss x n=A):=hA
 have HB:Hid (miss x2 n=B):=hB
 rw [hA] at mb1 ⊢
 rw [hB] at mb2 ⊢
 clear hA hB
 obtain ⟨m1,m2⟩:=mb1
 obtain ⟨m3,m4⟩:=mb2
 obtain ⟨p1,p2⟩:=prod_bd m1 (by omega) gy gy2
 obtain ⟨p3,p4⟩:=prod_bd m3 (by omega) hy hy2
 by_cases hz:B=0
 ·
  have hz':(B == 0)=true:=by simpa using hz
  have HR:Hid (laterB (x,y) (x2,y2) n=decide (0 < A)):=by show _=_;rw [HZ.out (by show miss x2 n=0;rw [HB.out];exact hz),HA.out]
  clear hz
  go_wp2_with fail
  go_ret
  exact ⟨congrArg (fun z=>Ending.returned (.bool z)) HR.out.symm,HBC.out⟩
 ·
  have hz':(B == 0)=false:=by simpa using hz
  have HR:Hid (laterB (x,y) (x2,y2) n=decide (B * y < A * y2)):=by show _=_;rw [HS.out (by show miss x2 n ≠ 0;rw [HB.out];exact hz),HA.out,HB.out]
  clear hz
  go_wp2_with fail
  go_ret
  exact ⟨congrArg (fun z=>Ending.returned (.bool z)) HR.out.symm,HBC.out⟩
theorem comes_any (x y n:Int) (w:World) (hx:1 ≤ x) (hx2:x ≤ 20000) (hy:0 ≤ y) (hy2:y ≤ 100000) (hn:0 ≤ n) (hn2:n ≤ 20020000) (hk:miss x n=0 ∨ 0 < y) :
  Calls Tryz.prog 123 #[.agg #[.int .i64 x,.int .i64 y],.int .i64 n] w fun e w'=>e=.returned (.int .i64 (comesAt (x,y) n)) ∧ Below w.heap.size w w':=by
 have mb:=miss_bd hx hn
 obtain ⟨A,hA⟩:∃ A,miss x n=A:=⟨_,rfl⟩
 have HA:Hid (miss x n=A):=hA
 have HC:Hid (comesAt (x,y) n=if A=0 then 0 else (A * 1000+y - 1) / y):=by show _=_;unfold comesAt;rw [show miss (x,y).1 n=A from hA]
 rw [hA] at mb hk
 clear hA
 obtain ⟨m1,m2⟩:=mb
 by_cases hz:A=0
 ·
  subst hz
  go_enter Tryz.func123,Tryz.ntmps123
  go_wp2_with fail
  refine (missing_any x y n _ hx hx2 hn hn2).mono ?_
  rintro e w1 ⟨rfl,hb⟩
  rw [HA.out]
  have HB:Hid (Below w.heap.size w w1):=((Below.refl _ _).alloc (Nat.le_refl _) _).trans (hb.mono (by simp))
  clear hb
  go_wp2_with fail
  go_ret
  exact ⟨congrArg (fun z=>Ending.returned (.int .i64 z)) (by rw [HC.out];simp),HB.out⟩
 ·
  have hz':(A == 0)=false:=by simpa using hz
  have hy0:0 < y:=by omega
  have hyne:(y == 0)=false:=by simp;omega
  have HR:Hid (comesAt (x,y) n=(A * 1000+y - 1) / y):=by show _=_;rw [HC.out,if_neg hz]
  clear hk hz
  go_enter Tryz.func123,Tryz.ntmps123
  go_wp2_with fail
  refine (missing_any x y n _ hx hx2 hn hn2).mono ?_
  rintro e w1 ⟨rfl,hb⟩
  rw [HA.out]
  have HB:Hid (Below w.heap.size w w1):=((Below.refl _ _).alloc (Nat.le_refl _) _).trans (hb.mono (by simp))
  have d1:w1.cell? ⟨w.heap.size,1,none⟩=some (.int .i64 y):=cell_later hb (by simp)
  clear hb
  go_wp2_with fail
  go_ret
  exact ⟨congrArg (fun z=>Ending.returned (.int .i64 z)) HR.out.symm,HB.out⟩
theorem lastOf_snoc (n:Int) (r:List (Int × Int)):∀ (x y:Int × Int),lastOf n x (r ++ [y])=if laterB y (lastOf n x r) n=true then y else lastOf n x r:=by
 induction r with
 | nil=>intro x y;rfl
 | cons z r ih=>intro x y;exact ih _ y
theorem lies_tail {w:World} {b off:Nat} {x0 y0:Int} {r:List (Int × Int)} (hc:∀ i x y,((x0,y0) :: r)[i]? = some (x,y) → w.cell? ⟨b,off+i * 2,none⟩=some (.int .i64 x) ∧ w.cell? ⟨b,off+i * 2+1,none⟩=some (.int .i64 y)) :
  (w.cell? ⟨b,off,none⟩=some (.int .i64 x0) ∧ w.cell? ⟨b,off+1,none⟩=some (.int .i64 y0)) ∧ ∀ i x y,r[i]? = some (x,y) → w.cell? ⟨b,off+2+i * 2,none⟩=some (.int .i64 x) ∧ w.cell? ⟨b,off+2+i * 2+1,none⟩=some (.int .i64 y):=by
 have ha:=hc 0 x0 y0 rfl
 refine ⟨⟨by simpa using ha.1,by simpa using ha.2⟩,fun i x y hi=>?_⟩
 have:=hc (i+1) x y (by simpa using hi)
 rw [show off+(i+1) * 2=off+2+i * 2 by omega] at this
 exact this
theorem leastRate_ok (a:Option Addr) (cap:Nat) (ls:List (Int × Int)) (w:World) (hl:Lies w a ls) (h:okCurve ls) (hcap:ls.length ≤ cap) (hm:cap ≤ maxLen) :
  Calls Tryz.prog 60 #[.slice a ls.length cap] w fun e w'=>e=.returned (.int .i64 (leastR ls)) ∧ Below w.heap.size w w':=by
 obtain ⟨h1,h6,hok⟩:=h
 obtain ⟨b,off,rfl,hlt,hc⟩:=hl.some h1
 clear hl
 unfold maxLen at hm
 obtain ⟨x0,y0,r,rfl⟩:∃ x y r,ls=(x,y) :: r:=by
  cases ls with
  | nil=>simp at h1
  | cons p r=>exact ⟨p.1,p.2,r,rfl⟩
 obtain ⟨n,hn⟩:∃ n,r.length=n:=⟨_,rfl⟩
 have Hn:=(show Hid (r.length=n) from hn)
 have h6':n ≤ 5:=by simp at h6;omega
 have hcap':n+1 ≤ cap:=by simp at hcap;omega
 rw [show ((x0,y0) :: r).length=n+1 by simp [hn]]
 clear h1 h6 hcap hn
 obtain ⟨⟨hx0,hy0⟩,hr⟩:=lies_tail hc
 have HR:Hid (∀ i x y,r[i]? = some (x,y) → w.cell? ⟨b,off+2+i * 2,none⟩=some (.int .i64 x) ∧ w.cell? ⟨b,off+2+i * 2+1,none⟩=some (.int .i64 y)):=hr
 have HL:Hid (leastR ((x0,y0) :: r)=leastFold y0 r):=rfl
 clear hok hc hr
 by_cases hc1:cap=1
 ·
  subst hc1
  obtain rfl:n=0:=by omega
  have hr0:r=[]:=List.length_eq_zero_iff.1 Hn.out
  subst hr0
  clear HR Hn
  go_enter Tryz.func60,Tryz.ntmps60
  go_wp2
  refine wp_loop_rounds 1 ?_
  rw [rounds_succ]
  go_wp2
  go_ret
  exact ⟨rfl,Below.refl _ _⟩
 ·
  have hc2:1 < cap:=by omega
  clear hc1
  go_enter Tryz.func60,Tryz.ntmps60
  go_wp2
  go_loopw [3,13] (fun m i wr=>∃ k:Nat,k ≤ n ∧ i=.int .i64 k ∧ m=.int .i64 (leastFold y0 (r.take k)) ∧ Below w.heap.size w wr) (fun _ i _=>n - (intOf i).toNat)
  case atStart=>exact ⟨0,Nat.zero_le _,rfl,rfl,Below.refl _ _⟩
  case round=>
   obtain ⟨k,hk,rfl,rfl,hb⟩:=hrel
   have hs:=hb.size
   by_cases hkn:k < n
   ·
    obtain ⟨⟨x,y⟩,hp,-⟩:=get_some r k (by rw [Hn.out];exact hkn)
    have hc1:wr.cell? ⟨b,off+2+k * 2,none⟩=some (.int .i64 x):=by rw [hb.cell (p:=⟨b,off+2+k * 2,none⟩) hlt];exact (HR.out k x y hp).1
    have hc2:wr.cell? ⟨b,off+2+k * 2+1,none⟩=some (.int .i64 y):=by rw [hb.cell (p:=⟨b,off+2+k * 2+1,none⟩) hlt];exact (HR.out k x y hp).2
    have hts:r.take (k+1)=r.take k ++ [(x,y)]:=by rw [List.take_add_one,hp];rfl
    have HS:Hid (leastFold y0 (r.take (k+1))=min (leastFold y0 (r.take k)) y):=by show _=_;rw [hts];exact leastFold_snoc _ _ _
    obtain ⟨M,hM⟩:∃ M,leastFold y0 (r.take k)=M:=⟨_,rfl⟩
    rw [hM]
    have HM:Hid (leastFold y0 (r.take k)=M):=hM
    clear hM hts hp
    go_wp2
    all_goals
     go_roundw
     case rel=>
      refine ⟨k+1,by omega,by go_num,?_,hb.alloc hs _⟩
      rw [HS.out,HM.out]
      all_goals first | exact congrArg (Value.int .i64) (min_if _ _) | exact congrArg (Value.int .i64) (by omega)
     case measure=>simp [intOf];omega
   ·
    go_wp2
    go_ret
    refine ⟨congrArg (fun z=>Ending.returned (.int .i64 z)) ?_,hb⟩
    rw [List.take_of_length_le (by rw [Hn.out];omega)]
    exact HL.out.symm
end Go.Proofs.YtipdclphpkgceaaGreatDoor
