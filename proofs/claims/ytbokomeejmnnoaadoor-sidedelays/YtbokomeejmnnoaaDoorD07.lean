/- Own facts, put together: no statement of its own. -/
import Derived.Deep.DeepCutAuto
import Derived.Deep.RegionLaw
import Derived.Test.YtbokomeejmnnoaaDoorD06
import Derived.Test.YtbokomeejmnnoaaDoorD05
set_option maxHeartbeats 1000000
set_option maxRecDepth 100000

namespace Go.Proofs.YtbokomeejmnnoaaDoor
open Go.RowKit
theorem miss_if (x n:Int):(if n - x < 0 then 0 else n - x)=miss x n:=by unfold miss;split <;> omega
theorem miss_bd {x n:Int} (hx:1 ≤ x) (hn:0 ≤ n):0 ≤ miss x n ∧ miss x n ≤ n:=by unfold miss;omega
theorem missing_any (x y n:Int) (w:World) (hx:1 ≤ x) (hx2:x ≤ 20000) (hn:0 ≤ n) (hn2:n ≤ 20020000) :
  Calls Tryd.prog 32 #[.agg #[.int .i64 x,.int .i64 y],.int .i64 n] w fun e w'=>e=.returned (.int .i64 (miss x n)) ∧ Below w.heap.size w w':=by
 go_enter Tryd.func32,Tryd.ntmps32
 go_wp2
 all_goals
  go_ret
  exact ⟨congrArg (fun z=>Ending.returned (.int .i64 z)) (by unfold miss;omega),(Below.refl _ _).alloc (Nat.le_refl _) _⟩
theorem laterB_zero {p q:Int × Int} {n:Int} (h:miss q.1 n=0):laterB p q n=decide (0 < miss p.1 n):=by unfold laterB;rw [if_pos h]
theorem laterB_some {p q:Int × Int} {n:Int} (h:miss q.1 n ≠ 0):laterB p q n=decide (miss q.1 n * p.2 < miss p.1 n * q.2):=by unfold laterB;rw [if_neg h]
theorem prod_bd {m y:Int} (hm:0 ≤ m) (hm2:m ≤ 20020000) (hy:0 ≤ y) (hy2:y ≤ 100000):0 ≤ m * y ∧ m * y ≤ 2002000000000:=by
 refine ⟨Int.mul_nonneg hm hy,?_⟩
 have a:=Int.mul_le_mul_of_nonneg_right hm2 hy
 omega
theorem isLater_any (x y x2 y2 n:Int) (w:World) (hx:1 ≤ x) (hx2:x ≤ 20000) (hy:0 ≤ y) (hy2:y ≤ 100000) (gx:1 ≤ x2) (gx2:x2 ≤ 20000) (gy:0 ≤ y2) (gy2:y2 ≤ 100000) (hn:0 ≤ n) (hn2:n ≤ 20020000) :
  Calls Tryd.prog 56 #[.agg #[.int .i64 x,.int .i64 y],.agg #[.int .i64 x2,.int .i64 y2],.int .i64 n] w fun e w'=>e=.returned (.bool (laterB (x,y) (x2,y2) n)) ∧ Below w.heap.size w w':=by
 have hbW:Below w.heap.size w ((w.alloc (.cells #[.int .i64 x,.int .i64 y] 42)).alloc (.cells #[.int .i64 x2,.int .i64 y2] 42)):=((Below.refl _ _).alloc (Nat.le_refl _) _).alloc (by simp) _
 have c0:((w.alloc (.cells #[.int .i64 x,.int .i64 y] 42)).alloc (.cells #[.int .i64 x2,.int .i64 y2] 42)).cell? ⟨w.heap.size,0,none⟩=some (.int .i64 x):=by simp
 have c1:((w.alloc (.cells #[.int .i64 x,.int .i64 y] 42)).alloc (.cells #[.int .i64 x2,.int .i64 y2] 42)).cell? ⟨w.heap.size,1,none⟩=some (.int .i64 y):=by simp
 have c2:((w.alloc (.cells #[.int .i64 x,.int .i64 y] 42)).alloc (.cells #[.int .i64 x2,.int .i64 y2] 42)).cell? ⟨w.heap.size+1,0,none⟩=some (.int .i64 x2):=by simp
 have c3:((w.alloc (.cells #[.int .i64 x,.int .i64 y] 42)).alloc (.cells #[.int .i64 x2,.int .i64 y2] 42)).cell? ⟨w.heap.size+1,1,none⟩=some (.int .i64 y2):=by simp
 have mb1:=miss_bd hx hn
 have mb2:=miss_bd gx hn
 go_enter Tryd.func56,Tryd.ntmps56
 go_upto_region 1 with fail
 generalize (w.alloc (.cells #[.int .i64 x,.int .i64 y] 42)).alloc (.cells #[.int .i64 x2,.int .i64 y2] 42)=W at *
 have HBW:Hid (Below w.heap.size w W):=hbW
 clear hbW
 go_cut [7,8] (fun s7 s8 wx=>s7=.int .i64 (miss x n) ∧ s8=.int .i64 (miss x2 n) ∧ Below W.heap.size W wx)
 case first=>
  go_region_with (first
   | (go_at_call_of 32 (Value.agg #[.int .i64 x2,.int .i64 y2]);go_must (refine (missing_any x2 y2 n _ gx gx2 hn hn2).mono ?_;rintro e wb ⟨rfl,hbb⟩;have HBb:Hid (Below W.heap.size W wb):=HBa.out.trans (hbb.mono HBa.out.size);clear hbb))
   | (go_at_call_of 32 (Value.agg #[.int .i64 x,.int .i64 y]);go_must (refine (missing_any x y n _ hx hx2 hn hn2).mono ?_;rintro e wa ⟨rfl,hba⟩;have HBa:Hid (Below W.heap.size W wa):=⟨hba.os,hba.tape,hba.output,hba.size,hba.block⟩;have d2:=cell_later HBa.out c2;have d3:=cell_later HBa.out c3;clear hba))
   | fail)
  all_goals (go_wp2_with fail;go_meet;exact ⟨rfl,rfl,HBb.out⟩)
 case rest=>
 obtain ⟨rfl,rfl,hbc⟩:=hcut
 have HBC:Hid (Below w.heap.size w wc):=HBW.out.trans (hbc.mono HBW.out.size)
 have e1:=cell_later hbc c1
 have e3:=cell_later hbc c3
 clear hbc c0 c1 c2 c3
 have HZ:Hid (miss (x2,y2).1 n=0 → laterB (x,y) (x2,y2) n=decide (0 < miss x n)):=fun h=>laterB_zero h
 have HS:Hid (miss (x2,y2).1 n ≠ 0 → laterB (x,y) (x2,y2) n=decide (miss x2 n * y < miss x n * y2)):=fun h=>laterB_some h
 obtain ⟨A,hA⟩:∃ A,miss x n=A:=⟨_,rfl⟩
 obtain ⟨B,hB⟩:∃ B,miss x2 n=B:=⟨_,rfl⟩
 have HA:Hid (miss x n=A):=hA
 have HB:Hid (miss x2 n=B):=hB
 rw [hA] at mb1 ⊢
 rw [hB] at mb2 ⊢
 clear hA hB
 obtain ⟨m1,m2⟩:=mb1
 obtain ⟨m3,m4⟩:=mb2
 obtain ⟨p1,p2⟩:=prod_bd m1 (by omega) gy gy2
 obtain ⟨p3,p4⟩:=prod_bd m3 (by omega) hy hy2
 by_cases hz:B=0
 ·
  have hz':(B == 0)=true:=by simpa using hz
  have HR:Hid (laterB (x,y) (x2,y2) n=decide (0 < A)):=by show _=_;rw [HZ.out (by show miss x2 n=0;rw [HB.out];exact hz),HA.out]
  clear hz
  go_wp2_with fail
  go_ret
  exact ⟨congrArg (fun z=>Ending.returned (.bool z)) HR.out.symm,HBC.out⟩
 ·
  have hz':(B == 0)=false:=by simpa using hz
  have HR:Hid (laterB (x,y) (x2,y2) n=decide (B * y < A * y2)):=by show _=_;rw [HS.out (by show miss x2 n ≠ 0;rw [HB.out];exact hz),HA.out,HB.out]
  clear hz
  go_wp2_with fail
  go_ret
  exact ⟨congrArg (fun z=>Ending.returned (.bool z)) HR.out.symm,HBC.out⟩
theorem comes_any (x y n:Int) (w:World) (hx:1 ≤ x) (hx2:x ≤ 20000) (hy:0 ≤ y) (hy2:y ≤ 100000) (hn:0 ≤ n) (hn2:n ≤ 20020000) (hk:miss x n=0 ∨ 0 < y) :
  Calls Tryd.prog 57 #[.agg #[.int .i64 x,.int .i64 y],.int .i64 n] w fun e w'=>e=.returned (.int .i64 (comesAt (x,y) n)) ∧ Below w.heap.size w w':=by
 have mb:=miss_bd hx hn
 obtain ⟨A,hA⟩:∃ A,miss x n=A:=⟨_,rfl⟩
 have HA:Hid (miss x n=A):=hA
 have HC:Hid (comesAt (x,y) n=if A=0 then 0 else (A * 1000+y - 1) / y):=by show _=_;unfold comesAt;rw [show miss (x,y).1 n=A from hA]
 rw [hA] at mb hk
 clear hA
 obtain ⟨m1,m2⟩:=mb
 by_cases hz:A=0
 ·
  subst hz
  go_enter Tryd.func57,Tryd.ntmps57
  go_wp2_with fail
  refine (missing_any x y n _ hx hx2 hn hn2).mono ?_
  rintro e w1 ⟨rfl,hb⟩
  rw [HA.out]
  have HB:Hid (Below w.heap.size w w1):=((Below.refl _ _).alloc (Nat.le_refl _) _).trans (hb.mono (by simp))
  clear hb
  go_wp2_with fail
  go_ret
  exact ⟨congrArg (fun z=>Ending.returned (.int .i64 z)) (by rw [HC.out];simp),HB.out⟩
 ·
  have hz':(A == 0)=false:=by simpa using hz
  have hy0:0 < y:=by omega
  have hyne:(y == 0)=false:=by simp;omega
  have HR:Hid (comesAt (x,y) n=(A * 1000+y - 1) / y):=by show _=_;rw [HC.out,if_neg hz]
  clear hk hz
  go_enter Tryd.func57,Tryd.ntmps57
  go_wp2_with fail
  refine (missing_any x y n _ hx hx2 hn hn2).mono ?_
  rintro e w1 ⟨rfl,hb⟩
  rw [HA.out]
  have HB:Hid (Below w.heap.size w w1):=((Below.refl _ _).alloc (Nat.le_refl _) _).trans (hb.mono (by simp))
  have d1:w1.cell? ⟨w.heap.size,1,none⟩=some (.int .i64 y):=cell_later hb (by simp)
  clear hb
  go_wp2_with fail
  go_ret
  exact ⟨congrArg (fun z=>Ending.returned (.int .i64 z)) HR.out.symm,HB.out⟩
theorem lastOf_snoc (n:Int) (r:List (Int × Int)):∀ (x y:Int × Int),lastOf n x (r ++ [y])=if laterB y (lastOf n x r) n=true then y else lastOf n x r:=by
 induction r with
 | nil=>intro x y;rfl
 | cons z r ih=>intro x y;exact ih _ y
theorem lies_tail {w:World} {b off:Nat} {x0 y0:Int} {r:List (Int × Int)} (hc:∀ i x y,((x0,y0) :: r)[i]? = some (x,y) → w.cell? ⟨b,off+i * 2,none⟩=some (.int .i64 x) ∧ w.cell? ⟨b,off+i * 2+1,none⟩=some (.int .i64 y)) :
  (w.cell? ⟨b,off,none⟩=some (.int .i64 x0) ∧ w.cell? ⟨b,off+1,none⟩=some (.int .i64 y0)) ∧ ∀ i x y,r[i]? = some (x,y) → w.cell? ⟨b,off+2+i * 2,none⟩=some (.int .i64 x) ∧ w.cell? ⟨b,off+2+i * 2+1,none⟩=some (.int .i64 y):=by
 have ha:=hc 0 x0 y0 rfl
 refine ⟨⟨by simpa using ha.1,by simpa using ha.2⟩,fun i x y hi=>?_⟩
 have:=hc (i+1) x y (by simpa using hi)
 rw [show off+(i+1) * 2=off+2+i * 2 by omega] at this
 exact this
theorem leastRate_ok (a:Option Addr) (cap:Nat) (ls:List (Int × Int)) (w:World) (hl:Lies w a ls) (h:okCurve ls) (hcap:ls.length ≤ cap) (hm:cap ≤ maxLen) :
  Calls Tryd.prog 18 #[.slice a ls.length cap] w fun e w'=>e=.returned (.int .i64 (leastR ls)) ∧ Below w.heap.size w w':=by
 obtain ⟨h1,h6,hok⟩:=h
 obtain ⟨b,off,rfl,hlt,hc⟩:=hl.some h1
 clear hl
 unfold maxLen at hm
 obtain ⟨x0,y0,r,rfl⟩:∃ x y r,ls=(x,y) :: r:=by
  cases ls with
  | nil=>simp at h1
  | cons p r=>exact ⟨p.1,p.2,r,rfl⟩
 obtain ⟨n,hn⟩:∃ n,r.length=n:=⟨_,rfl⟩
 have Hn:=(show Hid (r.length=n) from hn)
 have h6':n ≤ 5:=by simp at h6;omega
 have hcap':n+1 ≤ cap:=by simp at hcap;omega
 rw [show ((x0,y0) :: r).length=n+1 by simp [hn]]
 clear h1 h6 hcap hn
 obtain ⟨⟨hx0,hy0⟩,hr⟩:=lies_tail hc
 have HR:Hid (∀ i x y,r[i]? = some (x,y) → w.cell? ⟨b,off+2+i * 2,none⟩=some (.int .i64 x) ∧ w.cell? ⟨b,off+2+i * 2+1,none⟩=some (.int .i64 y)):=hr
 have HL:Hid (leastR ((x0,y0) :: r)=leastFold y0 r):=rfl
 clear hok hc hr
 by_cases hc1:cap=1
 ·
  subst hc1
  obtain rfl:n=0:=by omega
  have hr0:r=[]:=List.length_eq_zero_iff.1 Hn.out
  subst hr0
  clear HR Hn
  go_enter Tryd.func18,Tryd.ntmps18
  go_wp2
  refine wp_loop_rounds 1 ?_
  rw [rounds_succ]
  go_wp2
  go_ret
  exact ⟨rfl,Below.refl _ _⟩
 ·
  have hc2:1 < cap:=by omega
  clear hc1
  go_enter Tryd.func18,Tryd.ntmps18
  go_wp2
  go_loopw [3,13] (fun m i wr=>∃ k:Nat,k ≤ n ∧ i=.int .i64 k ∧ m=.int .i64 (leastFold y0 (r.take k)) ∧ Below w.heap.size w wr) (fun _ i _=>n - (intOf i).toNat)
  case atStart=>exact ⟨0,Nat.zero_le _,rfl,rfl,Below.refl _ _⟩
  case round=>
   obtain ⟨k,hk,rfl,rfl,hb⟩:=hrel
   have hs:=hb.size
   by_cases hkn:k < n
   ·
    obtain ⟨⟨x,y⟩,hp,-⟩:=get_some r k (by rw [Hn.out];exact hkn)
    have hc1:wr.cell? ⟨b,off+2+k * 2,none⟩=some (.int .i64 x):=by rw [hb.cell (p:=⟨b,off+2+k * 2,none⟩) hlt];exact (HR.out k x y hp).1
    have hc2:wr.cell? ⟨b,off+2+k * 2+1,none⟩=some (.int .i64 y):=by rw [hb.cell (p:=⟨b,off+2+k * 2+1,none⟩) hlt];exact (HR.out k x y hp).2
    have hts:r.take (k+1)=r.take k ++ [(x,y)]:=by rw [List.take_add_one,hp];rfl
    have HS:Hid (leastFold y0 (r.take (k+1))=min (leastFold y0 (r.take k)) y):=by show _=_;rw [hts];exact leastFold_snoc _ _ _
    obtain ⟨M,hM⟩:∃ M,leastFold y0 (r.take k)=M:=⟨_,rfl⟩
    rw [hM]
    have HM:Hid (leastFold y0 (r.take k)=M):=hM
    clear hM hts hp
    go_wp2
    all_goals
     go_roundw
     case rel=>
      refine ⟨k+1,by omega,by go_num,?_,hb.alloc hs _⟩
      rw [HS.out,HM.out]
      all_goals first | exact congrArg (Value.int .i64) (min_if _ _) | exact congrArg (Value.int .i64) (by omega)
     case measure=>simp [intOf];omega
   ·
    go_wp2
    go_ret
    refine ⟨congrArg (fun z=>Ending.returned (.int .i64 z)) ?_,hb⟩
    rw [List.take_of_length_le (by rw [Hn.out];omega)]
    exact HL.out.symm
structure TwoB (b:Nat) (w:World) (x y:Value):Prop where
 c0:w.cell? ⟨b,0,none⟩=some x
 c1:w.cell? ⟨b,1,none⟩=some y
 f0:w.frozen? ⟨b,0,none⟩=false
 f1:w.frozen? ⟨b,1,none⟩=false
theorem TwoB.lt {b:Nat} {w:World} {x y:Value} (h:TwoB b w x y):b < w.heap.size:=cell_lt h.c0
theorem TwoB.later {b:Nat} {w w':World} {x y:Value} (h:TwoB b w x y) (hb:Below w.heap.size w w'):TwoB b w' x y:=
 ⟨cell_later hb h.c0,cell_later hb h.c1,by rw [hb.frozen (p:=⟨b,0,none⟩) h.lt];exact h.f0,by rw [hb.frozen (p:=⟨b,1,none⟩) h.lt];exact h.f1⟩
theorem twoB_new (w:World) (x y:Value) (t:TypeId):TwoB w.heap.size (w.alloc (.cells #[x,y] t)) x y:=⟨by simp,by simp,by simp,by simp⟩
theorem frozen_setCell (w:World) (p a:Addr) (v:Value):(w.setCell p v).frozen? a=w.frozen? a:=by simp
theorem TwoB.set {b:Nat} {w:World} {x y:Value} (h:TwoB b w x y) (u v:Value):TwoB b ((w.setCell ⟨b,0,none⟩ u).setCell ⟨b,1,none⟩ v) u v:=by
 have h1:(w.setCell ⟨b,0,none⟩ u).cell? ⟨b,1,none⟩=some y:=by rw [World.cell?_setCell_other _ _ _ _ (by simp)];exact h.c1
 refine ⟨?_,World.cell?_setCell_same _ _ _ h1,?_,?_⟩
 · rw [World.cell?_setCell_other _ _ _ _ (by simp)];exact World.cell?_setCell_same _ _ _ h.c0
 · rw [frozen_setCell,frozen_setCell];exact h.f0
 · rw [frozen_setCell,frozen_setCell];exact h.f1
theorem cell_far (w:World) (p a:Addr) (v:Value) (h:p.block ≠ a.block):(w.setCell p v).cell? a=w.cell? a:=World.cell?_of_block (Below.heap_setCell w p v a.block (Ne.symm h))
theorem TwoB.far {b c:Nat} {w:World} {x y:Value} (h:TwoB b w x y) (hbc:c ≠ b) (u v:Value):TwoB b ((w.setCell ⟨c,0,none⟩ u).setCell ⟨c,1,none⟩ v) x y:=by
 refine ⟨?_,?_,?_,?_⟩
 · rw [cell_far _ _ _ _ hbc,cell_far _ _ _ _ hbc];exact h.c0
 · rw [cell_far _ _ _ _ hbc,cell_far _ _ _ _ hbc];exact h.c1
 · rw [frozen_setCell,frozen_setCell];exact h.f0
 · rw [frozen_setCell,frozen_setCell];exact h.f1
theorem last_ok (a:Option Addr) (cap:Nat) (ls:List (Int × Int)) (m:Int) (w:World) (hl:Lies w a ls) (h:okCurve ls) (hcap:ls.length ≤ cap) (hm:cap ≤ maxLen) (m0:0 ≤ m) (m1:m ≤ 20020000) :
  Calls Tryd.prog 31 #[.slice a ls.length cap,.int .i64 m] w fun e w'=>e=.returned (.agg #[.int .i64 (lastC m ls).1,.int .i64 (lastC m ls).2]) ∧ Below w.heap.size w w':=by
 obtain ⟨h1,h6,hok⟩:=h
 obtain ⟨b,off,rfl,hlt,hc⟩:=hl.some h1
 clear hl
 unfold maxLen at hm
 obtain ⟨x0,y0,r,rfl⟩:∃ x y r,ls=(x,y) :: r:=by
  cases ls with
  | nil=>simp at h1
  | cons p r=>exact ⟨p.1,p.2,r,rfl⟩
 obtain ⟨n,hn⟩:∃ n,r.length=n:=⟨_,rfl⟩
 have Hn:=(show Hid (r.length=n) from hn)
 have h6':n ≤ 5:=by simp at h6;omega
 have hcap':n+1 ≤ cap:=by simp at hcap;omega
 rw [show ((x0,y0) :: r).length=n+1 by simp [hn]]
 clear h1 h6 hcap hn
 obtain ⟨⟨hx0,hy0⟩,hr⟩:=lies_tail hc
 have HR:Hid (∀ i x y,r[i]? = some (x,y) → w.cell? ⟨b,off+2+i * 2,none⟩=some (.int .i64 x) ∧ w.cell? ⟨b,off+2+i * 2+1,none⟩=some (.int .i64 y)):=hr
 have HO:Hid (okAll ((x0,y0) :: r)):=hok
 have HL:Hid (lastC m ((x0,y0) :: r)=lastOf m (x0,y0) r):=rfl
 clear hok hc hr
 -- the two blocks that the call makes first
 have hbA:Below w.heap.size w ((w.alloc (.cells #[.int .i64 0,.int .i64 0] 42)).alloc (.cells #[.int .i64 x0,.int .i64 y0] 42)):=((Below.refl _ _).alloc (Nat.le_refl _) _).alloc (by simp) _
 have hRA:TwoB w.heap.size ((w.alloc (.cells #[.int .i64 0,.int .i64 0] 42)).alloc (.cells #[.int .i64 x0,.int .i64 y0] 42)) (.int .i64 0) (.int .i64 0):=(twoB_new w _ _ _).later ((Below.refl _ _).alloc (Nat.le_refl _) _)
 have hXA:TwoB (w.heap.size+1) ((w.alloc (.cells #[.int .i64 0,.int .i64 0] 42)).alloc (.cells #[.int .i64 x0,.int .i64 y0] 42)) (.int .i64 x0) (.int .i64 y0):=by
  have:=twoB_new (w.alloc (.cells #[.int .i64 0,.int .i64 0] 42)) (.int .i64 x0) (.int .i64 y0) 42
  simpa using this
 by_cases hc1:cap=1
 ·
  subst hc1
  obtain rfl:n=0:=by omega
  have hr0:r=[]:=List.length_eq_zero_iff.1 Hn.out
  subst hr0
  clear HR Hn HO hbA hRA hXA
  go_enter Tryd.func31,Tryd.ntmps31
  go_wp2
  refine wp_loop_rounds 1 ?_
  rw [rounds_succ]
  go_wp2
  exact bodyPost_ret (v:=.agg #[.int .i64 x0,.int .i64 y0]) (by simp [results,Tryd.results31,go_sem]) rfl ⟨rfl,((Below.refl _ _).alloc (Nat.le_refl _) _).alloc (by simp) _⟩
 ·
  have hc2:1 < cap:=by omega
  clear hc1
  go_enter Tryd.func31,Tryd.ntmps31
  go_wp2
  clear hx0 hy0
  generalize (w.alloc (.cells #[.int .i64 0,.int .i64 0] 42)).alloc (.cells #[.int .i64 x0,.int .i64 y0] 42)=W at *
  go_loopw [14] (fun i wr=>∃ k:Nat,k ≤ n ∧ i=.int .i64 k ∧ Below w.heap.size w wr ∧ TwoB w.heap.size wr (.int .i64 0) (.int .i64 0) ∧ TwoB (w.heap.size+1) wr (.int .i64 (lastOf m (x0,y0) (r.take k)).1) (.int .i64 (lastOf m (x0,y0) (r.take k)).2)) (fun i _=>n - (intOf i).toNat)
  case atStart=>exact ⟨0,Nat.zero_le _,rfl,hbA,hRA,hXA⟩
  case round=>
   obtain ⟨k,hk,rfl,hb,hR,hX⟩:=hrel
   clear hbA hRA hXA
   have HB:Hid (Below w.heap.size w wr):=hb
   have H0:Hid (TwoB w.heap.size wr (.int .i64 0) (.int .i64 0)):=hR
   by_cases hkn:k < n
   ·
    obtain ⟨⟨x,y⟩,hp,hmem⟩:=get_some r k (by rw [Hn.out];exact hkn)
    have q1:wr.cell? ⟨b,off+2+k * 2,none⟩=some (.int .i64 x):=by rw [hb.cell (p:=⟨b,off+2+k * 2,none⟩) hlt];exact (HR.out k x y hp).1
    have q2:wr.cell? ⟨b,off+2+k * 2+1,none⟩=some (.int .i64 y):=by rw [hb.cell (p:=⟨b,off+2+k * 2+1,none⟩) hlt];exact (HR.out k x y hp).2
    have hts:r.take (k+1)=r.take k ++ [(x,y)]:=by rw [List.take_add_one,hp];rfl
    have HS:Hid (lastOf m (x0,y0) (r.take (k+1))=if laterB (x,y) (lastOf m (x0,y0) (r.take k)) m=true then (x,y) else lastOf m (x0,y0) (r.take k)):=by show _=_;rw [hts];exact lastOf_snoc _ _ _ _
    have hz:okLine (lastOf m (x0,y0) (r.take k)).1 (lastOf m (x0,y0) (r.take k)).2=true:=by
     rcases lastOf_mem m (r.take k) (x0,y0) with h | h
     · rw [h];exact HO.out _ (List.mem_cons_self ..)
     · exact HO.out _ (List.mem_cons_of_mem _ (List.mem_of_mem_take h))
    obtain ⟨p1,p2,p3,p4⟩:=okLine_true (HO.out _ (List.mem_cons_of_mem _ hmem))
    obtain ⟨z1,z2,z3,z4⟩:=okLine_true hz
    generalize hZ:lastOf m (x0,y0) (r.take k)=Z at *
    have HZ:Hid (lastOf m (x0,y0) (r.take k)=Z):=hZ
    obtain ⟨X,Y⟩:=Z
    simp only [] at p1 p2 p3 p4 z1 z2 z3 z4 hX
    have HX:Hid (TwoB (w.heap.size+1) wr (.int .i64 X) (.int .i64 Y)):=hX
    have hb1:Below wr.heap.size wr (wr.alloc (.cells #[.int .i64 x,.int .i64 y] 42)):=(Below.refl _ _).alloc (Nat.le_refl _) _
    obtain ⟨g0,g1,_,_⟩:=hX.later hb1
    have HB1:Hid (Below wr.heap.size wr (wr.alloc (.cells #[.int .i64 x,.int .i64 y] 42))):=hb1
    have HY:Hid (TwoB wr.heap.size (wr.alloc (.cells #[.int .i64 x,.int .i64 y] 42)) (.int .i64 x) (.int .i64 y)):=twoB_new wr _ _ _
    clear hts hp hmem hz hb hR hX hb1 hZ
    cases hlat:laterB (x,y) (X,Y) m with
    | true=>
     have HT:Hid (laterB (x,y) (X,Y) m=true):=hlat
     clear hlat
     go_wp2_with fail
     refine (isLater_any x y X Y m _ p1 p2 p3 p4 z1 z2 z3 z4 m0 m1).mono ?_
     rintro e w2 ⟨rfl,hb2⟩
     rw [HT.out]
     have HB2:Hid (Below wr.heap.size wr w2):=HB1.out.trans (hb2.mono HB1.out.size)
     obtain ⟨y0',y1',_,_⟩:=HY.out.later hb2
     have hX2:=HX.out.later HB2.out
     obtain ⟨k0,k1,k2,k3⟩:=hX2
     have hs2:w.heap.size ≤ w.heap.size+1:=by omega
     clear hb2
     go_wp2_with fail
     go_roundw
     case rel=>
      refine ⟨k+1,by omega,by go_num,?_,?_,?_⟩
      · exact ((HB.out.trans (HB2.out.mono HB.out.size)).setCell hs2 _).setCell hs2 _
      · exact (H0.out.later HB2.out).far (by omega) _ _
      ·
       rw [HS.out,if_pos HT.out]
       exact (HX.out.later HB2.out).set _ _
     case measure=>simp [intOf];omega
    | false=>
     have HT:Hid (laterB (x,y) (X,Y) m=false):=hlat
     clear hlat
     go_wp2_with fail
     refine (isLater_any x y X Y m _ p1 p2 p3 p4 z1 z2 z3 z4 m0 m1).mono ?_
     rintro e w2 ⟨rfl,hb2⟩
     rw [HT.out]
     have HB2:Hid (Below wr.heap.size wr w2):=HB1.out.trans (hb2.mono HB1.out.size)
     clear hb2
     go_wp2_with fail
     go_roundw
     case rel=>
      refine ⟨k+1,by omega,by go_num,HB.out.trans (HB2.out.mono HB.out.size),H0.out.later HB2.out,?_⟩
      rw [HS.out,if_neg (by rw [HT.out];decide)]
      exact HX.out.later HB2.out
     case measure=>simp [intOf];omega
   ·
    have hk':k=n:=by omega
    subst hk'
    rw [List.take_of_length_le (by rw [Hn.out];omega)] at hX
    have HF:Hid (lastC m ((x0,y0) :: r)=lastOf m (x0,y0) r):=rfl
    generalize lastOf m (x0,y0) r=Z at *
    obtain ⟨X,Y⟩:=Z
    simp only [] at hX
    obtain ⟨g0,g1,_,_⟩:=hX
    obtain ⟨j0,j1,j2,j3⟩:=hR
    clear hb
    go_wp2_with fail
    refine bodyPost_ret (v:=.agg #[.int .i64 X,.int .i64 Y]) (by simp [results,Tryd.results31,go_sem,j0,j1]) rfl ⟨?_,(HB.out.setCell (Nat.le_refl _) _).setCell (Nat.le_refl _) _⟩
    rw [HF.out]
def waitOf (per:Int) (ls:List (Int × Int)) (n:Int):Int:=per * n - comesAt (lastC n ls) n
theorem per_bd {per n:Int} (h1:1 ≤ per) (h2:per ≤ 1000) (n0:0 ≤ n) (n1:n ≤ 20020000):0 ≤ per * n ∧ per * n ≤ 20020000000:=by
 refine ⟨Int.mul_nonneg (by omega) n0,?_⟩
 have a:=Int.mul_le_mul_of_nonneg_right h2 n0
 omega
theorem comes_bd {x y n:Int} (hx:1 ≤ x) (hy:0 ≤ y) (hy2:y ≤ 100000) (n0:0 ≤ n) (n1:n ≤ 20020000) (hk:miss x n=0 ∨ 0 < y):0 ≤ comesAt (x,y) n ∧ comesAt (x,y) n ≤ 20020100000:=by
 have mb:=miss_bd hx n0
 unfold comesAt
 split
 · omega
 ·
  next h=>
  have hy0:0 < y:=by
   rcases hk with hk | hk
   · exact absurd hk h
   · exact hk
  refine ⟨Int.ediv_nonneg (by simp only [];omega) hy,?_⟩
  have:=Int.ediv_le_self (a:=miss x n * 1000+y - 1) y (by omega)
  simp only []
  omega
theorem wait_ok (a:Option Addr) (cap:Nat) (ls:List (Int × Int)) (per n:Int) (w:World) (hl:Lies w a ls) (h:okCurve ls) (hcap:ls.length ≤ cap) (hm:cap ≤ maxLen) (p1:1 ≤ per) (p2:per ≤ 1000) (n0:0 ≤ n) (n1:n ≤ 20020000)
  (hk:miss (lastC n ls).1 n=0 ∨ 0 < (lastC n ls).2) :
  Calls Tryd.prog 33 #[.slice a ls.length cap,.int .i64 per,.int .i64 n] w fun e w'=>e=.returned (.int .i64 (waitOf per ls n)) ∧ Below w.heap.size w w':=by
 have HL:Hid (Lies w a ls):=hl
 have HK:Hid (okCurve ls):=h
 have Hc:Hid (ls.length ≤ cap ∧ cap ≤ maxLen):=⟨hcap,hm⟩
 obtain ⟨b1,b2⟩:=per_bd p1 p2 n0 n1
 have hok:=okLine_true (h.2.2 _ (lastC_mem n ls h.1))
 have HW:Hid (waitOf per ls n=per * n - comesAt (lastC n ls) n):=rfl
 have HI:Hid (lastC n ls=lastC n ls):=rfl
 generalize hZ:lastC n ls=Z at *
 have HZ:Hid (lastC n ls=Z):=hZ
 obtain ⟨X,Y⟩:=Z
 simp only [] at hok hk
 obtain ⟨q1,q2,q3,q4⟩:=hok
 obtain ⟨d1,d2⟩:=comes_bd q1 q3 q4 n0 n1 hk
 have HD:Hid (miss X n=0 ∨ 0 < Y):=hk
 clear hl h hcap hm hZ HI hk
 go_enter Tryd.func33,Tryd.ntmps33
 go_wp2_with fail
 refine (last_ok a cap ls n _ HL.out HK.out Hc.out.1 Hc.out.2 n0 n1).mono ?_
 rintro e w1 ⟨rfl,hb1⟩
 rw [HZ.out]
 have HB1:Hid (Below w.heap.size w w1):=hb1
 clear hb1
 go_wp2_with fail
 refine (comes_any X Y n _ q1 q2 q3 q4 n0 n1 HD.out).mono ?_
 rintro e w2 ⟨rfl,hb2⟩
 have HB2:Hid (Below w.heap.size w w2):=HB1.out.trans (hb2.mono HB1.out.size)
 clear hb2
 go_wp2_with fail
 go_ret
 exact ⟨congrArg (fun z=>Ending.returned (.int .i64 z)) HW.out.symm,HB2.out⟩
theorem turn_call (a:Option Addr) (cap:Nat) (ls:List (Int × Int)) (per n:Int) (w:World) (k1 k2:Nat) (c1:w.cell? ⟨k1,0,none⟩=some (.slice a ls.length cap)) (c2:w.cell? ⟨k2,0,none⟩=some (.int .i64 per))
  (hl:Lies w a ls) (h:okCurve ls) (hcap:ls.length ≤ cap) (hm:cap ≤ maxLen) (p1:1 ≤ per) (p2:per ≤ 1000) (n0:0 ≤ n) (n1:n ≤ 20020000) :
  Calls Tryd.prog 30 #[.int .i64 n,.pointer (some ⟨k1,0,none⟩),.pointer (some ⟨k2,0,none⟩)] w fun e w'=>e=.returned (.bool (turns per ls n)) ∧ Below w.heap.size w w':=by
 have HL:Hid (Lies w a ls):=hl
 have HK:Hid (okCurve ls):=h
 have Hc:Hid (ls.length ≤ cap ∧ cap ≤ maxLen):=⟨hcap,hm⟩
 have hok:=okLine_true (h.2.2 _ (lastC_mem n ls h.1))
 have HT:Hid (turns per ls n=decide (0 < miss (lastC n ls).1 n ∧ (lastC n ls).2 * per ≤ 1000)):=rfl
 have HI:Hid (lastC n ls=lastC n ls):=rfl
 generalize hZ:lastC n ls=Z at *
 have HZ:Hid (lastC n ls=Z):=hZ
 obtain ⟨X,Y⟩:=Z
 simp only [] at hok
 obtain ⟨q1,q2,q3,q4⟩:=hok
 have mb:=miss_bd q1 n0
 have pb1:0 ≤ Y * per:=Int.mul_nonneg q3 (by omega)
 have pb2:Y * per ≤ 100000000:=by
  have a1:=Int.mul_le_mul_of_nonneg_left p2 q3
  omega
 have HC2:Hid (w.cell? ⟨k2,0,none⟩=some (.int .i64 per)):=c2
 clear hl h hcap hm hZ HI c2
 go_enter Tryd.func30,Tryd.ntmps30
 go_wp2_with fail
 refine (last_ok a cap ls n _ HL.out HK.out Hc.out.1 Hc.out.2 n0 n1).mono ?_
 rintro e w1 ⟨rfl,hb1⟩
 rw [HZ.out]
 have HB1:Hid (Below w.heap.size w w1):=hb1
 have hy:=twoB_new w1 (.int .i64 X) (.int .i64 Y) 42
 have HY:Hid (TwoB w1.heap.size (w1.alloc (.cells #[.int .i64 X,.int .i64 Y] 42)) (.int .i64 X) (.int .i64 Y)):=hy
 clear hb1 hy c1
 go_wp2_with fail
 refine (missing_any X Y n _ q1 q2 n0 n1).mono ?_
 rintro e w2 ⟨rfl,hb2⟩
 obtain ⟨_,y1,_,_⟩:=HY.out.later hb2
 have HB2:Hid (Below w.heap.size w w2):=(HB1.out.alloc HB1.out.size _).trans (hb2.mono (by have:=HB1.out.size;simp;omega))
 have d2:=cell_later HB2.out HC2.out
 obtain ⟨A,hA⟩:∃ A,miss X n=A:=⟨_,rfl⟩
 have HA:Hid (miss X n=A):=hA
 rw [hA] at mb ⊢
 obtain ⟨m1,m2⟩:=mb
 clear hb2 hA
 by_cases hp:0 < A
 ·
  have HR:Hid (turns per ls n=decide (Y * per ≤ 1000)):=by
   show _=_
   rw [HT.out]
   simp only [HA.out]
   simp [hp]
  go_wp2_with fail
  go_ret
  exact ⟨congrArg (fun z=>Ending.returned (.bool z)) HR.out.symm,HB2.out⟩
 ·
  have HR:Hid (turns per ls n=false):=by
   show _=_
   rw [HT.out]
   simp only [HA.out]
   simp [hp]
  go_wp2_with fail
  go_ret
  exact ⟨congrArg (fun z=>Ending.returned (.bool z)) HR.out.symm,HB2.out⟩
theorem check_is (a:Option Addr) (cap:Nat) (ls:List (Int × Int)) (w:World) (ad:Nat → Addr) (he:Errs9 w ad) (hl:Lies w a ls) (hcap:ls.length ≤ cap) (hm:cap ≤ maxLen) (c p:Int) (h:FaultIs ls c p) :
  Calls Tryd.prog 28 #[.slice a ls.length cap] w fun e w'=>∃ E,e=.returned E ∧ ErrIs w' E c p ∧ Below w.heap.size w w':=by
 rcases h with ⟨h,rfl,rfl⟩ | ⟨h1,h6,j,hj,h2,h3,rfl,rfl⟩ | ⟨h,rfl,rfl⟩
 ·
  refine (check_shape a ls.length cap w _ he.c2 (Nat.le_trans hcap hm) h).mono ?_
  rintro e w' ⟨rfl,rfl⟩
  exact ⟨_,rfl,errIs_sent he 2 (by decide),Below.refl _ _⟩
 ·
  refine (check_bad a cap ls w (ad 1) he.c1 hl h1 h6 j hj h2 h3).mono ?_
  rintro e w' ⟨hb,B,rfl,hB1,hB2,hc0,hc1⟩
  exact ⟨_,rfl,⟨codeIs_fault (he.below hb) 1 (by decide) j B hc0 hc1,fun h=>by omega,fun _=>⟨_,_,rfl⟩⟩,hb⟩
 ·
  refine (check_ok a cap ls w hl h).mono ?_
  rintro e w' ⟨rfl,hb⟩
  exact ⟨_,rfl,errIs_nil _,hb⟩
end Go.Proofs.YtbokomeejmnnoaaDoor
