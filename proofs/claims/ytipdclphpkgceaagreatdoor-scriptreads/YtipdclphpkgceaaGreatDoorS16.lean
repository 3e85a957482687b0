/- Own facts, put together: no statement of its own. -/
import Derived.Test.YtipdclphpkgceaaGreatDoorS15
import Derived.Test.YtipdclphpkgceaaGreatDoorS13
set_option maxHeartbeats 1000000
set_option maxRecDepth 100000

namespace Go.Proofs.YtipdclphpkgceaaGreatDoor
open Go.RowKit
structure TwoB (b:Nat) (w:World) (x y:Value):Prop where
 c0:w.cell? ⟨b,0,none⟩=some x
 c1:w.cell? ⟨b,1,none⟩=some y
 f0:w.frozen? ⟨b,0,none⟩=false
 f1:w.frozen? ⟨b,1,none⟩=false
theorem TwoB.lt {b:Nat} {w:World} {x y:Value} (h:TwoB b w x y):b < w.heap.size:=cell_lt h.c0
theorem TwoB.later {b:Nat} {w w':World} {x y:Value} (h:TwoB b w x y) (hb:Below w.heap.size w w'):TwoB b w' x y:=
 ⟨cell_later hb h.c0,cell_later hb h.c1,by rw [hb.frozen (p:=⟨b,0,none⟩) h.lt];exact h.f0,by rw [hb.frozen (p:=⟨b,1,none⟩) h.lt];exact h.f1⟩
theorem twoB_new (w:World) (x y:Value) (t:TypeId):TwoB w.heap.size (w.alloc (.cells #[x,y] t)) x y:=⟨by simp,by simp,by simp,by simp⟩
theorem frozen_setCell (w:World) (p a:Addr) (v:Value):(w.setCell p v).frozen? a=w.frozen? a:=by simp
theorem TwoB.set {b:Nat} {w:World} {x y:Value} (h:TwoB b w x y) (u v:Value):TwoB b ((w.setCell ⟨b,0,none⟩ u).setCell ⟨b,1,none⟩ v) u v:=by
 have h1:(w.setCell ⟨b,0,none⟩ u).cell? ⟨b,1,none⟩=some y:=by rw [World.cell?_setCell_other _ _ _ _ (by simp)];exact h.c1
 refine ⟨?_,World.cell?_setCell_same _ _ _ h1,?_,?_⟩
 · rw [World.cell?_setCell_other _ _ _ _ (by simp)];exact World.cell?_setCell_same _ _ _ h.c0
 · rw [frozen_setCell,frozen_setCell];exact h.f0
 · rw [frozen_setCell,frozen_setCell];exact h.f1
theorem cell_far (w:World) (p a:Addr) (v:Value) (h:p.block ≠ a.block):(w.setCell p v).cell? a=w.cell? a:=World.cell?_of_block (Below.heap_setCell w p v a.block (Ne.symm h))
theorem TwoB.far {b c:Nat} {w:World} {x y:Value} (h:TwoB b w x y) (hbc:c ≠ b) (u v:Value):TwoB b ((w.setCell ⟨c,0,none⟩ u).setCell ⟨c,1,none⟩ v) x y:=by
 refine ⟨?_,?_,?_,?_⟩
 · rw [cell_far _ _ _ _ hbc,cell_far _ _ _ _ hbc];exact h.c0
 · rw [cell_far _ _ _ _ hbc,cell_far _ _ _ _ hbc];exact h.c1
 · rw [frozen_setCell,frozen_setCell];exact h.f0
 · rw [frozen_setCell,frozen_setCell];exact h.f1
theorem last_ok (a:Option Addr) (cap:Nat) (ls:List (Int × Int)) (m:Int) (w:World) (hl:Lies w a ls) (h:okCurve ls) (hcap:ls.length ≤ cap) (hm:cap ≤ maxLen) (m0:0 ≤ m) (m1:m ≤ 20020000) :
  Calls Tryz.prog 91 #[.slice a ls.length cap,.int .i64 m] w fun e w'=>e=.returned (.agg #[.int .i64 (lastC m ls).1,.int .i64 (lastC m ls).2]) ∧ Below w.heap.size w w':=by
 obtain ⟨h1,h6,hok⟩:=h
 obtain ⟨b,off,rfl,hlt,hc⟩:=hl.some h1
 clear hl
 unfold maxLen at hm
 obtain ⟨x0,y0,r,rfl⟩:∃ x y r,ls=(x,y) :: r:=by
  cases ls with
  | nil=>simp at h1
  | cons p r=>exact ⟨p.1,p.2,r,rfl⟩
 obtain ⟨n,hn⟩:∃ n,r.length=n:=⟨_,rfl⟩
 have Hn:=(show Hid (r.length=n) from hn)
 have h6':n ≤ 5:=by simp at h6;omega
 have hcap':n+1 ≤ cap:=by simp at hcap;omega
 rw [show ((x0,y0) :: r).length=n+1 by simp [hn]]
 clear h1 h6 hcap hn
 obtain ⟨⟨hx0,hy0⟩,hr⟩:=lies_tail hc
 have HR:Hid (∀ i x y,r[i]? = some (x,y) → w.cell? ⟨b,off+2+i * 2,none⟩=some (.int .i64 x) ∧ w.cell? ⟨b,off+2+i * 2+1,none⟩=some (.int .i64 y)):=hr
 have HO:Hid (okAll ((x0,y0) :: r)):=hok
 have HL:Hid (lastC m ((x0,y0) :: r)=lastOf m (x0,y0) r):=rfl
 clear hok hc hr
 -- the two blocks that the call makes first
 have hbA:Below w.heap.size w ((w.alloc (.cells #[.int .i64 0,.int .i64 0] 83)).alloc (.cells #[.int .i64 x0,.int .i64 y0] 83)):=((Below.refl _ _).alloc (Nat.le_refl _) _).alloc (by simp) _
 have hRA:TwoB w.heap.size ((w.alloc (.cells #[.int .i64 0,.int .i64 0] 83)).alloc (.cells #[.int .i64 x0,.int .i64 y0] 83)) (.int .i64 0) (.int .i64 0):=(twoB_new w _ _ _).later ((Below.refl _ _).alloc (Nat.le_refl _) _)
 have hXA:TwoB (w.heap.size+1) ((w.alloc (.cells #[.int .i64 0,.int .i64 0] 83)).alloc (.cells #[.int .i64 x0,.int .i64 y0] 83)) (.int .i64 x0) (.int .i64 y0):=by
  have:=twoB_new (w.alloc (.cells #[.int .i64 0,.int .i64 0] 83)) (.int .i64 x0) (.int .i64 y0) 83
  simpa using this
 by_cases hc1:cap=1
 ·
  subst hc1
  obtain rfl:n=0:=by omega
  have hr0:r=[]:=List.length_eq_zero_iff.1 Hn.out
  subst hr0
  clear HR Hn HO hbA hRA hXA
  go_enter Tryz.func91,Tryz.ntmps91
  go_wp2
  refine wp_loop_rounds 1 ?_
  rw [rounds_succ]
  go_wp2
  exact bodyPost_ret (v:=.agg #[.int .i64 x0,.int .i64 y0]) (by simp [results,Tryz.results91,go_sem]) rfl ⟨rfl,((Below.refl _ _).alloc (Nat.le_refl _) _).alloc (by simp) _⟩
 ·
  have hc2:1 < cap:=by omega
  clear hc1
  go_enter Tryz.func91,Tryz.ntmps91
  go_wp2
  clear hx0 hy0
  generalize (w.alloc (.cells #[.int .i64 0,.int .i64 0] 83)).alloc (.cells #[.int .i64 x0,.int .i64 y0] 83)=W at *
  go_loopw [14] (fun i wr=>∃ k:Nat,k ≤ n ∧ i=.int .i64 k ∧ Below w.heap.size w wr ∧ TwoB w.heap.size wr (.int .i64 0) (.int .i64 0) ∧ TwoB (w.heap.size+1) wr (.int .i64 (lastOf m (x0,y0) (r.take k)).1) (.int .i64 (lastOf m (x0,y0) (r.take k)).2)) (fun i _=>n - (intOf i).toNat)
  case atStart=>exact ⟨0,Nat.zero_le _,rfl,hbA,hRA,hXA⟩
  case round=>
   obtain ⟨k,hk,rfl,hb,hR,hX⟩:=hrel
   clear hbA hRA hXA
   have HB:Hid (Below w.heap.size w wr):=hb
   have H0:Hid (TwoB w.heap.size wr (.int .i64 0) (.int .i64 0)):=hR
   by_cases hkn:k < n
   ·
    obtain ⟨⟨x,y⟩,hp,hmem⟩:=get_some r k (by rw [Hn.out];exact hkn)
    have q1:wr.cell? ⟨b,off+2+k * 2,none⟩=some (.int .i64 x):=by rw [hb.cell (p:=⟨b,off+2+k * 2,none⟩) hlt];exact (HR.out k x y hp).1
    have q2:wr.cell? ⟨b,off+2+k * 2+1,none⟩=some (.int .i64 y):=by rw [hb.cell (p:=⟨b,off+2+k * 2+1,none⟩) hlt];exact (HR.out k x y hp).2
    have hts:r.take (k+1)=r.take k ++ [(x,y)]:=by rw [List.take_add_one,hp];rfl
    have HS:Hid (lastOf m (x0,y0) (r.take (k+1))=if laterB (x,y) (lastOf m (x0,y0) (r.take k)) m=true then (x,y) else lastOf m (x0,y0) (r.take k)):=by show _=_;rw [hts];exact lastOf_snoc _ _ _ _
    have hz:okLine (lastOf m (x0,y0) (r.take k)).1 (lastOf m (x0,y0) (r.take k)).2=true:=by
     rcases lastOf_mem m (r.take k) (x0,y0) with h | h
     · rw [h];exact HO.out _ (List.mem_cons_self ..)
     · exact HO.out _ (List.mem_cons_of_mem _ (List.mem_of_mem_take h))
    obtain ⟨p1,p2,p3,p4⟩:=okLine_true (HO.out _ (List.mem_cons_of_mem _ hmem))
    obtain ⟨z1,z2,z3,z4⟩:=okLine_true hz
    generalize hZ:lastOf m (x0,y0) (r.take k)=Z at *
    have HZ:Hid (lastOf m (x0,y0) (r.take k)=Z):=hZ
    obtain ⟨X,Y⟩:=Z
    simp only [] at p1 p2 p3 p4 z1 z2 z3 z4 hX
    have HX:Hid (TwoB (w.heap.size+1) wr (.int .i64 X) (.int .i64 Y)):=hX
    have hb1:Below wr.heap.size wr (wr.alloc (.cells #[.int .i64 x,.int .i64 y] 83)):=(Below.refl _ _).alloc (Nat.le_refl _) _
    obtain ⟨g0,g1,_,_⟩:=hX.later hb1
    have HB1:Hid (Below wr.heap.size wr (wr.alloc (.cells #[.int .i64 x,.int .i64 y] 83))):=hb1
    have HY:Hid (TwoB wr.heap.size (wr.alloc (.cells #[.int .i64 x,.int .i64 y] 83)) (.int .i64 x) (.int .i64 y)):=twoB_new wr _ _ _
    clear hts hp hmem hz hb hR hX hb1 hZ
    cases hlat:laterB (x,y) (X,Y) m with
    | true=>
     have HT:Hid (laterB (x,y) (X,Y) m=true):=hlat
     clear hlat
     go_wp2_with fail
     refine (isLater_any x y X Y m _ p1 p2 p3 p4 z1 z2 z3 z4 m0 m1).mono ?_
     rintro e w2 ⟨rfl,hb2⟩
     rw [HT.out]
     have HB2:Hid (Below wr.heap.size wr w2):=HB1.out.trans (hb2.mono HB1.out.size)
     obtain ⟨y0',y1',_,_⟩:=HY.out.later hb2
     have hX2:=HX.out.later HB2.out
     obtain ⟨k0,k1,k2,k3⟩:=hX2
     have hs2:w.heap.size ≤ w.heap.size+1:=by omega
     clear hb2
     go_wp2_with fail
     go_roundw
     case rel=>
      refine ⟨k+1,by omega,by go_num,?_,?_,?_⟩
      · exact ((HB.out.trans (HB2.out.mono HB.out.size)).setCell hs2 _).setCell hs2 _
      · exact (H0.out.later HB2.out).far (by omega) _ _
      ·
       rw [HS.out,if_pos HT.out]
       exact (HX.out.later HB2.out).set _ _
     case measure=>simp [intOf];omega
    | false=>
     have HT:Hid (laterB (x,y) (X,Y) m=false):=hlat
     clear hlat
     go_wp2_with fail
     refine (isLater_any x y X Y m _ p1 p2 p3 p4 z1 z2 z3 z4 m0 m1).mono ?_
     rintro e w2 ⟨rfl,hb2⟩
     rw [HT.out]
     have HB2:Hid (Below wr.heap.size wr w2):=HB1.out.trans (hb2.mono HB1.out.size)
     clear hb2
     go_wp2_with fail
     go_roundw
     case rel=>
      refine ⟨k+1,by omega,by go_num,HB.out.trans (HB2.out.mono HB.out.size),H0.out.later HB2.out,?_⟩
      rw [HS.out,if_neg (by rw [HT.out];decide)]
      exact HX.out.later HB2.out
     case measure=>simp [intOf];omega
   ·
    have hk':k=n:=by omega
    subst hk'
    rw [List.take_of_length_le (by rw [Hn.out];omega)] at hX
    have HF:Hid (lastC m ((x0,y0) :: r)=lastOf m (x0,y0) r):=rfl
    generalize lastOf m (x0,y0) r=Z at *
    obtain ⟨X,Y⟩:=Z
    simp only [] at hX
    obtain ⟨g0,g1,_,_⟩:=hX
    obtain ⟨j0,j1,j2,j3⟩:=hR
    clear hb
    go_wp2_with fail
    refine bodyPost_ret (v:=.agg #[.int .i64 X,.int .i64 Y]) (by simp [results,Tryz.results91,go_sem,j0,j1]) rfl ⟨?_,(HB.out.setCell (Nat.le_refl _) _).setCell (Nat.le_refl _) _⟩
    rw [HF.out]
def waitOf (per:Int) (ls:List (Int × Int)) (n:Int):Int:=per * n - comesAt (lastC n ls) n
theorem per_bd {per n:Int} (h1:1 ≤ per) (h2:per ≤ 1000) (n0:0 ≤ n) (n1:n ≤ 20020000):0 ≤ per * n ∧ per * n ≤ 20020000000:=by
 refine ⟨Int.mul_nonneg (by omega) n0,?_⟩
 have a:=Int.mul_le_mul_of_nonneg_right h2 n0
 omega
theorem comes_bd {x y n:Int} (hx:1 ≤ x) (hy:0 ≤ y) (hy2:y ≤ 100000) (n0:0 ≤ n) (n1:n ≤ 20020000) (hk:miss x n=0 ∨ 0 < y):0 ≤ comesAt (x,y) n ∧ comesAt (x,y) n ≤ 20020100000:=by
 have mb:=miss_bd hx n0
 unfold comesAt
 split
 · omega
 ·
  next h=>
  have hy0:0 < y:=by
   rcases hk with hk | hk
   · exact absurd hk h
   · exact hk
  refine ⟨Int.ediv_nonneg (by simp only [];omega) hy,?_⟩
  have:=Int.ediv_le_self (a:=miss x n * 1000+y - 1) y (by omega)
  simp only []
  omega
theorem wait_ok (a:Option Addr) (cap:Nat) (ls:List (Int × Int)) (per n:Int) (w:World) (hl:Lies w a ls) (h:okCurve ls) (hcap:ls.length ≤ cap) (hm:cap ≤ maxLen) (p1:1 ≤ per) (p2:per ≤ 1000) (n0:0 ≤ n) (n1:n ≤ 20020000)
  (hk:miss (lastC n ls).1 n=0 ∨ 0 < (lastC n ls).2) :
  Calls Tryz.prog 93 #[.slice a ls.length cap,.int .i64 per,.int .i64 n] w fun e w'=>e=.returned (.int .i64 (waitOf per ls n)) ∧ Below w.heap.size w w':=by
 have HL:Hid (Lies w a ls):=hl
 have HK:Hid (okCurve ls):=h
 have Hc:Hid (ls.length ≤ cap ∧ cap ≤ maxLen):=⟨hcap,hm⟩
 obtain ⟨b1,b2⟩:=per_bd p1 p2 n0 n1
 have hok:=okLine_true (h.2.2 _ (lastC_mem n ls h.1))
 have HW:Hid (waitOf per ls n=per * n - comesAt (lastC n ls) n):=rfl
 have HI:Hid (lastC n ls=lastC n ls):=rfl
 generalize hZ:lastC n ls=Z at *
 have HZ:Hid (lastC n ls=Z):=hZ
 obtain ⟨X,Y⟩:=Z
 simp only [] at hok hk
 obtain ⟨q1,q2,q3,q4⟩:=hok
 obtain ⟨d1,d2⟩:=comes_bd q1 q3 q4 n0 n1 hk
 have HD:Hid (miss X n=0 ∨ 0 < Y):=hk
 clear hl h hcap hm hZ HI hk
 go_enter Tryz.func93,Tryz.ntmps93
 go_wp2_with fail
 refine (last_ok a cap ls n _ HL.out HK.out Hc.out.1 Hc.out.2 n0 n1).mono ?_
 rintro e w1 ⟨rfl,hb1⟩
 rw [HZ.out]
 have HB1:Hid (Below w.heap.size w w1):=hb1
 clear hb1
 go_wp2_with fail
 refine (comes_any X Y n _ q1 q2 q3 q4 n0 n1 HD.out).mono ?_
 rintro e w2 ⟨rfl,hb2⟩
 have HB2:Hid (Below w.heap.size w w2):=HB1.out.trans (hb2.mono HB1.out.size)
 clear hb2
 go_wp2_with fail
 go_ret
 exact ⟨congrArg (fun z=>Ending.returned (.int .i64 z)) HW.out.symm,HB2.out⟩
theorem turn_call (a:Option Addr) (cap:Nat) (ls:List (Int × Int)) (per n:Int) (w:World) (k1 k2:Nat) (c1:w.cell? ⟨k1,0,none⟩=some (.slice a ls.length cap)) (c2:w.cell? ⟨k2,0,none⟩=some (.int .i64 per))
  (hl:Lies w a ls) (h:okCurve ls) (hcap:ls.length ≤ cap) (hm:cap ≤ maxLen) (p1:1 ≤ per) (p2:per ≤ 1000) (n0:0 ≤ n) (n1:n ≤ 20020000) :
  Calls Tryz.prog 90 #[.int .i64 n,.pointer (some ⟨k1,0,none⟩),.pointer (some ⟨k2,0,none⟩)] w fun e w'=>e=.returned (.bool (turns per ls n)) ∧ Below w.heap.size w w':=by
 have HL:Hid (Lies w a ls):=hl
 have HK:Hid (okCurve ls):=h
 have Hc:Hid (ls.length ≤ cap ∧ cap ≤ maxLen):=⟨hcap,hm⟩
 have hok:=okLine_true (h.2.2 _ (lastC_mem n ls h.1))
 have HT:Hid (turns per ls n=decide (0 < miss (lastC n ls).1 n ∧ (lastC n ls).2 * per ≤ 1000)):=rfl
 have HI:Hid (lastC n ls=lastC n ls):=rfl
 generalize hZ:lastC n ls=Z at *
 have HZ:Hid (lastC n ls=Z):=hZ
 obtain ⟨X,Y⟩:=Z
 simp only [] at hok
 obtain ⟨q1,q2,q3,q4⟩:=hok
 have mb:=miss_bd q1 n0
 have pb1:0 ≤ Y * per:=Int.mul_nonneg q3 (by omega)
 have pb2:Y * per ≤ 100000000:=by
  have a1:=Int.mul_le_mul_of_nonneg_left p2 q3
  omega
 have HC2:Hid (w.cell? ⟨k2,0,none⟩=some (.int .i64 per)):=c2
 clear hl h hcap hm hZ HI c2
 go_enter Tryz.func90,Tryz.ntmps90
 go_wp2_with fail
 refine (last_ok a cap ls n _ HL.out HK.out Hc.out.1 Hc.out.2 n0 n1).mono ?_
 rintro e w1 ⟨rfl,hb1⟩
 rw [HZ.out]
 have HB1:Hid (Below w.heap.size w w1):=hb1
 have hy:=twoB_new w1 (.int .i64 X) (.int .i64 Y) 83
 have HY:Hid (TwoB w1.heap.size (w1.alloc (.cells #[.int .i64 X,.int .i64 Y] 83)) (.int .i64 X) (.int .i64 Y)):=hy
 clear hb1 hy c1
 go_wp2_with fail
 refine (missing_any X Y n _ q1 q2 n0 n1).mono ?_
 rintro e w2 ⟨rfl,hb2⟩
 obtain ⟨_,y1,_,_⟩:=HY.out.later hb2
 have HB2:Hid (Below w.heap.size w w2):=(HB1.out.alloc HB1.out.size _).trans (hb2.mono (by have:=HB1.out.size;simp;omega))
 have d2:=cell_later HB2.out HC2.out
 obtain ⟨A,hA⟩:∃ A,miss X n=A:=⟨_,rfl⟩
 have HA:Hid (miss X n=A):=hA
 rw [hA] at mb ⊢
 obtain ⟨m1,m2⟩:=mb
 clear hb2 hA
 by_cases hp:0 < A
 ·
  have HR:Hid (turns per ls n=decide (Y * per ≤ 1000)):=by
   show _=_
   rw [HT.out]
   simp only [HA.out]
   simp [hp]
  go_wp2_with fail
  go_ret
  exact ⟨congrArg (fun z=>Ending.returned (.bool z)) HR.out.symm,HB2.out⟩
 ·
  have HR:Hid (turns per ls n=false):=by
   show _=_
   rw [HT.out]
   simp only [HA.out]
   simp [hp]
  go_wp2_with fail
  go_ret
  exact ⟨congrArg (fun z=>Ending.returned (.bool z)) HR.out.symm,HB2.out⟩
structure DelayIs (per:Int) (ls:List (Int × Int)) (d:Int):Prop where
 upper:∀ t,0 ≤ t → per * curveAt t ls - t ≤ d
 at_:∃ k,d=waitOf per ls k ∧ (miss (lastC k ls).1 k=0 ∨ 0 < (lastC k ls).2) ∧ 1 ≤ k ∧ k ≤ 20019999 ∧ (turns per ls k=false ∨ turns per ls (k - 1)=false)
theorem turns_not {per k:Int} {ls:List (Int × Int)} (h:okCurve ls) (hk:turns per ls k=false):miss (lastC k ls).1 k=0 ∨ 0 < (lastC k ls).2:=by
 have hk':¬ (0 < miss (lastC k ls).1 k ∧ (lastC k ls).2 * per ≤ 1000):=of_decide_eq_false hk
 have hok:=okLine_true (h.2.2 _ (lastC_mem k ls h.1))
 have mn:=miss_nonneg (lastC k ls).1 k
 by_cases hz:miss (lastC k ls).1 k=0
 · exact .inl hz
 ·
  rcases Int.lt_or_le 0 (lastC k ls).2 with h | h
  · exact .inr h
  ·
   have e:(lastC k ls).2=0:=by omega
   exact absurd ⟨by omega,by rw [e,Int.zero_mul];omega⟩ hk'
theorem delay_one {per T:Int} {ls:List (Int × Int)} (h:okCurve ls) (hper:1 ≤ per) (hT1:2 ≤ T) (hT2:T ≤ 20019999) (hp:turns per ls T=true) (hq:turns per ls (T - 1)=false) (hz:¬ 0 < (lastC T ls).2):DelayIs per ls (waitOf per ls (T - 1)):=by
 refine ⟨fun t ht=>?_,T - 1,rfl,turns_not h hq,by omega,by omega,.inl hq⟩
 rcases Int.lt_or_le (curveAt t ls) T with hlt | hge
 · exact (wait_ahead h hper ht hq (by omega) (Int.le_refl _)).2
 · exact absurd (wait_behind h hp hge (Int.le_refl _)).1 hz
theorem delay_two {per T:Int} {ls:List (Int × Int)} (h:okCurve ls) (hper:1 ≤ per) (hT1:2 ≤ T) (hT2:T ≤ 20019999) (hp:turns per ls T=true) (hq:turns per ls (T - 1)=false) (hz:0 < (lastC T ls).2):DelayIs per ls (max (waitOf per ls (T - 1)) (waitOf per ls T)):=by
 refine ⟨fun t ht=>?_,?_⟩
 ·
  rcases Int.lt_or_le (curveAt t ls) T with hlt | hge
  ·
   have:=(wait_ahead h hper ht hq (n:=curveAt t ls) (by omega) (Int.le_refl _)).2
   show per * curveAt t ls - t ≤ max (waitOf per ls (T - 1)) (waitOf per ls T)
   unfold waitOf
   omega
  ·
   have:=(wait_behind h hp hge (Int.le_refl _) (t:=t)).2
   unfold waitOf
   omega
 ·
  by_cases hm:waitOf per ls (T - 1) ≤ waitOf per ls T
  · exact ⟨T,by omega,.inr hz,by omega,by omega,.inr hq⟩
  · exact ⟨T - 1,by omega,turns_not h hq,by omega,by omega,.inl hq⟩
theorem wait_bd {per n:Int} {ls:List (Int × Int)} (h:okCurve ls) (p1:1 ≤ per) (p2:per ≤ 1000) (n0:0 ≤ n) (n1:n ≤ 20020000) (hk:miss (lastC n ls).1 n=0 ∨ 0 < (lastC n ls).2) : -20020100000 ≤ waitOf per ls n ∧ waitOf per ls n ≤ 20020000000:=by
 obtain ⟨b1,b2⟩:=per_bd p1 p2 n0 n1
 have hok:=okLine_true (h.2.2 _ (lastC_mem n ls h.1))
 have:=comes_bd (x:=(lastC n ls).1) (y:=(lastC n ls).2) hok.1 hok.2.2.1 hok.2.2.2 n0 n1 hk
 have e:((lastC n ls).1,(lastC n ls).2)=lastC n ls:=rfl
 rw [e] at this
 unfold waitOf
 omega
theorem Tryz.fieldRate (x y:Value) (w:World):(Instr.field 83 (.agg #[x,y]) 1).run Tryz.prog w=.ok y w:=by kernel_rfl
theorem longest_ok (a:Option Addr) (cap:Nat) (ls:List (Int × Int)) (per:Int) (w:World) (hl:Lies w a ls) (h:okCurve ls) (hcap:ls.length ≤ cap) (hm:cap ≤ maxLen) (p1:1 ≤ per) (p2:per ≤ 1000) (hs:leastR ls * per ≤ 1000) :
  Calls Tryz.prog 61 #[.slice a ls.length cap,.int .i64 per] w fun e w'=>∃ d,e=.returned (.int .i64 d) ∧ DelayIs per ls d ∧ Below w.heap.size w w':=by
 have HK:Hid (okCurve ls):=h
 have Hc:Hid (ls.length ≤ cap ∧ cap ≤ maxLen):=⟨hcap,hm⟩
 have hbW:Below w.heap.size w ((w.alloc (.cells #[.slice a ls.length cap] 62)).alloc (.cells #[.int .i64 per] 3)):=((Below.refl _ _).alloc (Nat.le_refl _) _).alloc (by simp) _
 have c1:((w.alloc (.cells #[.slice a ls.length cap] 62)).alloc (.cells #[.int .i64 per] 3)).cell? ⟨w.heap.size,0,none⟩=some (.slice a ls.length cap):=by simp
 have c2:((w.alloc (.cells #[.slice a ls.length cap] 62)).alloc (.cells #[.int .i64 per] 3)).cell? ⟨w.heap.size+1,0,none⟩=some (.int .i64 per):=by simp
 have HF:Hid (turns per ls 20019999=true):=turns_far h p1 hs
 have HO:Hid (turns per ls 1=false):=turns_one h
 have HL0:=hl.below hbW
 have fl:=Tryz.fieldRate
 go_enter Tryz.func61,Tryz.ntmps61
 go_wp2_with fail
 generalize (w.alloc (.cells #[.slice a ls.length cap] 62)).alloc (.cells #[.int .i64 per] 3)=W at *
 have HBW:Hid (Below w.heap.size w W):=hbW
 have HL:Hid (Lies W a ls):=HL0
 have H1:Hid (W.cell? ⟨w.heap.size,0,none⟩=some (.slice a ls.length cap)):=c1
 have H2:Hid (W.cell? ⟨w.heap.size+1,0,none⟩=some (.int .i64 per)):=c2
 clear hbW HL0 c1 c2 hl h hcap hm hs
 refine (first_turn 1 20020000 (.pointer (some ⟨w.heap.size,0,none⟩)) (.pointer (some ⟨w.heap.size+1,0,none⟩)) (turns per ls) W W (Below.refl _ _) (by decide) (by decide) (by decide)
  (fun n W' h1 h2 hb=>turn_call a cap ls per n W' w.heap.size (w.heap.size+1) (cell_later hb H1.out) (cell_later hb H2.out) (HL.out.below hb) HK.out Hc.out.1 Hc.out.2 p1 p2 (by omega) (by omega))).mono ?_
 rintro e w1 ⟨T,rfl,t1,t2,t3,t4,hb1⟩
 have hT1:2 ≤ T:=by
  rcases Int.lt_or_le T 2 with h | h
  ·
   have e1:T=1:=by omega
   subst e1
   rcases t3 with t3 | t3
   · omega
   · rw [HO.out] at t3;cases t3
  · exact h
 have t4':turns per ls (T - 1)=false:=by
  rcases t4 with t4 | t4
  · omega
  · exact t4
 have hT2:T ≤ 20019999:=by
  rcases Int.lt_or_le 20019999 T with h | h
  ·
   have e1:T=20020000:=by omega
   subst e1
   rw [show (20020000:Int) - 1=20019999 from rfl,HF.out] at t4'
   cases t4'
  · exact h
 have t3':turns per ls T=true:=by
  rcases t3 with t3 | t3
  · omega
  · exact t3
 have HP:Hid (turns per ls T=true):=t3'
 have HQ:Hid (turns per ls (T - 1)=false):=t4'
 have HB1:Hid (Below W.heap.size W w1):=hb1
 have hk1:=turns_not HK.out t4'
 have hw1:=wait_bd (n:=T - 1) HK.out p1 p2 (by omega) (by omega) hk1
 have HK1:Hid (miss (lastC (T - 1) ls).1 (T - 1)=0 ∨ 0 < (lastC (T - 1) ls).2):=hk1
 have d1:=cell_later hb1 H1.out
 have d2:=cell_later hb1 H2.out
 clear t3 t4 t3' t4' hk1 hb1
 go_wp2_with fail
 refine (wait_ok a cap ls per (T - 1) _ (HL.out.below HB1.out) HK.out Hc.out.1 Hc.out.2 p1 p2 (by omega) (by omega) HK1.out).mono ?_
 rintro e w2 ⟨rfl,hb2⟩
 have HB2:Hid (Below W.heap.size W w2):=HB1.out.trans (hb2.mono HB1.out.size)
 have e1:=cell_later HB2.out H1.out
 have e2:=cell_later HB2.out H2.out
 clear hb2 d1 d2
 go_wp2_with fail
 refine (last_ok a cap ls T _ (HL.out.below HB2.out) HK.out Hc.out.1 Hc.out.2 (by omega) (by omega)).mono ?_
 rintro e w3 ⟨rfl,hb3⟩
 have HB3:Hid (Below W.heap.size W w3):=HB2.out.trans (hb3.mono HB2.out.size)
 have f1:=cell_later HB3.out H1.out
 have f2:=cell_later HB3.out H2.out
 clear hb3 e1 e2
 by_cases hr:0 < (lastC T ls).2
 ·
  have hw2:=wait_bd (n:=T) HK.out p1 p2 (by omega) (by omega) (.inr hr)
  have HR:Hid (0 < (lastC T ls).2):=hr
  go_wp2_with fail
  refine (wait_ok a cap ls per T _ (HL.out.below HB3.out) HK.out Hc.out.1 Hc.out.2 p1 p2 (by omega) (by omega) (.inr HR.out)).mono ?_
  rintro e w4 ⟨rfl,hb4⟩
  have HB4:Hid (Below W.heap.size W w4):=HB3.out.trans (hb4.mono HB3.out.size)
  clear hb4 f1 f2
  have HX:Hid (DelayIs per ls (max (waitOf per ls (T - 1)) (waitOf per ls T))):=delay_two HK.out p1 hT1 hT2 HP.out HQ.out HR.out
  go_wp2_with fail
  all_goals
   go_ret
   refine ⟨_,congrArg (fun z=>Ending.returned (.int .i64 z)) ?_,HX.out,HBW.out.trans (HB4.out.mono HBW.out.size)⟩
   first | exact max_if _ _ | omega
 ·
  have HX:Hid (DelayIs per ls (waitOf per ls (T - 1))):=delay_one HK.out p1 hT1 hT2 HP.out HQ.out hr
  go_wp2_with fail
  go_ret
  exact ⟨_,rfl,HX.out,HBW.out.trans (HB3.out.mono HBW.out.size)⟩
def LinkFault (ls:List (Int × Int)) (per c p:Int):Prop:=(FaultIs ls c p ∧ c ≠ 0) ∨ (okCurve ls ∧ (per < 1 ∨ 1000 < per) ∧ c=2 ∧ p = -1)
def LinkOk (ls:List (Int × Int)) (per:Int):Prop:=okCurve ls ∧ 1 ≤ per ∧ per ≤ 1000
theorem LinkFault.ne {ls:List (Int × Int)} {per c p:Int} (h:LinkFault ls per c p):c=2 ∨ c=3:=by
 rcases h with ⟨h,h0⟩ | ⟨_,_,h,_⟩
 ·
  rcases h.num with h | h
  · exact absurd h h0
  · exact h
 · exact .inl h
theorem link_ok (a:Option Addr) (cap:Nat) (ls:List (Int × Int)) (per:Int) (w:World) (hl:Lies w a ls) (h:LinkOk ls per) :
  Calls Tryz.prog 59 #[.slice a ls.length cap,.int .i64 per] w fun e w'=>e=.returned .nilIface ∧ Below w.heap.size w w':=by
 obtain ⟨hk,p1,p2⟩:=h
 have HL:Hid (Lies w a ls):=hl
 have HK:Hid (okCurve ls):=hk
 clear hl hk
 go_enter Tryz.func59,Tryz.ntmps59
 go_wp2_with fail
 refine (check_ok a cap ls _ HL.out HK.out).mono ?_
 rintro e w1 ⟨rfl,hb⟩
 have HB:Hid (Below w.heap.size w w1):=hb
 clear hb
 go_wp2_with fail
 go_ret
 exact ⟨rfl,HB.out⟩
theorem rate_bd {ls:List (Int × Int)} {per:Int} (h:LinkOk ls per):0 ≤ leastR ls * per ∧ leastR ls * per ≤ 100000000:=by
 obtain ⟨q,hq,e⟩:=leastR_is ls h.1.1
 have hok:=okLine_true (h.1.2.2 q hq)
 rw [e]
 refine ⟨Int.mul_nonneg hok.2.2.1 (by have:=h.2.1;omega),?_⟩
 have a1:=Int.mul_le_mul_of_nonneg_left h.2.2 hok.2.2.1
 omega
theorem delay_none (a:Option Addr) (cap:Nat) (ls:List (Int × Int)) (per:Int) (w:World) (ad:Nat → Addr) (he:Errs9 w ad) (hl:Lies w a ls) (hcap:ls.length ≤ cap) (hm:cap ≤ maxLen) (h:LinkOk ls per) (hn:1000 < leastR ls * per) :
  Calls Tryz.prog 35 #[.slice a ls.length cap,.int .i64 per] w fun e w'=>e=.returned (.tuple #[.int .i64 0,.iface 312 (.pointer (some (ad 3)))]) ∧ Below w.heap.size w w':=by
 have HL:Hid (Lies w a ls):=hl
 have HK:Hid (LinkOk ls per):=h
 have Hc:Hid (ls.length ≤ cap ∧ cap ≤ maxLen):=⟨hcap,hm⟩
 have HE:Hid (Errs9 w ad):=he
 obtain ⟨r1,r2⟩:=rate_bd h
 clear hl hcap hm he h
 go_enter Tryz.func35,Tryz.ntmps35
 go_wp2_with fail
 refine (link_ok a cap ls per _ HL.out HK.out).mono ?_
 rintro e w1 ⟨rfl,hb⟩
 have HB:Hid (Below w.heap.size w w1):=hb
 clear hb
 go_wp2_with fail
 refine (leastRate_ok a cap ls _ (HL.out.below HB.out) HK.out.1 Hc.out.1 Hc.out.2).mono ?_
 rintro e w2 ⟨rfl,hb2⟩
 have HB2:Hid (Below w.heap.size w w2):=HB.out.trans (hb2.mono HB.out.size)
 have g3:=(HE.out.below HB2.out).c3
 clear hb2
 go_wp2_with fail
 go_quiet (fail)
 go_wp2_with fail
 go_ret2
 exact ⟨rfl,below_drewN HB2.out _⟩
theorem delay_ok (a:Option Addr) (cap:Nat) (ls:List (Int × Int)) (per:Int) (w:World) (hl:Lies w a ls) (hcap:ls.length ≤ cap) (hm:cap ≤ maxLen) (h:LinkOk ls per) (hn:leastR ls * per ≤ 1000) :
  Calls Tryz.prog 35 #[.slice a ls.length cap,.int .i64 per] w fun e w'=>∃ d,e=.returned (.tuple #[.int .i64 d,.nilIface]) ∧ DelayIs per ls d ∧ Below w.heap.size w w':=by
 have HL:Hid (Lies w a ls):=hl
 have HK:Hid (LinkOk ls per):=h
 have Hc:Hid (ls.length ≤ cap ∧ cap ≤ maxLen):=⟨hcap,hm⟩
 obtain ⟨r1,r2⟩:=rate_bd h
 have HN:Hid (leastR ls * per ≤ 1000):=hn
 clear hl hcap hm h
 go_enter Tryz.func35,Tryz.ntmps35
 go_wp2_with fail
 refine (link_ok a cap ls per _ HL.out HK.out).mono ?_
 rintro e w1 ⟨rfl,hb⟩
 have HB:Hid (Below w.heap.size w w1):=hb
 clear hb
 go_wp2_with fail
 refine (leastRate_ok a cap ls _ (HL.out.below HB.out) HK.out.1 Hc.out.1 Hc.out.2).mono ?_
 rintro e w2 ⟨rfl,hb2⟩
 have HB2:Hid (Below w.heap.size w w2):=HB.out.trans (hb2.mono HB.out.size)
 clear hb2
 go_wp2_with fail
 refine (longest_ok a cap ls per _ (HL.out.below HB2.out) HK.out.1 Hc.out.1 Hc.out.2 HK.out.2.1 HK.out.2.2 HN.out).mono ?_
 rintro e w3 ⟨d,rfl,hd,hb3⟩
 have HB3:Hid (DelayIs per ls d ∧ Below w.heap.size w w3):=⟨hd,HB2.out.trans (hb3.mono HB2.out.size)⟩
 clear hb3 hd
 go_wp2_with fail
 go_ret2
 exact ⟨d,rfl,HB3.out.1,HB3.out.2⟩
theorem busy_call (a:Option Addr) (cap:Nat) (ls:List (Int × Int)) (per n:Int) (w:World) (k1 k2:Nat) (c1:w.cell? ⟨k1,0,none⟩=some (.slice a ls.length cap)) (c2:w.cell? ⟨k2,0,none⟩=some (.int .i64 per))
  (hl:Lies w a ls) (h:okCurve ls) (hcap:ls.length ≤ cap) (hm:cap ≤ maxLen) (m0:0 ≤ per * n) (m1:per * n ≤ 1099511627776) :
  Calls Tryz.prog 63 #[.int .i64 n,.pointer (some ⟨k1,0,none⟩),.pointer (some ⟨k2,0,none⟩)] w fun e w'=>e=.returned (.bool (busyB per ls n)) ∧ Below w.heap.size w w':=by
 have HL:Hid (Lies w a ls):=hl
 have HK:Hid (okCurve ls):=h
 have Hc:Hid (ls.length ≤ cap ∧ cap ≤ maxLen):=⟨hcap,hm⟩
 clear hl h hcap hm
 go_enter Tryz.func63,Tryz.ntmps63
 go_wp2_with fail
 refine (bytesAt_ok a cap ls (per * n) _ HL.out HK.out Hc.out.1 Hc.out.2 m0 m1).mono ?_
 rintro e w1 ⟨rfl,hb⟩
 have HB:Hid (Below w.heap.size w w1):=hb
 clear hb
 go_wp2_with fail
 go_ret
 exact ⟨rfl,HB.out⟩
structure BusyIs (per:Int) (ls:List (Int × Int)) (n:Int):Prop where
 one:1 ≤ n
 most:per * n ≤ 1099511627776
 is_:busyB per ls n=true
 least:n=1 ∨ busyB per ls (n - 1)=false
def BusyNot (per:Int) (ls:List (Int × Int)):Prop:=∀ n,1 ≤ n → per * n ≤ 1099511627776 → busyB per ls n=false
theorem quo_bd {per:Int} (p1:1 ≤ per) (p2:per ≤ 1000):1099511627 ≤ (1099511627776:Int) / per ∧ (1099511627776:Int) / per ≤ 1099511627776 ∧ per * ((1099511627776:Int) / per) ≤ 1099511627776 ∧ (1099511627776:Int) < per * ((1099511627776:Int) / per)+per:=by
 have h1:=Int.mul_ediv_self_le (x:=1099511627776) (k:=per) (by omega)
 have h2:=Int.lt_mul_ediv_self_add (x:=1099511627776) (k:=per) (by omega)
 have h3:=Int.ediv_le_self (a:=1099511627776) per (by omega)
 refine ⟨?_,h3,h1,h2⟩
 rcases Int.lt_or_le ((1099511627776:Int) / per) 1099511627 with h | h
 ·
  exfalso
  generalize (1099511627776:Int) / per=q at *
  have a1:=Int.mul_le_mul_of_nonneg_left (show q+1 ≤ 1099511627 by omega) (show 0 ≤ per by omega)
  rw [Int.mul_add] at a1
  omega
 · exact h
theorem busy_found {per r:Int} {ls:List (Int × Int)} (h:okCurve ls) (p1:1 ≤ per) (p2:per ≤ 1000) (r1:1 ≤ r) (_r2:r ≤ 1099511627776 / per+1) (h3:r=1099511627776 / per+1 ∨ busyB per ls r=true) (h4:r=1 ∨ busyB per ls (r - 1)=false) :
  (r ≤ 1099511627776 / per ∧ BusyIs per ls r) ∨ (1099511627776 / per < r ∧ BusyNot per ls):=by
 obtain ⟨q1,q2,q3,q4⟩:=quo_bd p1 p2
 generalize (1099511627776:Int) / per=q at *
 by_cases hr:r ≤ q
 ·
  refine .inl ⟨hr,r1,?_,?_,h4⟩
  ·
   have:=Int.mul_le_mul_of_nonneg_left hr (show 0 ≤ per by omega)
   omega
  ·
   rcases h3 with h3 | h3
   · omega
   · exact h3
 ·
  refine .inr ⟨by omega,fun n n1 n2=>?_⟩
  have er:r=q+1:=by omega
  subst er
  rcases h4 with h4 | h4
  · omega
  ·
   rw [show q+1 - 1=q by omega] at h4
   cases hq:busyB per ls n with
   | false=>rfl
   | true=>
    have hnq:n ≤ q:=by
     rcases Int.lt_or_le q n with h | h
     ·
      have:=Int.mul_le_mul_of_nonneg_left (show q+1 ≤ n by omega) (show 0 ≤ per by omega)
      rw [Int.mul_add] at this
      omega
     · exact h
    have:=busy_le (n:=q) h p1 n1 hnq hq
    rw [h4] at this
    cases this
theorem busy_any (a:Option Addr) (cap:Nat) (ls:List (Int × Int)) (per:Int) (w:World) (ad:Nat → Addr) (he:Errs9 w ad) (hl:Lies w a ls) (hcap:ls.length ≤ cap) (hm:cap ≤ maxLen) (h:LinkOk ls per) :
  Calls Tryz.prog 36 #[.slice a ls.length cap,.int .i64 per] w fun e w'=>Below w.heap.size w w' ∧ ((∃ n,BusyIs per ls n ∧ e=.returned (.tuple #[.int .i64 (per * n),.nilIface])) ∨ (BusyNot per ls ∧ e=.returned (.tuple #[.int .i64 0,.iface 312 (.pointer (some (ad 3)))]))):=by
 have hbW:Below w.heap.size w ((w.alloc (.cells #[.slice a ls.length cap] 62)).alloc (.cells #[.int .i64 per] 3)):=((Below.refl _ _).alloc (Nat.le_refl _) _).alloc (by simp) _
 have c1:((w.alloc (.cells #[.slice a ls.length cap] 62)).alloc (.cells #[.int .i64 per] 3)).cell? ⟨w.heap.size,0,none⟩=some (.slice a ls.length cap):=by simp
 have c2:((w.alloc (.cells #[.slice a ls.length cap] 62)).alloc (.cells #[.int .i64 per] 3)).cell? ⟨w.heap.size+1,0,none⟩=some (.int .i64 per):=by simp
 have HL0:=hl.below hbW
 have HE0:=he.below hbW
 have HK:Hid (LinkOk ls per):=h
 have Hc:Hid (ls.length ≤ cap ∧ cap ≤ maxLen):=⟨hcap,hm⟩
 obtain ⟨hk,p1,p2⟩:=h
 obtain ⟨q1,q2,q3,q4⟩:=quo_bd p1 p2
 have hp0:(per == 0)=false:=by simp;omega
 go_enter Tryz.func36,Tryz.ntmps36
 go_wp2_with fail
 generalize (w.alloc (.cells #[.slice a ls.length cap] 62)).alloc (.cells #[.int .i64 per] 3)=W at *
 have HBW:Hid (Below w.heap.size w W):=hbW
 have HL:Hid (Lies W a ls):=HL0
 have HE:Hid (Errs9 W ad):=HE0
 have H1:Hid (W.cell? ⟨w.heap.size,0,none⟩=some (.slice a ls.length cap)):=c1
 have H2:Hid (W.cell? ⟨w.heap.size+1,0,none⟩=some (.int .i64 per)):=c2
 clear hbW HL0 HE0 c1 c2 hl he hk hcap hm
 refine (link_ok a cap ls per _ HL.out HK.out).mono ?_
 rintro e w1 ⟨rfl,hb1⟩
 have HB1:Hid (Below W.heap.size W w1):=hb1
 have d1:=cell_later hb1 H1.out
 have d2:=cell_later hb1 H2.out
 clear hb1
 go_wp2_with fail
 have HQ:Hid (per * (1099511627776 / per) ≤ 1099511627776):=q3
 refine (first_busy 1 (1099511627776 / per+1) (.pointer (some ⟨w.heap.size,0,none⟩)) (.pointer (some ⟨w.heap.size+1,0,none⟩)) (busyB per ls) W w1 HB1.out (by decide) (by omega) (by omega)
  (fun n W' h1 h2 hb=>busy_call a cap ls per n W' w.heap.size (w.heap.size+1) (cell_later hb H1.out) (cell_later hb H2.out) (HL.out.below hb) HK.out.1 Hc.out.1 Hc.out.2 (Int.mul_nonneg (by omega) (by omega))
   (Int.le_trans (Int.mul_le_mul_of_nonneg_left (show n ≤ 1099511627776 / per by omega) (show 0 ≤ per by omega)) HQ.out))).mono ?_
 rintro e w2 ⟨r,rfl,r1,r2,r3,r4,hb2⟩
 have HB2:Hid (Below W.heap.size W w2):=hb2
 have e2:=cell_later hb2 H2.out
 have g3:=(HE.out.below hb2).c3
 clear hb2 d1 d2
 rcases busy_found HK.out.1 p1 p2 r1 r2 r3 r4 with ⟨hr,hB⟩ | ⟨hr,hB⟩
 ·
  have HX:Hid (BusyIs per ls r):=hB
  have m1:=hB.most
  have m0:0 ≤ per * r:=Int.mul_nonneg (by omega) (by omega)
  clear r3 r4 hB
  go_wp2_with fail
  go_ret2
  exact ⟨HBW.out.trans (HB2.out.mono HBW.out.size),.inl ⟨r,HX.out,rfl⟩⟩
 ·
  have HX:Hid (BusyNot per ls):=hB
  clear r3 r4 hB
  go_wp2_with fail
  go_quiet (fail)
  go_wp2_with fail
  go_ret2
  exact ⟨below_drewN (HBW.out.trans (HB2.out.mono HBW.out.size)) _,.inr ⟨HX.out,rfl⟩⟩
end Go.Proofs.YtipdclphpkgceaaGreatDoor
