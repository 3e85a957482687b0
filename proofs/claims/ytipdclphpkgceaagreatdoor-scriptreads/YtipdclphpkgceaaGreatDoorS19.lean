/- Own facts, put together: no statement of its own. -/
import Derived.Deep.LoopGhost
import Derived.BigRegion
import Derived.Test.YtipdclphpkgceaaGreatDoorS18
import Derived.Test.YtipdclphpkgceaaGreatDoorS04
set_option maxHeartbeats 4000000
set_option maxRecDepth 100000

namespace Go.Proofs.YtipdclphpkgceaaGreatDoor
open Go.RowKit
theorem swapRange_ok (w0:World) (b off n cap:Nat) (pk:Nat → Pk) (fv:Value) (f:Nat → Nat) (x y m:Nat) (w:World) (h:StaAt w0 b off n pk f w) (hxy:x+m ≤ y) (hy:y+m ≤ n) (hn:n ≤ 1000) :
  Calls Tryz.prog 231 #[.slice (some ⟨b,off,none⟩) n cap,.int .i64 (x:Int),.int .i64 (y:Int),.int .i64 (m:Int),fv] w fun e w'=>e=.returned (.tuple #[]) ∧ StaAt w0 b off n pk (swr f x y m) w':=by
 have HS:Hid (StaAt w0 b off n pk (swr f x y 0) w):=by show StaAt _ _ _ _ _ _ _;rw [swr_none];exact h
 clear h
 go_enter Tryz.func231,Tryz.ntmps231
 go_wp2_with fail
 go_loopg [10] m (fun gk iv wr=>∃ i:Nat,iv=.int .i64 (i:Int) ∧ i ≤ m ∧ m - i ≤ gk ∧ Hid (StaAt w0 b off n pk (swr f x y i) wr))
 case atStart=>exact ⟨0,rfl,Nat.zero_le _,Nat.le_refl _,HS⟩
 case round=>
  clear HS
  obtain ⟨i,rfl,him,hgk,H⟩:=hrel
  by_cases hlt:i < m
  ·
   have hltz:(i:Int) < (m:Int):=by omega
   obtain ⟨g,hg⟩:∃ g,swr f x y i=g:=⟨_,rfl⟩
   have HG:Hid (xch g (x+i) (y+i)=swr f x y (i+1)):=by show _=_;rw [← hg];exact swr_succ f (by omega)
   rw [hg] at H
   obtain ⟨p,hp⟩:∃ p,x+i=p:=⟨_,rfl⟩
   obtain ⟨q,hq⟩:∃ q,y+i=q:=⟨_,rfl⟩
   rw [hp,hq] at HG
   have hpn:p < n:=by omega
   have hqn:q < n:=by omega
   have hpq:p ≠ q:=by omega
   have wp:IntKind.i64.wrap ((x:Int)+(i:Int))=(p:Int):=by rw [IntKind.wrap_i64];omega
   have wq:IntKind.i64.wrap ((y:Int)+(i:Int))=(q:Int):=by rw [IntKind.wrap_i64];omega
   have hpz:(p:Int) < (n:Int):=by omega
   have hqz:(q:Int) < (n:Int):=by omega
   have a0:=H.out.row.c0 p hpn
   have a1:=H.out.row.c1 p hpn
   have a2:=H.out.row.c2 p hpn
   have b0:=H.out.row.c0 q hqn
   have b1:=H.out.row.c1 q hqn
   have b2:=H.out.row.c2 q hqn
   have f0:=H.out.row.fz (off+p * 3)
   have f1:=H.out.row.fz (off+p * 3+1)
   have f2:=H.out.row.fz (off+p * 3+2)
   have g0:=H.out.row.fz (off+q * 3)
   have g1:=H.out.row.fz (off+q * 3+1)
   have g2:=H.out.row.fz (off+q * 3+2)
   have H2:∃ V,Hid ((put3 (put3 wr b (off+p * 3) (pk (g q))) b (off+q * 3) (pk (g p))).drew=V) ∧ Hid (StaAt w0 b off n pk (swr f x y (i+1)) V):=⟨_,rfl,by show StaAt _ _ _ _ _ _ _;rw [← HG.out];exact (H.out.xch hpn hqn).drew⟩
   have k0:(put3 wr b (off+p * 3) (pk (g q))).cell? ⟨b,off+q * 3,none⟩=some (.int .i64 (pk (g q)).flow):=by rw [put3_out _ _ _ _ (by omega)];exact b0
   have k1:(put3 wr b (off+p * 3) (pk (g q))).cell? ⟨b,off+q * 3+1,none⟩=some (.int .i64 (pk (g q)).size):=by rw [put3_out _ _ _ _ (by omega)];exact b1
   have k2:(put3 wr b (off+p * 3) (pk (g q))).cell? ⟨b,off+q * 3+2,none⟩=some (.int .i64 (pk (g q)).tick):=by rw [put3_out _ _ _ _ (by omega)];exact b2
   obtain ⟨V,HV,HVS⟩:=H2
   unfold put3 at HV k0 k1 k2
   obtain ⟨u0,hu0⟩:∃ u,(pk (g p)).flow=u:=⟨_,rfl⟩
   obtain ⟨u1,hu1⟩:∃ u,(pk (g p)).size=u:=⟨_,rfl⟩
   obtain ⟨u2,hu2⟩:∃ u,(pk (g p)).tick=u:=⟨_,rfl⟩
   obtain ⟨v0,hv0⟩:∃ v,(pk (g q)).flow=v:=⟨_,rfl⟩
   obtain ⟨v1,hv1⟩:∃ v,(pk (g q)).size=v:=⟨_,rfl⟩
   obtain ⟨v2,hv2⟩:∃ v,(pk (g q)).tick=v:=⟨_,rfl⟩
   rw [hu0] at a0 HV
   rw [hu1] at a1 HV
   rw [hu2] at a2 HV
   rw [hv0] at b0 HV k0 k1 k2
   rw [hv1] at b1 HV k0 k1 k2
   rw [hv2] at b2 HV k0 k1 k2
   clear hu0 hu1 hu2 hv0 hv1 hv2
   clear hg hp hq H HG
   go_wp2_with fail
   go_region
   rw [HV.out]
   clear HV a0 a1 a2 b0 b1 b2 f0 f1 f2 g0 g1 g2 k0 k1 k2
   go_wp2_with fail
   go_roundg (m - (i+1))
   case measure=>omega
   case rel=>exact ⟨i+1,by go_num,by omega,Nat.le_refl _,HVS⟩
  ·
   have hltz:¬ (i:Int) < (m:Int):=by omega
   obtain rfl:i=m:=by omega
   go_wp2_with fail
   go_end0
   exact ⟨rfl,H.out⟩
theorem rotate_ok (w0:World) (b off n cap:Nat) (pk:Nat → Pk) (fv:Value) (f:Nat → Nat) (x m y:Nat) (w:World) (h:StaAt w0 b off n pk f w) (hxm:x < m) (hmy:m < y) (hy:y ≤ n) (hn:n ≤ 1000) :
  Calls Tryz.prog 220 #[.slice (some ⟨b,off,none⟩) n cap,.int .i64 (x:Int),.int .i64 (m:Int),.int .i64 (y:Int),fv] w fun e w'=>e=.returned (.tuple #[]) ∧ StaAt w0 b off n pk (rot f x m y) w':=by
 have HS:Hid (∀ (g:Nat → Nat) (x y m:Nat) (w:World),StaAt w0 b off n pk g w → x+m ≤ y → y+m ≤ n → Calls Tryz.prog 231 #[.slice (some ⟨b,off,none⟩) n cap,.int .i64 (x:Int),.int .i64 (y:Int),.int .i64 (m:Int),fv] w fun e w'=>e=.returned (.tuple #[]) ∧ StaAt w0 b off n pk (swr g x y m) w'):=fun g x y m w h h1 h2=>swapRange_ok w0 b off n cap pk fv g x y m w h h1 h2 hn
 have H0:Hid (StaAt w0 b off n pk f w):=h
 clear h
 go_enter Tryz.func220,Tryz.ntmps220
 have wi:(m:Int) - (x:Int)=((m - x:Nat):Int):=by omega
 have wj:(y:Int) - (m:Int)=((y - m:Nat):Int):=by omega
 go_wp2_with fail
 go_loopg [10,11] (y - x) (fun gk iv jv wr=>∃ (i j:Nat) (g:Nat → Nat),iv=.int .i64 (i:Int) ∧ jv=.int .i64 (j:Int) ∧ 1 ≤ i ∧ i ≤ m - x ∧ 1 ≤ j ∧ j ≤ y - m ∧ i+j ≤ gk ∧ Hid (rot g (m - i) m (m+j)=rot f x m y) ∧ Hid (StaAt w0 b off n pk g wr))
 case atStart=>exact ⟨m - x,y - m,f,by go_num,by go_num,by omega,by omega,by omega,by omega,by omega,by show _=_;rw [show m - (m - x)=x by omega,show m+(y - m)=y by omega],H0⟩
 case round=>
  clear H0
  obtain ⟨i,j,g,rfl,rfl,hi1,hi2,hj1,hj2,hgk,HR,H⟩:=hrel
  have hmi:(m:Int) - (i:Int)=((m - i:Nat):Int):=by omega
  obtain ⟨s,hs⟩:∃ s,m - i=s:=⟨_,rfl⟩
  rw [hs] at hmi
  have HSI:Hid (m - i=s):=hs
  clear hs wi wj
  rcases Nat.lt_trichotomy i j with hlt | heq | hgt
  ·
   have z1:((i:Int) == (j:Int))=false:=by simp;omega
   have z2:¬ (j:Int) < (i:Int):=by omega
   obtain ⟨q,hq⟩:∃ q,m+j - i=q:=⟨_,rfl⟩
   have wq:(m:Int)+(j:Int) - (i:Int)=(q:Int):=by omega
   have HC:=HS.out g s q i wr H.out (by have:=HSI.out;omega) (by omega)
   have HC':Hid (Calls Tryz.prog 231 #[.slice (some ⟨b,off,none⟩) n cap,.int .i64 (s:Int),.int .i64 (q:Int),.int .i64 (i:Int),fv] wr fun e w'=>e=.returned (.tuple #[]) ∧ StaAt w0 b off n pk (swr g s q i) w'):=HC
   have HE:Hid (rot (swr g s q i) s m (m+(j - i))=rot f x m y):=by show _=_;rw [← HR.out,← hq,← HSI.out];exact rot_right g hlt (by omega)
   clear HC hq HR H
   go_wp2_with fail
   refine HC'.out.mono ?_
   rintro e w1 ⟨rfl,h1⟩
   have H1:Hid (StaAt w0 b off n pk (swr g s q i) w1):=h1
   clear h1 HC'
   go_wp2_with fail
   go_roundg (i+(j - i))
   case measure=>omega
   case rel=>exact ⟨i,j - i,_,rfl,by go_num,hi1,hi2,by omega,by omega,Nat.le_refl _,by show _=_;rw [HSI.out];exact HE.out,H1⟩
  ·
   subst heq
   have HC:=HS.out g s m i wr H.out (by have:=HSI.out;omega) (by omega)
   have HC':Hid (Calls Tryz.prog 231 #[.slice (some ⟨b,off,none⟩) n cap,.int .i64 (s:Int),.int .i64 (m:Int),.int .i64 (i:Int),fv] wr fun e w'=>e=.returned (.tuple #[]) ∧ StaAt w0 b off n pk (swr g s m i) w'):=HC
   have HE:Hid (swr g s m i=rot f x m y):=by show _=_;rw [← HR.out,← HSI.out];exact rot_same g (by omega)
   clear HC HR H
   go_wp2_with fail
   refine HC'.out.mono ?_
   rintro e w1 ⟨rfl,h1⟩
   rw [HE.out] at h1
   have H1:Hid (StaAt w0 b off n pk (rot f x m y) w1):=h1
   clear h1 HC'
   go_wp2_with fail
   go_end0
   exact ⟨rfl,H1.out⟩
  ·
   have z1:((i:Int) == (j:Int))=false:=by simp;omega
   have z2:(j:Int) < (i:Int):=by omega
   have HC:=HS.out g s m j wr H.out (by have:=HSI.out;omega) (by omega)
   have HC':Hid (Calls Tryz.prog 231 #[.slice (some ⟨b,off,none⟩) n cap,.int .i64 (s:Int),.int .i64 (m:Int),.int .i64 (j:Int),fv] wr fun e w'=>e=.returned (.tuple #[]) ∧ StaAt w0 b off n pk (swr g s m j) w'):=HC
   have HE:Hid (rot (swr g s m j) (m - (i - j)) m (m+j)=rot f x m y):=by show _=_;rw [← HR.out,← HSI.out];exact rot_left g hgt (by omega)
   clear HC HR H
   go_wp2_with fail
   refine HC'.out.mono ?_
   rintro e w1 ⟨rfl,h1⟩
   have H1:Hid (StaAt w0 b off n pk (swr g s m j) w1):=h1
   clear h1 HC'
   go_wp2_with fail
   go_roundg (i - j+j)
   case measure=>omega
   case rel=>exact ⟨i - j,j,_,by go_num,rfl,by omega,by omega,hj1,hj2,Nat.le_refl _,HE,H1⟩
theorem Tryz.callByTick (args:Array Value) (W:World):Sem.run Tryz.prog (callFunc 140 args) W=.ok (.enter 140 args) W:=by kernel_rfl
theorem byTick_call (p q:Pk) (w:World) :
  Calls Tryz.prog 140 #[.agg #[.int .i64 p.flow,.int .i64 p.size,.int .i64 p.tick],.agg #[.int .i64 q.flow,.int .i64 q.size,.int .i64 q.tick]] w fun e w'=>e=.returned (.int .i64 (cmpI p.tick q.tick)) ∧ Below w.heap.size w w':=by
 obtain ⟨p0,p1,p2⟩:=p
 obtain ⟨q0,q1,q2⟩:=q
 have HC:Hid (∀ W:World,Calls Tryz.prog 141 #[.int .i64 p2,.int .i64 q2] W fun e w'=>e=.returned (.int .i64 (cmpI p2 q2)) ∧ w'=W):=fun W=>compare_any p2 q2 W
 have hb1:Below w.heap.size w (w.alloc (.cells #[.int .i64 p0,.int .i64 p1,.int .i64 p2] 58)):=(Below.refl _ _).alloc (Nat.le_refl _) _
 have HB:Hid (Below w.heap.size w ((w.alloc (.cells #[.int .i64 p0,.int .i64 p1,.int .i64 p2] 58)).alloc (.cells #[.int .i64 q0,.int .i64 q1,.int .i64 q2] 58))):=hb1.alloc hb1.size _
 show Calls Tryz.prog 140 #[.agg #[.int .i64 p0,.int .i64 p1,.int .i64 p2],.agg #[.int .i64 q0,.int .i64 q1,.int .i64 q2]] w fun e w'=>e=.returned (.int .i64 (cmpI p2 q2)) ∧ Below w.heap.size w w'
 generalize cmpI p2 q2=r at HC ⊢
 clear hb1
 go_enter Tryz.func140,Tryz.ntmps140
 go_wp2_with fail
 refine (HC.out _).mono ?_
 rintro e w1 ⟨rfl,rfl⟩
 go_wp2_with fail
 go_ret
 exact ⟨rfl,HB.out⟩
def tickBy (pk:Nat → Pk) (x:Nat):Int:=(pk x).tick
theorem insertion_ok (w0:World) (b off n cap:Nat) (pk:Nat → Pk) (f:Nat → Nat) (x y:Nat) (w:World) (h:StaAt w0 b off n pk f w) (hxy:x ≤ y) (hy:y ≤ n) (hn:n ≤ 1000) (hnum:∀ i j,x ≤ i → i < j → j < y → f i < f j) :
  Calls Tryz.prog 193 #[.slice (some ⟨b,off,none⟩) n cap,.int .i64 (x:Int),.int .i64 (y:Int),.func (.func 140) #[] #[]] w fun e w'=>e=.returned (.tuple #[]) ∧ ∃ g,Merged (tickBy pk) f g x y ∧ StaAt w0 b off n pk g w':=by
 have H0:Hid (StaAt w0 b off n pk f w):=h
 have HN:Hid (∀ i j,x ≤ i → i < j → j < y → f i < f j):=hnum
 have hcall:=Tryz.callByTick
 clear h hnum
 go_enter Tryz.func193,Tryz.ntmps193
 go_wp2_with fail
 go_loopg [8] (y - x) (fun gk iv wr=>∃ (i:Nat) (g:Nat → Nat),iv=.int .i64 (i:Int) ∧ x < i ∧ (i ≤ y ∨ g=f ∧ i=x+1) ∧ y - i ≤ gk ∧ Hid (Merged (tickBy pk) f g x i) ∧ Hid (StaAt w0 b off n pk g wr))
 case atStart=>exact ⟨x+1,f,by go_num,by omega,.inr ⟨rfl,rfl⟩,by omega,⟨Mixed.refl _ _ _,fun i j h1 h2 h3=>by omega⟩,H0⟩
 case round=>
  clear H0
  obtain ⟨i,g,rfl,hxi,hiy,hgk,HM,H⟩:=hrel
  by_cases hlt:i < y
  ·
   have hltz:(i:Int) < (y:Int):=by omega
   have HL:Hid (Lower g x i (i+1)):=fun k l h1 h2 h3 h4=>by
    obtain rfl:l=i:=by omega
    rw [HM.out.1.out l (by omega)]
    obtain ⟨k',k1,k2,k3⟩:=HM.out.1.of k h1 h2
    rw [k3]
    exact HN.out k' l k1 k2 hlt
   clear hiy
   go_wp2_with fail
   obtain ⟨W0,hW0⟩:∃ W,W=wr:=⟨_,rfl⟩
   subst hW0
   obtain ⟨gO,hgO⟩:∃ z,z=gk:=⟨_,rfl⟩
   subst hgO
   go_loopg [9] i (fun gk2 jv wr=>∃ p:Nat,jv=.int .i64 (p:Int) ∧ x ≤ p ∧ p ≤ i ∧ p ≤ gk2 ∧ Hid (p=i ∨ tickBy pk (g i) < tickBy pk (g p)) ∧ Hid (StaAt w0 b off n pk (rot g p i (i+1)) wr))
   case atStart=>exact ⟨i,rfl,by omega,Nat.le_refl _,Nat.le_refl _,.inl rfl,by show StaAt _ _ _ _ _ _ _;rw [rot_end];exact H.out⟩
   case round=>
    obtain ⟨p,rfl,hxp,hpi,hgk2,HHi,H'⟩:=hrel
    clear H
    have OUT:Hid ((p=x ∨ tickBy pk (g (p - 1)) ≤ tickBy pk (g i)) → Merged (tickBy pk) f (rot g p i (i+1)) x (i+1)):=fun hlo=>by
     have hm:=last_in hxp hpi HM.out.2 HL.out hlo HHi.out
     exact ⟨(HM.out.1.wide (Nat.le_refl _) (by omega)).trans hm.1,hm.2⟩
    have EP:Hid (rot g p i (i+1) p=g i):=by show rot _ _ _ _ _=_;simp only [rot];rw [if_pos (by omega)];congr 1;omega
    by_cases hxp':x < p
    ·
     have hxz:(x:Int) < (p:Int):=by omega
     have hxd:decide ((x:Int) < (p:Int))=true:=by simpa using hxz
     obtain ⟨q,hq⟩:∃ q,p - 1=q:=⟨_,rfl⟩
     have HQ:Hid (p=q+1):=by show _=_;omega
     have EQ:Hid (rot g p i (i+1) q=g q):=by show rot _ _ _ _ _=_;simp only [rot];rw [if_neg (by omega),if_neg (by omega)]
     have HG:Hid (xch (rot g p i (i+1)) p q=rot g q i (i+1)):=by show _=_;rw [HQ.out];exact rot_back g (by omega)
     rw [hq] at OUT
     obtain ⟨k,hk⟩:∃ k,rot g p i (i+1)=k:=⟨_,rfl⟩
     rw [hk] at H' EP EQ HG OUT
     have hpn:p < n:=by omega
     have hqn:q < n:=by omega
     have hpq:p ≠ q:=by omega
     have wq:IntKind.i64.wrap ((p:Int) - 1)=(q:Int):=by rw [IntKind.wrap_i64];omega
     have wq':(p:Int) - 1=(q:Int):=by omega
     clear hk hq
     have a0:=H'.out.row.c0 p hpn
     have a1:=H'.out.row.c1 p hpn
     have a2:=H'.out.row.c2 p hpn
     have b0:=H'.out.row.c0 q hqn
     have b1:=H'.out.row.c1 q hqn
     have b2:=H'.out.row.c2 q hqn
     have hpz:(p:Int) < (n:Int):=by omega
     have hqz:(q:Int) < (n:Int):=by omega
     have HC:Hid (∀ l:Later wr,Calls Tryz.prog 140 #[.agg #[.int .i64 (pk (k p)).flow,.int .i64 (pk (k p)).size,.int .i64 (pk (k p)).tick],.agg #[.int .i64 (pk (k q)).flow,.int .i64 (pk (k q)).size,.int .i64 (pk (k q)).tick]] l.w fun e w'=>e=.returned (.int .i64 (cmpI (pk (k p)).tick (pk (k q)).tick)) ∧ ∃ l':Later wr,w'=l'.w):=Later.calls fun W _=>byTick_call _ _ W
     obtain ⟨r,hr⟩:∃ r,cmpI (pk (k p)).tick (pk (k q)).tick=r:=⟨_,rfl⟩
     have hrl:r < 0 ↔ (pk (k p)).tick < (pk (k q)).tick:=by rw [← hr];exact cmpI_lt
     have HRL:Hid (r < 0 ↔ (pk (k p)).tick < (pk (k q)).tick):=hrl
     rw [hr] at HC
     generalize (pk (k p)).flow=u0 at a0 HC
     generalize (pk (k p)).size=u1 at a1 HC
     generalize (pk (k p)).tick=u2 at a2 HC
     generalize (pk (k q)).flow=v0 at b0 HC
     generalize (pk (k q)).size=v1 at b1 HC
     generalize (pk (k q)).tick=v2 at b2 HC
     have y0:=fun l:Later wr=>l.cell a0
     have y1:=fun l:Later wr=>l.cell a1
     have y2:=fun l:Later wr=>l.cell a2
     have y3:=fun l:Later wr=>l.cell b0
     have y4:=fun l:Later wr=>l.cell b1
     have y5:=fun l:Later wr=>l.cell b2
     have hne:Nonempty (Later wr):=⟨⟨wr,Below.refl _ _⟩⟩
     clear hr hrl a0 a1 a2 b0 b1 b2
     by_cases hless:r < 0
     ·
      have hlt2:=HRL.out.1 hless
      rw [EP.out,EQ.out] at hlt2
      have HT:Hid (tickBy pk (g i) < tickBy pk (g q)):=hlt2
      have hd:decide (r < 0)=true:=by simpa using hless
      clear hlt2 HRL
      go_wp2_with fail
      refine wp_region_later (by kernel_rfl) (by kernel_rfl) ?_
      repeat (go_big_quiet_step (exact HC.out _))
      refine wpQuiet_nil ?_
      rintro _ ⟨gq,rfl⟩
      have H1:Hid (StaAt w0 b off n pk (k) gq.w):=H'.out.later gq.bel
      generalize gq.w=W1 at H1 ⊢
      clear HC y0 y1 y2 y3 y4 y5 hne gq
      clear hless hd hxd
      have hpz:(p:Int) < (n:Int):=by omega
      have hqz:(q:Int) < (n:Int):=by omega
      have a0:=H1.out.row.c0 p hpn
      have a1:=H1.out.row.c1 p hpn
      have a2:=H1.out.row.c2 p hpn
      have b0:=H1.out.row.c0 q hqn
      have b1:=H1.out.row.c1 q hqn
      have b2:=H1.out.row.c2 q hqn
      have f0:=H1.out.row.fz (off+p * 3)
      have f1:=H1.out.row.fz (off+p * 3+1)
      have f2:=H1.out.row.fz (off+p * 3+2)
      have g0:=H1.out.row.fz (off+q * 3)
      have g1:=H1.out.row.fz (off+q * 3+1)
      have g2:=H1.out.row.fz (off+q * 3+2)
      have H2:∃ V,Hid ((put3 (put3 W1 b (off+p * 3) (pk (k q))) b (off+q * 3) (pk (k p))).drew=V) ∧ Hid (StaAt w0 b off n pk (rot g q i (i+1)) V):=⟨_,rfl,by show StaAt _ _ _ _ _ _ _;rw [← HG.out];exact (H1.out.xch hpn hqn).drew⟩
      have k0:(put3 W1 b (off+p * 3) (pk (k q))).cell? ⟨b,off+q * 3,none⟩=some (.int .i64 (pk (k q)).flow):=by rw [put3_out _ _ _ _ (by omega)];exact b0
      have k1:(put3 W1 b (off+p * 3) (pk (k q))).cell? ⟨b,off+q * 3+1,none⟩=some (.int .i64 (pk (k q)).size):=by rw [put3_out _ _ _ _ (by omega)];exact b1
      have k2:(put3 W1 b (off+p * 3) (pk (k q))).cell? ⟨b,off+q * 3+2,none⟩=some (.int .i64 (pk (k q)).tick):=by rw [put3_out _ _ _ _ (by omega)];exact b2
      obtain ⟨V,HV,HVS⟩:=H2
      unfold put3 at HV k0 k1 k2
      obtain ⟨u0,hu0⟩:∃ u,(pk (k p)).flow=u:=⟨_,rfl⟩
      obtain ⟨u1,hu1⟩:∃ u,(pk (k p)).size=u:=⟨_,rfl⟩
      obtain ⟨u2,hu2⟩:∃ u,(pk (k p)).tick=u:=⟨_,rfl⟩
      obtain ⟨v0,hv0⟩:∃ v,(pk (k q)).flow=v:=⟨_,rfl⟩
      obtain ⟨v1,hv1⟩:∃ v,(pk (k q)).size=v:=⟨_,rfl⟩
      obtain ⟨v2,hv2⟩:∃ v,(pk (k q)).tick=v:=⟨_,rfl⟩
      rw [hu0] at a0 HV
      rw [hu1] at a1 HV
      rw [hu2] at a2 HV
      rw [hv0] at b0 HV k0 k1 k2
      rw [hv1] at b1 HV k0 k1 k2
      rw [hv2] at b2 HV k0 k1 k2
      clear hu0 hu1 hu2 hv0 hv1 hv2
      clear H1
      go_wp2_with fail
      go_region
      rw [HV.out]
      clear HV a0 a1 a2 b0 b1 b2 f0 f1 f2 g0 g1 g2 k0 k1 k2
      go_wp2_with fail
      go_roundg q
      case measure=>have:=HQ.out;omega
      case rel=>exact ⟨q,by go_num,by have:=HQ.out;omega,by have:=HQ.out;omega,Nat.le_refl _,.inr HT.out,HVS⟩
     ·
      have hge:¬ (pk (k p)).tick < (pk (k q)).tick:=fun h=>hless (HRL.out.2 h)
      rw [EP.out,EQ.out] at hge
      have HM2:Hid (Merged (tickBy pk) f k x (i+1)):=OUT.out (.inr (by unfold tickBy;omega))
      have hd:decide (r < 0)=false:=by simpa using hless
      clear hge HRL
      go_wp2_with fail
      refine wp_region_later (by kernel_rfl) (by kernel_rfl) ?_
      repeat (go_big_quiet_step (exact HC.out _))
      refine wpQuiet_nil ?_
      rintro _ ⟨gq,rfl⟩
      have H1:Hid (StaAt w0 b off n pk (k) gq.w):=H'.out.later gq.bel
      generalize gq.w=W1 at H1 ⊢
      clear HC y0 y1 y2 y3 y4 y5 hne gq
      clear hless hd hxd
      go_wp2_with fail
      go_roundg (y - (i+1))
      case measure=>omega
      case rel=>exact ⟨i+1,k,by go_num,by omega,.inl (by omega),Nat.le_refl _,HM2,H1⟩
    ·
     have hxz:¬ (x:Int) < (p:Int):=by omega
     have hxd:decide ((x:Int) < (p:Int))=false:=by simpa using hxz
     have HM2:Hid (Merged (tickBy pk) f (rot g p i (i+1)) x (i+1)):=OUT.out (.inl (by omega))
     have hne:Nonempty (Later wr):=⟨⟨wr,Below.refl _ _⟩⟩
     go_wp2_with fail
     refine wp_region_later (by kernel_rfl) (by kernel_rfl) ?_
     repeat (go_big_quiet_step (fail))
     refine wpQuiet_nil ?_
     rintro _ ⟨gq,rfl⟩
     have H1:Hid (StaAt w0 b off n pk (rot g p i (i+1)) gq.w):=H'.out.later gq.bel
     generalize gq.w=W1 at H1 ⊢
     clear hne gq
     go_wp2_with fail
     go_roundg (y - (i+1))
     case measure=>omega
     case rel=>exact ⟨i+1,_,by go_num,by omega,.inl (by omega),Nat.le_refl _,HM2,H1⟩
  ·
   have hltz:¬ (i:Int) < (y:Int):=by omega
   have HM2:Hid (Merged (tickBy pk) f g x y):=by
    rcases hiy with h | h
    ·
     obtain rfl:i=y:=by omega
     exact HM.out
    ·
     rw [h.1]
     have:=h.2
     exact ⟨Mixed.refl _ _ _,fun k l h1 h2 h3=>by omega⟩
   go_wp2_with fail
   go_end0
   exact ⟨rfl,g,HM2.out,H.out⟩
theorem symFirst_ok (w0:World) (b off n cap:Nat) (pk:Nat → Pk) (f:Nat → Nat) (x m y:Nat) (w:World) (h:StaAt w0 b off n pk f w) (hx1:m=x+1) (hmy:m < y) (hy:y ≤ n) (hn:n ≤ 1000) (_:Rises (tickBy pk) f x m) (hr2:Rises (tickBy pk) f m y) (hl:Lower f x m y) :
  Calls Tryz.prog 194 #[.slice (some ⟨b,off,none⟩) n cap,.int .i64 (x:Int),.int .i64 (m:Int),.int .i64 (y:Int),.func (.func 140) #[] #[]] w fun e w'=>e=.returned (.tuple #[]) ∧ ∃ g,Merged (tickBy pk) f g x y ∧ StaAt w0 b off n pk g w':=by
 have H0:Hid (StaAt w0 b off n pk f w):=h
 have HR:Hid (Rises (tickBy pk) f m y):=hr2
 have HL:Hid (Lower f x m y):=hl
 have HX:Hid (m=x+1):=hx1
 have hcall:=Tryz.callByTick
 have wd1:(m:Int) - (x:Int)=1:=by omega
 clear h hr2 hl hx1
 go_enter Tryz.func194,Tryz.ntmps194
 go_wp2_with fail
 go_loopg [10,11,12] y (fun gk iv jv hv wr=>∃ (i j:Nat),iv=.int .i64 (i:Int) ∧ jv=.int .i64 (j:Int) ∧ m ≤ i ∧ i ≤ j ∧ j ≤ y ∧ j - i ≤ gk ∧ Hid (i=m ∨ tickBy pk (f (i - 1)) < tickBy pk (f x)) ∧ Hid (j=y ∨ tickBy pk (f x) ≤ tickBy pk (f j)) ∧ Hid (StaAt w0 b off n pk f wr))
 case atStart=>exact ⟨m,y,rfl,rfl,Nat.le_refl _,by omega,Nat.le_refl _,by omega,.inl rfl,.inl rfl,H0⟩
 case round=>
  clear H0
  obtain ⟨i,j,rfl,rfl,hmi,hij,hjy,hgk,HLo,HHi,H⟩:=hrel
  by_cases hlt:i < j
  ·
   have hltz:(i:Int) < (j:Int):=by omega
   obtain ⟨p,hp⟩:∃ p,(i+j) / 2=p:=⟨_,rfl⟩
   have wp:((i:Int)+(j:Int)) / 2=(p:Int):=by omega
   have hip:i ≤ p:=by omega
   have hpj:p < j:=by omega
   have hpn:p < n:=by omega
   have hqn:x < n:=by have:=HX.out;omega
   clear hp
   have a0:=H.out.row.c0 p hpn
   have a1:=H.out.row.c1 p hpn
   have a2:=H.out.row.c2 p hpn
   have b0:=H.out.row.c0 x hqn
   have b1:=H.out.row.c1 x hqn
   have b2:=H.out.row.c2 x hqn
   have hpz:(p:Int) < (n:Int):=by omega
   have hqz:(x:Int) < (n:Int):=by omega
   have HC:Hid (∀ l:Later wr,Calls Tryz.prog 140 #[.agg #[.int .i64 (pk (f p)).flow,.int .i64 (pk (f p)).size,.int .i64 (pk (f p)).tick],.agg #[.int .i64 (pk (f x)).flow,.int .i64 (pk (f x)).size,.int .i64 (pk (f x)).tick]] l.w fun e w'=>e=.returned (.int .i64 (cmpI (pk (f p)).tick (pk (f x)).tick)) ∧ ∃ l':Later wr,w'=l'.w):=Later.calls fun W _=>byTick_call _ _ W
   obtain ⟨r,hr⟩:∃ r,cmpI (pk (f p)).tick (pk (f x)).tick=r:=⟨_,rfl⟩
   have hrl:r < 0 ↔ (pk (f p)).tick < (pk (f x)).tick:=by rw [← hr];exact cmpI_lt
   have HRL:Hid (r < 0 ↔ (pk (f p)).tick < (pk (f x)).tick):=hrl
   rw [hr] at HC
   generalize (pk (f p)).flow=u0 at a0 HC
   generalize (pk (f p)).size=u1 at a1 HC
   generalize (pk (f p)).tick=u2 at a2 HC
   generalize (pk (f x)).flow=v0 at b0 HC
   generalize (pk (f x)).size=v1 at b1 HC
   generalize (pk (f x)).tick=v2 at b2 HC
   have y0:=fun l:Later wr=>l.cell a0
   have y1:=fun l:Later wr=>l.cell a1
   have y2:=fun l:Later wr=>l.cell a2
   have y3:=fun l:Later wr=>l.cell b0
   have y4:=fun l:Later wr=>l.cell b1
   have y5:=fun l:Later wr=>l.cell b2
   have hne:Nonempty (Later wr):=⟨⟨wr,Below.refl _ _⟩⟩
   clear hr hrl a0 a1 a2 b0 b1 b2
   by_cases hless:r < 0
   ·
    have HT:Hid (tickBy pk (f p) < tickBy pk (f x)):=HRL.out.1 hless
    have hd:decide (r < 0)=true:=by simpa using hless
    clear HRL
    go_wp2_with fail
    refine wp_region_later (by kernel_rfl) (by kernel_rfl) ?_
    repeat (go_big_quiet_step (exact HC.out _))
    refine wpQuiet_nil ?_
    rintro _ ⟨gq,rfl⟩
    have H1:Hid (StaAt w0 b off n pk (f) gq.w):=H.out.later gq.bel
    generalize gq.w=W1 at H1 ⊢
    clear HC y0 y1 y2 y3 y4 y5 hne gq
    clear hless hd
    go_wp2_with fail
    go_roundg (j - (p+1))
    case measure=>omega
    case rel=>exact ⟨p+1,j,by go_num,rfl,by omega,by omega,hjy,Nat.le_refl _,.inr HT.out,HHi,H1⟩
   ·
    have HT:Hid (tickBy pk (f x) ≤ tickBy pk (f p)):=by show tickBy pk (f x) ≤ tickBy pk (f p);have:¬ (pk (f p)).tick < (pk (f x)).tick:=fun h=>hless (HRL.out.2 h);unfold tickBy;omega
    have hd:decide (r < 0)=false:=by simpa using hless
    clear HRL
    go_wp2_with fail
    refine wp_region_later (by kernel_rfl) (by kernel_rfl) ?_
    repeat (go_big_quiet_step (exact HC.out _))
    refine wpQuiet_nil ?_
    rintro _ ⟨gq,rfl⟩
    have H1:Hid (StaAt w0 b off n pk (f) gq.w):=H.out.later gq.bel
    generalize gq.w=W1 at H1 ⊢
    clear HC y0 y1 y2 y3 y4 y5 hne gq
    clear hless hd
    go_wp2_with fail
    go_roundg (p - i)
    case measure=>omega
    case rel=>exact ⟨i,p,rfl,by go_num,hmi,hip,by omega,Nat.le_refl _,HLo,.inr HT.out,H1⟩
  ·
   have hltz:¬ (i:Int) < (j:Int):=by omega
   obtain rfl:i=j:=by omega
   have HMg:Hid (Merged (tickBy pk) f (rot f x (x+1) i) x y):=by
    have e:=HX.out
    have h1:=HR.out
    have h2:=HL.out
    have h3:=HLo.out
    rw [e] at h1 h2 h3
    exact first_in (by omega) hjy h1 h2 h3 HHi.out
   obtain ⟨z,hz⟩:∃ z,i - 1=z:=⟨_,rfl⟩
   have wz:(i:Int) - 1=(z:Int):=by omega
   have HZ:Hid (i=z+1):=by show _=_;omega
   have hxz:x ≤ z:=by have:=HX.out;omega
   have hzn:z < n:=by omega
   have HS:Hid (StaAt w0 b off n pk (rot f x (x+1) (x+1)) wr):=by show StaAt _ _ _ _ _ _ _;rw [rot_none];exact H.out
   clear hz hij hlt H
   go_wp2_with fail
   obtain ⟨W0,hW0⟩:∃ W,W=wr:=⟨_,rfl⟩
   subst hW0
   obtain ⟨gO,hgO⟩:∃ z,z=gk:=⟨_,rfl⟩
   subst hgO
   go_loopg [13] z (fun gk2 kv wr=>∃ p:Nat,kv=.int .i64 (p:Int) ∧ x ≤ p ∧ p ≤ z ∧ z - p ≤ gk2 ∧ Hid (StaAt w0 b off n pk (rot f x (x+1) (p+1)) wr))
   case atStart=>exact ⟨x,rfl,Nat.le_refl _,hxz,by omega,HS⟩
   case round=>
    clear HS
    obtain ⟨p,rfl,hxp,hpz',hgk2,H⟩:=hrel
    by_cases hlt:p < z
    ·
     have hltz2:(p:Int) < (z:Int):=by omega
     obtain ⟨g,hg⟩:∃ g,rot f x (x+1) (p+1)=g:=⟨_,rfl⟩
     obtain ⟨q,hq⟩:∃ q,p+1=q:=⟨_,rfl⟩
     have HG:Hid (xch g p q=rot f x (x+1) (q+1)):=by show _=_;rw [← hg,← hq];exact rot_on f hxp
     rw [hg] at H
     have hpn:p < n:=by omega
     have hqn:q < n:=by omega
     have hpq:p ≠ q:=by omega
     have wq:IntKind.i64.wrap ((p:Int)+1)=(q:Int):=by rw [IntKind.wrap_i64];omega
     have wq':(p:Int)+1=(q:Int):=by omega
     have hqz':q ≤ z:=by omega
     have HQ:Hid (p+1=q):=hq
     clear hg hq
     have hpz:(p:Int) < (n:Int):=by omega
     have hqz:(q:Int) < (n:Int):=by omega
     have a0:=H.out.row.c0 p hpn
     have a1:=H.out.row.c1 p hpn
     have a2:=H.out.row.c2 p hpn
     have b0:=H.out.row.c0 q hqn
     have b1:=H.out.row.c1 q hqn
     have b2:=H.out.row.c2 q hqn
     have f0:=H.out.row.fz (off+p * 3)
     have f1:=H.out.row.fz (off+p * 3+1)
     have f2:=H.out.row.fz (off+p * 3+2)
     have g0:=H.out.row.fz (off+q * 3)
     have g1:=H.out.row.fz (off+q * 3+1)
     have g2:=H.out.row.fz (off+q * 3+2)
     have H2:∃ V,Hid ((put3 (put3 wr b (off+p * 3) (pk (g q))) b (off+q * 3) (pk (g p))).drew=V) ∧ Hid (StaAt w0 b off n pk (rot f x (x+1) (q+1)) V):=⟨_,rfl,by show StaAt _ _ _ _ _ _ _;rw [← HG.out];exact (H.out.xch hpn hqn).drew⟩
     have k0:(put3 wr b (off+p * 3) (pk (g q))).cell? ⟨b,off+q * 3,none⟩=some (.int .i64 (pk (g q)).flow):=by rw [put3_out _ _ _ _ (by omega)];exact b0
     have k1:(put3 wr b (off+p * 3) (pk (g q))).cell? ⟨b,off+q * 3+1,none⟩=some (.int .i64 (pk (g q)).size):=by rw [put3_out _ _ _ _ (by omega)];exact b1
     have k2:(put3 wr b (off+p * 3) (pk (g q))).cell? ⟨b,off+q * 3+2,none⟩=some (.int .i64 (pk (g q)).tick):=by rw [put3_out _ _ _ _ (by omega)];exact b2
     obtain ⟨V,HV,HVS⟩:=H2
     unfold put3 at HV k0 k1 k2
     obtain ⟨u0,hu0⟩:∃ u,(pk (g p)).flow=u:=⟨_,rfl⟩
     obtain ⟨u1,hu1⟩:∃ u,(pk (g p)).size=u:=⟨_,rfl⟩
     obtain ⟨u2,hu2⟩:∃ u,(pk (g p)).tick=u:=⟨_,rfl⟩
     obtain ⟨v0,hv0⟩:∃ v,(pk (g q)).flow=v:=⟨_,rfl⟩
     obtain ⟨v1,hv1⟩:∃ v,(pk (g q)).size=v:=⟨_,rfl⟩
     obtain ⟨v2,hv2⟩:∃ v,(pk (g q)).tick=v:=⟨_,rfl⟩
     rw [hu0] at a0 HV
     rw [hu1] at a1 HV
     rw [hu2] at a2 HV
     rw [hv0] at b0 HV k0 k1 k2
     rw [hv1] at b1 HV k0 k1 k2
     rw [hv2] at b2 HV k0 k1 k2
     clear hu0 hu1 hu2 hv0 hv1 hv2
     clear H HG
     go_wp2_with fail
     go_region
     rw [HV.out]
     clear HV a0 a1 a2 b0 b1 b2 f0 f1 f2 g0 g1 g2 k0 k1 k2
     go_wp2_with fail
     go_roundg (z - q)
     case measure=>have:=HQ.out;omega
     case rel=>exact ⟨q,by go_num,by have:=HQ.out;omega,hqz',Nat.le_refl _,HVS⟩
    ·
     have hltz2:¬ (p:Int) < (z:Int):=by omega
     obtain rfl:p=z:=by omega
     have HE:Hid (StaAt w0 b off n pk (rot f x (x+1) i) wr):=by show StaAt _ _ _ _ _ _ _;rw [HZ.out];exact H.out
     clear H
     go_wp2_with fail
     (try simp only [Exit.inBlock,Exit.then])
     refine bodyPost_ret (results_none rfl _ _ _) rfl ?_
     exact ⟨rfl,_,HMg.out,HE.out⟩
theorem symLast_ok (w0:World) (b off n cap:Nat) (pk:Nat → Pk) (f:Nat → Nat) (x m y:Nat) (w:World) (h:StaAt w0 b off n pk f w) (hxm:x+1 < m) (hy1:y=m+1) (hy:y ≤ n) (hn:n ≤ 1000) (hr1:Rises (tickBy pk) f x m) (_:Rises (tickBy pk) f m y) (hl:Lower f x m y) :
  Calls Tryz.prog 194 #[.slice (some ⟨b,off,none⟩) n cap,.int .i64 (x:Int),.int .i64 (m:Int),.int .i64 (y:Int),.func (.func 140) #[] #[]] w fun e w'=>e=.returned (.tuple #[]) ∧ ∃ g,Merged (tickBy pk) f g x y ∧ StaAt w0 b off n pk g w':=by
 have H0:Hid (StaAt w0 b off n pk f w):=h
 have HR:Hid (Rises (tickBy pk) f x m):=hr1
 have HL:Hid (Lower f x m (m+1)):=by rw [hy1] at hl;exact hl
 have HX:Hid (y=m+1):=hy1
 have hcall:=Tryz.callByTick
 have wd1:((m:Int) - (x:Int) == 1)=false:=by simp;omega
 have wd2:(y:Int) - (m:Int)=1:=by omega
 have hmn:m < n:=by omega
 clear h hr1 hl hy1
 go_enter Tryz.func194,Tryz.ntmps194
 go_wp2_with fail
 go_loopg [14,15,16] y (fun gk iv jv hv wr=>∃ (i j:Nat),iv=.int .i64 (i:Int) ∧ jv=.int .i64 (j:Int) ∧ x ≤ i ∧ i ≤ j ∧ j ≤ m ∧ j - i ≤ gk ∧ Hid (i=x ∨ tickBy pk (f (i - 1)) ≤ tickBy pk (f m)) ∧ Hid (j=m ∨ tickBy pk (f m) < tickBy pk (f j)) ∧ Hid (StaAt w0 b off n pk f wr))
 case atStart=>exact ⟨x,m,rfl,rfl,Nat.le_refl _,by omega,Nat.le_refl _,by have:=HX.out;omega,.inl rfl,.inl rfl,H0⟩
 case round=>
  clear H0
  obtain ⟨i,j,rfl,rfl,hmi,hij,hjy,hgk,HLo,HHi,H⟩:=hrel
  by_cases hlt:i < j
  ·
   have hltz:(i:Int) < (j:Int):=by omega
   obtain ⟨q,hq⟩:∃ q,(i+j) / 2=q:=⟨_,rfl⟩
   have wp:((i:Int)+(j:Int)) / 2=(q:Int):=by omega
   have hip:i ≤ q:=by omega
   have hpj:q < j:=by omega
   have hpn:m < n:=hmn
   have hqn:q < n:=by omega
   clear hq
   have a0:=H.out.row.c0 m hpn
   have a1:=H.out.row.c1 m hpn
   have a2:=H.out.row.c2 m hpn
   have b0:=H.out.row.c0 q hqn
   have b1:=H.out.row.c1 q hqn
   have b2:=H.out.row.c2 q hqn
   have hpz:(m:Int) < (n:Int):=by omega
   have hqz:(q:Int) < (n:Int):=by omega
   have HC:Hid (∀ l:Later wr,Calls Tryz.prog 140 #[.agg #[.int .i64 (pk (f m)).flow,.int .i64 (pk (f m)).size,.int .i64 (pk (f m)).tick],.agg #[.int .i64 (pk (f q)).flow,.int .i64 (pk (f q)).size,.int .i64 (pk (f q)).tick]] l.w fun e w'=>e=.returned (.int .i64 (cmpI (pk (f m)).tick (pk (f q)).tick)) ∧ ∃ l':Later wr,w'=l'.w):=Later.calls fun W _=>byTick_call _ _ W
   obtain ⟨r,hr⟩:∃ r,cmpI (pk (f m)).tick (pk (f q)).tick=r:=⟨_,rfl⟩
   have hrl:r < 0 ↔ (pk (f m)).tick < (pk (f q)).tick:=by rw [← hr];exact cmpI_lt
   have HRL:Hid (r < 0 ↔ (pk (f m)).tick < (pk (f q)).tick):=hrl
   rw [hr] at HC
   generalize (pk (f m)).flow=u0 at a0 HC
   generalize (pk (f m)).size=u1 at a1 HC
   generalize (pk (f m)).tick=u2 at a2 HC
   generalize (pk (f q)).flow=v0 at b0 HC
   generalize (pk (f q)).size=v1 at b1 HC
   generalize (pk (f q)).tick=v2 at b2 HC
   have y0:=fun l:Later wr=>l.cell a0
   have y1:=fun l:Later wr=>l.cell a1
   have y2:=fun l:Later wr=>l.cell a2
   have y3:=fun l:Later wr=>l.cell b0
   have y4:=fun l:Later wr=>l.cell b1
   have y5:=fun l:Later wr=>l.cell b2
   have hne:Nonempty (Later wr):=⟨⟨wr,Below.refl _ _⟩⟩
   clear hr hrl a0 a1 a2 b0 b1 b2
   by_cases hless:r < 0
   ·
    have HT:Hid (tickBy pk (f m) < tickBy pk (f q)):=HRL.out.1 hless
    have hd:decide (r < 0)=true:=by simpa using hless
    clear HRL
    go_wp2_with fail
    refine wp_region_later (by kernel_rfl) (by kernel_rfl) ?_
    repeat (go_big_quiet_step (exact HC.out _))
    refine wpQuiet_nil ?_
    rintro _ ⟨gq,rfl⟩
    have H1:Hid (StaAt w0 b off n pk (f) gq.w):=H.out.later gq.bel
    generalize gq.w=W1 at H1 ⊢
    clear HC y0 y1 y2 y3 y4 y5 hne gq
    clear hless hd
    go_wp2_with fail
    go_roundg (q - i)
    case measure=>omega
    case rel=>exact ⟨i,q,rfl,by go_num,hmi,hip,by omega,Nat.le_refl _,HLo,.inr HT.out,H1⟩
   ·
    have HT:Hid (tickBy pk (f q) ≤ tickBy pk (f m)):=by show tickBy pk (f q) ≤ tickBy pk (f m);have:¬ (pk (f m)).tick < (pk (f q)).tick:=fun h=>hless (HRL.out.2 h);unfold tickBy;omega
    have hd:decide (r < 0)=false:=by simpa using hless
    clear HRL
    go_wp2_with fail
    refine wp_region_later (by kernel_rfl) (by kernel_rfl) ?_
    repeat (go_big_quiet_step (exact HC.out _))
    refine wpQuiet_nil ?_
    rintro _ ⟨gq,rfl⟩
    have H1:Hid (StaAt w0 b off n pk (f) gq.w):=H.out.later gq.bel
    generalize gq.w=W1 at H1 ⊢
    clear HC y0 y1 y2 y3 y4 y5 hne gq
    clear hless hd
    go_wp2_with fail
    go_roundg (j - (q+1))
    case measure=>omega
    case rel=>exact ⟨q+1,j,by go_num,rfl,by omega,by omega,hjy,Nat.le_refl _,.inr HT.out,HHi,H1⟩
  ·
   have hltz:¬ (i:Int) < (j:Int):=by omega
   obtain rfl:i=j:=by omega
   have HMg:Hid (Merged (tickBy pk) f (rot f i m (m+1)) x y):=by
    have e:=HX.out
    rw [e]
    exact last_in hmi hjy HR.out HL.out HLo.out HHi.out
   have HS:Hid (StaAt w0 b off n pk (rot f m m (m+1)) wr):=by show StaAt _ _ _ _ _ _ _;rw [rot_end];exact H.out
   clear hij hlt H
   go_wp2_with fail
   obtain ⟨W0,hW0⟩:∃ W,W=wr:=⟨_,rfl⟩
   subst hW0
   obtain ⟨gO,hgO⟩:∃ z,z=gk:=⟨_,rfl⟩
   subst hgO
   go_loopg [17] m (fun gk2 kv wr=>∃ p:Nat,kv=.int .i64 (p:Int) ∧ i ≤ p ∧ p ≤ m ∧ p - i ≤ gk2 ∧ Hid (StaAt w0 b off n pk (rot f p m (m+1)) wr))
   case atStart=>exact ⟨m,rfl,hjy,Nat.le_refl _,by omega,HS⟩
   case round=>
    clear HS
    obtain ⟨p,rfl,hxp,hpz',hgk2,H⟩:=hrel
    by_cases hlt:i < p
    ·
     have hltz2:(i:Int) < (p:Int):=by omega
     obtain ⟨g,hg⟩:∃ g,rot f p m (m+1)=g:=⟨_,rfl⟩
     obtain ⟨q,hq⟩:∃ q,p - 1=q:=⟨_,rfl⟩
     have HQ:Hid (p=q+1):=by show _=_;omega
     have HG:Hid (xch g p q=rot f q m (m+1)):=by show _=_;rw [← hg,HQ.out];exact rot_back f (by omega)
     rw [hg] at H
     have hpn:p < n:=by omega
     have hqn:q < n:=by omega
     have hpq:p ≠ q:=by omega
     have wq:IntKind.i64.wrap ((p:Int) - 1)=(q:Int):=by rw [IntKind.wrap_i64];omega
     have wq':(p:Int) - 1=(q:Int):=by omega
     clear hg hq
     have hpz:(p:Int) < (n:Int):=by omega
     have hqz:(q:Int) < (n:Int):=by omega
     have a0:=H.out.row.c0 p hpn
     have a1:=H.out.row.c1 p hpn
     have a2:=H.out.row.c2 p hpn
     have b0:=H.out.row.c0 q hqn
     have b1:=H.out.row.c1 q hqn
     have b2:=H.out.row.c2 q hqn
     have f0:=H.out.row.fz (off+p * 3)
     have f1:=H.out.row.fz (off+p * 3+1)
     have f2:=H.out.row.fz (off+p * 3+2)
     have g0:=H.out.row.fz (off+q * 3)
     have g1:=H.out.row.fz (off+q * 3+1)
     have g2:=H.out.row.fz (off+q * 3+2)
     have H2:∃ V,Hid ((put3 (put3 wr b (off+p * 3) (pk (g q))) b (off+q * 3) (pk (g p))).drew=V) ∧ Hid (StaAt w0 b off n pk (rot f q m (m+1)) V):=⟨_,rfl,by show StaAt _ _ _ _ _ _ _;rw [← HG.out];exact (H.out.xch hpn hqn).drew⟩
     have k0:(put3 wr b (off+p * 3) (pk (g q))).cell? ⟨b,off+q * 3,none⟩=some (.int .i64 (pk (g q)).flow):=by rw [put3_out _ _ _ _ (by omega)];exact b0
     have k1:(put3 wr b (off+p * 3) (pk (g q))).cell? ⟨b,off+q * 3+1,none⟩=some (.int .i64 (pk (g q)).size):=by rw [put3_out _ _ _ _ (by omega)];exact b1
     have k2:(put3 wr b (off+p * 3) (pk (g q))).cell? ⟨b,off+q * 3+2,none⟩=some (.int .i64 (pk (g q)).tick):=by rw [put3_out _ _ _ _ (by omega)];exact b2
     obtain ⟨V,HV,HVS⟩:=H2
     unfold put3 at HV k0 k1 k2
     obtain ⟨u0,hu0⟩:∃ u,(pk (g p)).flow=u:=⟨_,rfl⟩
     obtain ⟨u1,hu1⟩:∃ u,(pk (g p)).size=u:=⟨_,rfl⟩
     obtain ⟨u2,hu2⟩:∃ u,(pk (g p)).tick=u:=⟨_,rfl⟩
     obtain ⟨v0,hv0⟩:∃ v,(pk (g q)).flow=v:=⟨_,rfl⟩
     obtain ⟨v1,hv1⟩:∃ v,(pk (g q)).size=v:=⟨_,rfl⟩
     obtain ⟨v2,hv2⟩:∃ v,(pk (g q)).tick=v:=⟨_,rfl⟩
     rw [hu0] at a0 HV
     rw [hu1] at a1 HV
     rw [hu2] at a2 HV
     rw [hv0] at b0 HV k0 k1 k2
     rw [hv1] at b1 HV k0 k1 k2
     rw [hv2] at b2 HV k0 k1 k2
     clear hu0 hu1 hu2 hv0 hv1 hv2
     clear H HG
     go_wp2_with fail
     go_region
     rw [HV.out]
     clear HV a0 a1 a2 b0 b1 b2 f0 f1 f2 g0 g1 g2 k0 k1 k2
     go_wp2_with fail
     go_roundg (q - i)
     case measure=>have:=HQ.out;omega
     case rel=>exact ⟨q,by go_num,by have:=HQ.out;omega,by have:=HQ.out;omega,Nat.le_refl _,HVS⟩
    ·
     have hltz2:¬ (i:Int) < (p:Int):=by omega
     obtain rfl:p=i:=by omega
     go_wp2_with fail
     (try simp only [Exit.inBlock,Exit.then])
     refine bodyPost_ret (results_none rfl _ _ _) rfl ?_
     exact ⟨rfl,_,HMg.out,H.out⟩
end Go.Proofs.YtipdclphpkgceaaGreatDoor
