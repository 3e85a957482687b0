/- Own facts, put together: no statement of its own. -/
import Derived.Test.YtipdclphpkgceaaGreatDoorA16
import Derived.Test.YtipdclphpkgceaaGreatDoorA01
import Derived.Deep.LoopGhost
import Derived.BigRegion
import Derived.Test.YtipdclphpkgceaaGreatDoorA10
set_option maxHeartbeats 4000000
set_option maxRecDepth 100000

namespace Go.Proofs.YtipdclphpkgceaaGreatDoor
open Go.RowKit
structure Ew (w:World) (b off n:Nat) (pk:Nat → Pk) (f:Nat → Nat):Prop where
 lt:b < w.heap.size
 c0:∀ i,i < n → w.cell? ⟨b,off+i * 3,none⟩=some (.int .i64 (pk (f i)).flow)
 c1:∀ i,i < n → w.cell? ⟨b,off+i * 3+1,none⟩=some (.int .i64 (pk (f i)).size)
 c2:∀ i,i < n → w.cell? ⟨b,off+i * 3+2,none⟩=some (.int .i64 (pk (f i)).tick)
 fz:∀ j,w.frozen? ⟨b,j,none⟩=false
def CB (w:World) (b o:Nat) (p:Pk):World:=((w.setCell ⟨b,o,none⟩ (.int .i64 p.flow)).setCell ⟨b,o+1,none⟩ (.int .i64 p.size)).setCell ⟨b,o+2,none⟩ (.int .i64 p.tick)
theorem WZ (w:World) (b o:Nat) (p:Pk):(CB w b o p).heap.size=w.heap.size:=by simp [CB]
theorem CX (w:World) (b o:Nat) (p:Pk) {j:Nat} (h:j < o ∨ o+3 ≤ j):(CB w b o p).cell? ⟨b,j,none⟩=w.cell? ⟨b,j,none⟩:=by
 unfold CB
 rw [World.cell?_setCell_other _ _ _ _ (fun e=>by injection e with _ e _;omega),World.cell?_setCell_other _ _ _ _ (fun e=>by injection e with _ e _;omega),World.cell?_setCell_other _ _ _ _ (fun e=>by injection e with _ e _;omega)]
theorem ZY {w:World} {b o:Nat} (p:Pk) {u0 u1 u2:Value} (h0:w.cell? ⟨b,o,none⟩=some u0) (h1:w.cell? ⟨b,o+1,none⟩=some u1) (h2:w.cell? ⟨b,o+2,none⟩=some u2) :
  (CB w b o p).cell? ⟨b,o,none⟩=some (.int .i64 p.flow) ∧ (CB w b o p).cell? ⟨b,o+1,none⟩=some (.int .i64 p.size) ∧ (CB w b o p).cell? ⟨b,o+2,none⟩=some (.int .i64 p.tick):=by
 unfold CB
 refine ⟨?_,?_,?_⟩
 ·
  rw [World.cell?_setCell_other _ _ _ _ (fun e=>by injection e with _ e _;omega),World.cell?_setCell_other _ _ _ _ (fun e=>by injection e with _ e _;omega)]
  exact World.cell?_setCell_same' _ _ _ (by rw [h0];rfl)
 ·
  rw [World.cell?_setCell_other _ _ _ _ (fun e=>by injection e with _ e _;omega)]
  exact World.cell?_setCell_same' _ _ _ (by rw [World.cell?_setCell_other _ _ _ _ (fun e=>by injection e with _ e _;omega),h1];rfl)
 · exact World.cell?_setCell_same' _ _ _ (by rw [World.cell?_setCell_other _ _ _ _ (fun e=>by injection e with _ e _;omega),World.cell?_setCell_other _ _ _ _ (fun e=>by injection e with _ e _;omega),h2];rfl)
theorem Rk (w:World) (b o:Nat) (p:Pk) (a:Addr):(CB w b o p).frozen? a=w.frozen? a:=by simp [CB]
theorem KL {S:Nat → Prop} {a w:World} (h:But S a w) {b:Nat} (hb:S b) (o:Nat) (p:Pk):But S a (CB w b o p):=((h.setCell (p:=⟨b,o,none⟩) hb _).setCell (p:=⟨b,o+1,none⟩) hb _).setCell (p:=⟨b,o+2,none⟩) hb _
section
variable {w w':World} {b off n:Nat} {pk:Nat → Pk} {f:Nat → Nat}
theorem Ew.later (h:Ew w b off n pk f) (hb:Below w.heap.size w w'):Ew w' b off n pk f:=
 ⟨Nat.lt_of_lt_of_le h.lt hb.size,fun i hi=>cell_later hb (h.c0 i hi),fun i hi=>cell_later hb (h.c1 i hi),fun i hi=>cell_later hb (h.c2 i hi),fun j=>(World.frozen?_of_block (w:=w) (hb.block b h.lt)).trans (h.fz j)⟩
theorem Ew.put (h:Ew w b off n pk f) {i:Nat} (hi:i < n) (x:Nat):Ew (CB w b (off+i * 3) (pk x)) b off n pk (fun k=>if k=i then x else f k):=by
 have hin:=ZY (pk x) (h.c0 i hi) (h.c1 i hi) (h.c2 i hi)
 have key:∀ k (c:Nat),k ≠ i → c < 3 → (CB w b (off+i * 3) (pk x)).cell? ⟨b,off+k * 3+c,none⟩=w.cell? ⟨b,off+k * 3+c,none⟩:=fun k c hk hc=>CX w b _ _ (by omega)
 refine ⟨by rw [WZ];exact h.lt,fun k hk=>?_,fun k hk=>?_,fun k hk=>?_,fun j=>by rw [Rk];exact h.fz j⟩
 ·
  by_cases e:k=i
  · subst e;rw [if_pos rfl];exact hin.1
  ·
   simp only [if_neg e]
   have:=key k 0 e (by omega)
   rw [Nat.add_zero] at this
   rw [this];exact h.c0 k hk
 ·
  by_cases e:k=i
  · subst e;rw [if_pos rfl];exact hin.2.1
  · simp only [if_neg e];rw [key k 1 e (by omega)];exact h.c1 k hk
 ·
  by_cases e:k=i
  · subst e;rw [if_pos rfl];exact hin.2.2
  · simp only [if_neg e];rw [key k 2 e (by omega)];exact h.c2 k hk
theorem Ew.xch (h:Ew w b off n pk f) {i j:Nat} (hi:i < n) (hj:j < n):Ew (CB (CB w b (off+i * 3) (pk (f j))) b (off+j * 3) (pk (f i))) b off n pk (xch f i j):=by
 have:=(h.put hi (f j)).put hj (f i)
 have e:(fun k=>if k=j then f i else if k=i then f j else f k)=Go.Proofs.YtipdclphpkgceaaGreatDoor.xch f i j:=by
  funext k
  unfold Go.Proofs.YtipdclphpkgceaaGreatDoor.xch
  by_cases h1:k=i
  ·
   subst h1
   by_cases h2:k=j
   · subst h2;simp
   · simp [h2]
  · simp [h1]
 rw [e] at this
 exact this
end
structure Ab (w0:World) (b off n:Nat) (pk:Nat → Pk) (f:Nat → Nat) (w:World):Prop where
 row:Ew w b off n pk f
 but:But (fun k=>k=b) w0 w
section
variable {w0 w w':World} {b off n:Nat} {pk:Nat → Pk} {f:Nat → Nat}
theorem Ab.later (h:Ab w0 b off n pk f w) (hb:Below w.heap.size w w'):Ab w0 b off n pk f w':=⟨h.row.later hb,h.but.trans (.ofBelow hb)⟩
theorem Ab.drew (h:Ab w0 b off n pk f w):Ab w0 b off n pk f w.drew:=h.later (below_drewN (Below.refl _ _) 1)
theorem Ab.xch (h:Ab w0 b off n pk f w) {i j:Nat} (hi:i < n) (hj:j < n):Ab w0 b off n pk (xch f i j) (CB (CB w b (off+i * 3) (pk (f j))) b (off+j * 3) (pk (f i))):=
 ⟨h.row.xch hi hj,KL (KL h.but rfl _ _) rfl _ _⟩
end
theorem Q7 (w0:World) (b off n cap:Nat) (pk:Nat → Pk) (fv:Value) (f:Nat → Nat) (x y m:Nat) (w:World) (h:Ab w0 b off n pk f w) (hxy:x+m ≤ y) (hy:y+m ≤ n) (hn:n ≤ 1000) :
  Calls Tryz.prog 231 #[.slice (some ⟨b,off,none⟩) n cap,.int .i64 (x:Int),.int .i64 (y:Int),.int .i64 (m:Int),fv] w fun e w'=>e=.returned (.tuple #[]) ∧ Ab w0 b off n pk (swr f x y m) w':=by
 have HS:Hid (Ab w0 b off n pk (swr f x y 0) w):=by show Ab _ _ _ _ _ _ _;rw [YK];exact h
 clear h
 go_enter Tryz.func231,Tryz.ntmps231
 go_wp2_with fail
 go_loopg [10] m (fun gk iv wr=>∃ i:Nat,iv=.int .i64 (i:Int) ∧ i ≤ m ∧ m - i ≤ gk ∧ Hid (Ab w0 b off n pk (swr f x y i) wr))
 case atStart=>exact ⟨0,rfl,Nat.zero_le _,Nat.le_refl _,HS⟩
 case round=>
  clear HS
  obtain ⟨i,rfl,him,hgk,H⟩:=hrel
  by_cases hlt:i < m
  ·
   have hltz:(i:Int) < (m:Int):=by omega
   obtain ⟨g,hg⟩:∃ g,swr f x y i=g:=⟨_,rfl⟩
   have HG:Hid (xch g (x+i) (y+i)=swr f x y (i+1)):=by show _=_;rw [← hg];exact Yp f (by omega)
   rw [hg] at H
   obtain ⟨p,hp⟩:∃ p,x+i=p:=⟨_,rfl⟩
   obtain ⟨q,hq⟩:∃ q,y+i=q:=⟨_,rfl⟩
   rw [hp,hq] at HG
   have hpn:p < n:=by omega
   have hqn:q < n:=by omega
   have hpq:p ≠ q:=by omega
   have wp:IntKind.i64.wrap ((x:Int)+(i:Int))=(p:Int):=by rw [IntKind.wrap_i64];omega
   have wq:IntKind.i64.wrap ((y:Int)+(i:Int))=(q:Int):=by rw [IntKind.wrap_i64];omega
   have hpz:(p:Int) < (n:Int):=by omega
   have hqz:(q:Int) < (n:Int):=by omega
   have a0:=H.out.row.c0 p hpn
   have a1:=H.out.row.c1 p hpn
   have a2:=H.out.row.c2 p hpn
   have b0:=H.out.row.c0 q hqn
   have b1:=H.out.row.c1 q hqn
   have b2:=H.out.row.c2 q hqn
   have f0:=H.out.row.fz (off+p * 3)
   have f1:=H.out.row.fz (off+p * 3+1)
   have f2:=H.out.row.fz (off+p * 3+2)
   have g0:=H.out.row.fz (off+q * 3)
   have g1:=H.out.row.fz (off+q * 3+1)
   have g2:=H.out.row.fz (off+q * 3+2)
   have H2:∃ V,Hid ((CB (CB wr b (off+p * 3) (pk (g q))) b (off+q * 3) (pk (g p))).drew=V) ∧ Hid (Ab w0 b off n pk (swr f x y (i+1)) V):=⟨_,rfl,by show Ab _ _ _ _ _ _ _;rw [← HG.out];exact (H.out.xch hpn hqn).drew⟩
   have k0:(CB wr b (off+p * 3) (pk (g q))).cell? ⟨b,off+q * 3,none⟩=some (.int .i64 (pk (g q)).flow):=by rw [CX _ _ _ _ (by omega)];exact b0
   have k1:(CB wr b (off+p * 3) (pk (g q))).cell? ⟨b,off+q * 3+1,none⟩=some (.int .i64 (pk (g q)).size):=by rw [CX _ _ _ _ (by omega)];exact b1
   have k2:(CB wr b (off+p * 3) (pk (g q))).cell? ⟨b,off+q * 3+2,none⟩=some (.int .i64 (pk (g q)).tick):=by rw [CX _ _ _ _ (by omega)];exact b2
   obtain ⟨V,HV,HVS⟩:=H2
   unfold CB at HV k0 k1 k2
   obtain ⟨u0,hu0⟩:∃ u,(pk (g p)).flow=u:=⟨_,rfl⟩
   obtain ⟨u1,hu1⟩:∃ u,(pk (g p)).size=u:=⟨_,rfl⟩
   obtain ⟨u2,hu2⟩:∃ u,(pk (g p)).tick=u:=⟨_,rfl⟩
   obtain ⟨v0,hv0⟩:∃ v,(pk (g q)).flow=v:=⟨_,rfl⟩
   obtain ⟨v1,hv1⟩:∃ v,(pk (g q)).size=v:=⟨_,rfl⟩
   obtain ⟨v2,hv2⟩:∃ v,(pk (g q)).tick=v:=⟨_,rfl⟩
   rw [hu0] at a0 HV
   rw [hu1] at a1 HV
   rw [hu2] at a2 HV
   rw [hv0] at b0 HV k0 k1 k2
   rw [hv1] at b1 HV k0 k1 k2
   rw [hv2] at b2 HV k0 k1 k2
   clear hu0 hu1 hu2 hv0 hv1 hv2
   clear hg hp hq H HG
   go_wp2_with fail
   go_region
   rw [HV.out]
   clear HV a0 a1 a2 b0 b1 b2 f0 f1 f2 g0 g1 g2 k0 k1 k2
   go_wp2_with fail
   go_roundg (m - (i+1))
   case measure=>omega
   case rel=>exact ⟨i+1,by go_num,by omega,Nat.le_refl _,HVS⟩
  ·
   have hltz:¬ (i:Int) < (m:Int):=by omega
   obtain rfl:i=m:=by omega
   go_wp2_with fail
   go_end0
   exact ⟨rfl,H.out⟩
theorem Px (w0:World) (b off n cap:Nat) (pk:Nat → Pk) (fv:Value) (f:Nat → Nat) (x m y:Nat) (w:World) (h:Ab w0 b off n pk f w) (hxm:x < m) (hmy:m < y) (hy:y ≤ n) (hn:n ≤ 1000) :
  Calls Tryz.prog 220 #[.slice (some ⟨b,off,none⟩) n cap,.int .i64 (x:Int),.int .i64 (m:Int),.int .i64 (y:Int),fv] w fun e w'=>e=.returned (.tuple #[]) ∧ Ab w0 b off n pk (rot f x m y) w':=by
 have HS:Hid (∀ (g:Nat → Nat) (x y m:Nat) (w:World),Ab w0 b off n pk g w → x+m ≤ y → y+m ≤ n → Calls Tryz.prog 231 #[.slice (some ⟨b,off,none⟩) n cap,.int .i64 (x:Int),.int .i64 (y:Int),.int .i64 (m:Int),fv] w fun e w'=>e=.returned (.tuple #[]) ∧ Ab w0 b off n pk (swr g x y m) w'):=fun g x y m w h h1 h2=>Q7 w0 b off n cap pk fv g x y m w h h1 h2 hn
 have H0:Hid (Ab w0 b off n pk f w):=h
 clear h
 go_enter Tryz.func220,Tryz.ntmps220
 have wi:(m:Int) - (x:Int)=((m - x:Nat):Int):=by omega
 have wj:(y:Int) - (m:Int)=((y - m:Nat):Int):=by omega
 go_wp2_with fail
 go_loopg [10,11] (y - x) (fun gk iv jv wr=>∃ (i j:Nat) (g:Nat → Nat),iv=.int .i64 (i:Int) ∧ jv=.int .i64 (j:Int) ∧ 1 ≤ i ∧ i ≤ m - x ∧ 1 ≤ j ∧ j ≤ y - m ∧ i+j ≤ gk ∧ Hid (rot g (m - i) m (m+j)=rot f x m y) ∧ Hid (Ab w0 b off n pk g wr))
 case atStart=>exact ⟨m - x,y - m,f,by go_num,by go_num,by omega,by omega,by omega,by omega,by omega,by show _=_;rw [show m - (m - x)=x by omega,show m+(y - m)=y by omega],H0⟩
 case round=>
  clear H0
  obtain ⟨i,j,g,rfl,rfl,hi1,hi2,hj1,hj2,hgk,HR,H⟩:=hrel
  have hmi:(m:Int) - (i:Int)=((m - i:Nat):Int):=by omega
  obtain ⟨s,hs⟩:∃ s,m - i=s:=⟨_,rfl⟩
  rw [hs] at hmi
  have HSI:Hid (m - i=s):=hs
  clear hs wi wj
  rcases Nat.lt_trichotomy i j with hlt | heq | hgt
  ·
   have z1:((i:Int) == (j:Int))=false:=by simp;omega
   have z2:¬ (j:Int) < (i:Int):=by omega
   obtain ⟨q,hq⟩:∃ q,m+j - i=q:=⟨_,rfl⟩
   have wq:(m:Int)+(j:Int) - (i:Int)=(q:Int):=by omega
   have HC:=HS.out g s q i wr H.out (by have:=HSI.out;omega) (by omega)
   have HC':Hid (Calls Tryz.prog 231 #[.slice (some ⟨b,off,none⟩) n cap,.int .i64 (s:Int),.int .i64 (q:Int),.int .i64 (i:Int),fv] wr fun e w'=>e=.returned (.tuple #[]) ∧ Ab w0 b off n pk (swr g s q i) w'):=HC
   have HE:Hid (rot (swr g s q i) s m (m+(j - i))=rot f x m y):=by show _=_;rw [← HR.out,← hq,← HSI.out];exact Wx g hlt (by omega)
   clear HC hq HR H
   go_wp2_with fail
   refine HC'.out.mono ?_
   rintro e w1 ⟨rfl,h1⟩
   have H1:Hid (Ab w0 b off n pk (swr g s q i) w1):=h1
   clear h1 HC'
   go_wp2_with fail
   go_roundg (i+(j - i))
   case measure=>omega
   case rel=>exact ⟨i,j - i,_,rfl,by go_num,hi1,hi2,by omega,by omega,Nat.le_refl _,by show _=_;rw [HSI.out];exact HE.out,H1⟩
  ·
   subst heq
   have HC:=HS.out g s m i wr H.out (by have:=HSI.out;omega) (by omega)
   have HC':Hid (Calls Tryz.prog 231 #[.slice (some ⟨b,off,none⟩) n cap,.int .i64 (s:Int),.int .i64 (m:Int),.int .i64 (i:Int),fv] wr fun e w'=>e=.returned (.tuple #[]) ∧ Ab w0 b off n pk (swr g s m i) w'):=HC
   have HE:Hid (swr g s m i=rot f x m y):=by show _=_;rw [← HR.out,← HSI.out];exact YL g (by omega)
   clear HC HR H
   go_wp2_with fail
   refine HC'.out.mono ?_
   rintro e w1 ⟨rfl,h1⟩
   rw [HE.out] at h1
   have H1:Hid (Ab w0 b off n pk (rot f x m y) w1):=h1
   clear h1 HC'
   go_wp2_with fail
   go_end0
   exact ⟨rfl,H1.out⟩
  ·
   have z1:((i:Int) == (j:Int))=false:=by simp;omega
   have z2:(j:Int) < (i:Int):=by omega
   have HC:=HS.out g s m j wr H.out (by have:=HSI.out;omega) (by omega)
   have HC':Hid (Calls Tryz.prog 231 #[.slice (some ⟨b,off,none⟩) n cap,.int .i64 (s:Int),.int .i64 (m:Int),.int .i64 (j:Int),fv] wr fun e w'=>e=.returned (.tuple #[]) ∧ Ab w0 b off n pk (swr g s m j) w'):=HC
   have HE:Hid (rot (swr g s m j) (m - (i - j)) m (m+j)=rot f x m y):=by show _=_;rw [← HR.out,← HSI.out];exact Yu g hgt (by omega)
   clear HC HR H
   go_wp2_with fail
   refine HC'.out.mono ?_
   rintro e w1 ⟨rfl,h1⟩
   have H1:Hid (Ab w0 b off n pk (swr g s m j) w1):=h1
   clear h1 HC'
   go_wp2_with fail
   go_roundg (i - j+j)
   case measure=>omega
   case rel=>exact ⟨i - j,j,_,by go_num,rfl,by omega,by omega,hj1,hj2,Nat.le_refl _,HE,H1⟩
theorem Tryz.callByTick (args:Array Value) (W:World):Sem.run Tryz.prog (callFunc 140 args) W=.ok (.enter 140 args) W:=by kernel_rfl
theorem Fs (p q:Pk) (w:World) :
  Calls Tryz.prog 140 #[.agg #[.int .i64 p.flow,.int .i64 p.size,.int .i64 p.tick],.agg #[.int .i64 q.flow,.int .i64 q.size,.int .i64 q.tick]] w fun e w'=>e=.returned (.int .i64 (Dv p.tick q.tick)) ∧ Below w.heap.size w w':=by
 obtain ⟨p0,p1,p2⟩:=p
 obtain ⟨q0,q1,q2⟩:=q
 have HC:Hid (∀ W:World,Calls Tryz.prog 141 #[.int .i64 p2,.int .i64 q2] W fun e w'=>e=.returned (.int .i64 (Dv p2 q2)) ∧ w'=W):=fun W=>I9 p2 q2 W
 have hb1:Below w.heap.size w (w.alloc (.cells #[.int .i64 p0,.int .i64 p1,.int .i64 p2] 58)):=(Below.refl _ _).alloc (Nat.le_refl _) _
 have HB:Hid (Below w.heap.size w ((w.alloc (.cells #[.int .i64 p0,.int .i64 p1,.int .i64 p2] 58)).alloc (.cells #[.int .i64 q0,.int .i64 q1,.int .i64 q2] 58))):=hb1.alloc hb1.size _
 show Calls Tryz.prog 140 #[.agg #[.int .i64 p0,.int .i64 p1,.int .i64 p2],.agg #[.int .i64 q0,.int .i64 q1,.int .i64 q2]] w fun e w'=>e=.returned (.int .i64 (Dv p2 q2)) ∧ Below w.heap.size w w'
 generalize Dv p2 q2=r at HC ⊢
 clear hb1
 go_enter Tryz.func140,Tryz.ntmps140
 go_wp2_with fail
 refine (HC.out _).mono ?_
 rintro e w1 ⟨rfl,rfl⟩
 go_wp2_with fail
 go_ret
 exact ⟨rfl,HB.out⟩
def Aa (pk:Nat → Pk) (x:Nat):Int:=(pk x).tick
theorem QF (w0:World) (b off n cap:Nat) (pk:Nat → Pk) (f:Nat → Nat) (x y:Nat) (w:World) (h:Ab w0 b off n pk f w) (hxy:x ≤ y) (hy:y ≤ n) (hn:n ≤ 1000) (hnum:∀ i j,x ≤ i → i < j → j < y → f i < f j) :
  Calls Tryz.prog 193 #[.slice (some ⟨b,off,none⟩) n cap,.int .i64 (x:Int),.int .i64 (y:Int),.func (.func 140) #[] #[]] w fun e w'=>e=.returned (.tuple #[]) ∧ ∃ g,Merged (Aa pk) f g x y ∧ Ab w0 b off n pk g w':=by
 have H0:Hid (Ab w0 b off n pk f w):=h
 have HN:Hid (∀ i j,x ≤ i → i < j → j < y → f i < f j):=hnum
 have hcall:=Tryz.callByTick
 clear h hnum
 go_enter Tryz.func193,Tryz.ntmps193
 go_wp2_with fail
 go_loopg [8] (y - x) (fun gk iv wr=>∃ (i:Nat) (g:Nat → Nat),iv=.int .i64 (i:Int) ∧ x < i ∧ (i ≤ y ∨ g=f ∧ i=x+1) ∧ y - i ≤ gk ∧ Hid (Merged (Aa pk) f g x i) ∧ Hid (Ab w0 b off n pk g wr))
 case atStart=>exact ⟨x+1,f,by go_num,by omega,.inr ⟨rfl,rfl⟩,by omega,⟨EL.refl _ _ _,fun i j h1 h2 h3=>by omega⟩,H0⟩
 case round=>
  clear H0
  obtain ⟨i,g,rfl,hxi,hiy,hgk,HM,H⟩:=hrel
  by_cases hlt:i < y
  ·
   have hltz:(i:Int) < (y:Int):=by omega
   have HL:Hid (Lower g x i (i+1)):=fun k l h1 h2 h3 h4=>by
    obtain rfl:l=i:=by omega
    rw [HM.out.1.out l (by omega)]
    obtain ⟨k',k1,k2,k3⟩:=HM.out.1.of k h1 h2
    rw [k3]
    exact HN.out k' l k1 k2 hlt
   clear hiy
   go_wp2_with fail
   obtain ⟨W0,hW0⟩:∃ W,W=wr:=⟨_,rfl⟩
   subst hW0
   obtain ⟨gO,hgO⟩:∃ z,z=gk:=⟨_,rfl⟩
   subst hgO
   go_loopg [9] i (fun gk2 jv wr=>∃ p:Nat,jv=.int .i64 (p:Int) ∧ x ≤ p ∧ p ≤ i ∧ p ≤ gk2 ∧ Hid (p=i ∨ Aa pk (g i) < Aa pk (g p)) ∧ Hid (Ab w0 b off n pk (rot g p i (i+1)) wr))
   case atStart=>exact ⟨i,rfl,by omega,Nat.le_refl _,Nat.le_refl _,.inl rfl,by show Ab _ _ _ _ _ _ _;rw [Mm];exact H.out⟩
   case round=>
    obtain ⟨p,rfl,hxp,hpi,hgk2,HHi,H'⟩:=hrel
    clear H
    have OUT:Hid ((p=x ∨ Aa pk (g (p - 1)) ≤ Aa pk (g i)) → Merged (Aa pk) f (rot g p i (i+1)) x (i+1)):=fun hlo=>by
     have hm:=VU hxp hpi HM.out.2 HL.out hlo HHi.out
     exact ⟨(HM.out.1.wide (Nat.le_refl _) (by omega)).trans hm.1,hm.2⟩
    have EP:Hid (rot g p i (i+1) p=g i):=by show rot _ _ _ _ _=_;simp only [rot];rw [if_pos (by omega)];congr 1;omega
    by_cases hxp':x < p
    ·
     have hxz:(x:Int) < (p:Int):=by omega
     have hxd:decide ((x:Int) < (p:Int))=true:=by simpa using hxz
     obtain ⟨q,hq⟩:∃ q,p - 1=q:=⟨_,rfl⟩
     have HQ:Hid (p=q+1):=by show _=_;omega
     have EQ:Hid (rot g p i (i+1) q=g q):=by show rot _ _ _ _ _=_;simp only [rot];rw [if_neg (by omega),if_neg (by omega)]
     have HG:Hid (xch (rot g p i (i+1)) p q=rot g q i (i+1)):=by show _=_;rw [HQ.out];exact Rl g (by omega)
     rw [hq] at OUT
     obtain ⟨k,hk⟩:∃ k,rot g p i (i+1)=k:=⟨_,rfl⟩
     rw [hk] at H' EP EQ HG OUT
     have hpn:p < n:=by omega
     have hqn:q < n:=by omega
     have hpq:p ≠ q:=by omega
     have wq:IntKind.i64.wrap ((p:Int) - 1)=(q:Int):=by rw [IntKind.wrap_i64];omega
     have wq':(p:Int) - 1=(q:Int):=by omega
     clear hk hq
     have a0:=H'.out.row.c0 p hpn
     have a1:=H'.out.row.c1 p hpn
     have a2:=H'.out.row.c2 p hpn
     have b0:=H'.out.row.c0 q hqn
     have b1:=H'.out.row.c1 q hqn
     have b2:=H'.out.row.c2 q hqn
     have hpz:(p:Int) < (n:Int):=by omega
     have hqz:(q:Int) < (n:Int):=by omega
     have HC:Hid (∀ l:Later wr,Calls Tryz.prog 140 #[.agg #[.int .i64 (pk (k p)).flow,.int .i64 (pk (k p)).size,.int .i64 (pk (k p)).tick],.agg #[.int .i64 (pk (k q)).flow,.int .i64 (pk (k q)).size,.int .i64 (pk (k q)).tick]] l.w fun e w'=>e=.returned (.int .i64 (Dv (pk (k p)).tick (pk (k q)).tick)) ∧ ∃ l':Later wr,w'=l'.w):=Later.calls fun W _=>Fs _ _ W
     obtain ⟨r,hr⟩:∃ r,Dv (pk (k p)).tick (pk (k q)).tick=r:=⟨_,rfl⟩
     have hrl:r < 0 ↔ (pk (k p)).tick < (pk (k q)).tick:=by rw [← hr];exact H6
     have HRL:Hid (r < 0 ↔ (pk (k p)).tick < (pk (k q)).tick):=hrl
     rw [hr] at HC
     generalize (pk (k p)).flow=u0 at a0 HC
     generalize (pk (k p)).size=u1 at a1 HC
     generalize (pk (k p)).tick=u2 at a2 HC
     generalize (pk (k q)).flow=v0 at b0 HC
     generalize (pk (k q)).size=v1 at b1 HC
     generalize (pk (k q)).tick=v2 at b2 HC
     have y0:=fun l:Later wr=>l.cell a0
     have y1:=fun l:Later wr=>l.cell a1
     have y2:=fun l:Later wr=>l.cell a2
     have y3:=fun l:Later wr=>l.cell b0
     have y4:=fun l:Later wr=>l.cell b1
     have y5:=fun l:Later wr=>l.cell b2
     have hne:Nonempty (Later wr):=⟨⟨wr,Below.refl _ _⟩⟩
     clear hr hrl a0 a1 a2 b0 b1 b2
     by_cases hless:r < 0
     ·
      have hlt2:=HRL.out.1 hless
      rw [EP.out,EQ.out] at hlt2
      have HT:Hid (Aa pk (g i) < Aa pk (g q)):=hlt2
      have hd:decide (r < 0)=true:=by simpa using hless
      clear hlt2 HRL
      go_wp2_with fail
      refine Bn (by kernel_rfl) (by kernel_rfl) ?_
      repeat (go_big_quiet_step (exact HC.out _))
      refine wpQuiet_nil ?_
      rintro _ ⟨gq,rfl⟩
      have H1:Hid (Ab w0 b off n pk (k) gq.w):=H'.out.later gq.bel
      generalize gq.w=W1 at H1 ⊢
      clear HC y0 y1 y2 y3 y4 y5 hne gq
      clear hless hd hxd
      have hpz:(p:Int) < (n:Int):=by omega
      have hqz:(q:Int) < (n:Int):=by omega
      have a0:=H1.out.row.c0 p hpn
      have a1:=H1.out.row.c1 p hpn
      have a2:=H1.out.row.c2 p hpn
      have b0:=H1.out.row.c0 q hqn
      have b1:=H1.out.row.c1 q hqn
      have b2:=H1.out.row.c2 q hqn
      have f0:=H1.out.row.fz (off+p * 3)
      have f1:=H1.out.row.fz (off+p * 3+1)
      have f2:=H1.out.row.fz (off+p * 3+2)
      have g0:=H1.out.row.fz (off+q * 3)
      have g1:=H1.out.row.fz (off+q * 3+1)
      have g2:=H1.out.row.fz (off+q * 3+2)
      have H2:∃ V,Hid ((CB (CB W1 b (off+p * 3) (pk (k q))) b (off+q * 3) (pk (k p))).drew=V) ∧ Hid (Ab w0 b off n pk (rot g q i (i+1)) V):=⟨_,rfl,by show Ab _ _ _ _ _ _ _;rw [← HG.out];exact (H1.out.xch hpn hqn).drew⟩
      have k0:(CB W1 b (off+p * 3) (pk (k q))).cell? ⟨b,off+q * 3,none⟩=some (.int .i64 (pk (k q)).flow):=by rw [CX _ _ _ _ (by omega)];exact b0
      have k1:(CB W1 b (off+p * 3) (pk (k q))).cell? ⟨b,off+q * 3+1,none⟩=some (.int .i64 (pk (k q)).size):=by rw [CX _ _ _ _ (by omega)];exact b1
      have k2:(CB W1 b (off+p * 3) (pk (k q))).cell? ⟨b,off+q * 3+2,none⟩=some (.int .i64 (pk (k q)).tick):=by rw [CX _ _ _ _ (by omega)];exact b2
      obtain ⟨V,HV,HVS⟩:=H2
      unfold CB at HV k0 k1 k2
      obtain ⟨u0,hu0⟩:∃ u,(pk (k p)).flow=u:=⟨_,rfl⟩
      obtain ⟨u1,hu1⟩:∃ u,(pk (k p)).size=u:=⟨_,rfl⟩
      obtain ⟨u2,hu2⟩:∃ u,(pk (k p)).tick=u:=⟨_,rfl⟩
      obtain ⟨v0,hv0⟩:∃ v,(pk (k q)).flow=v:=⟨_,rfl⟩
      obtain ⟨v1,hv1⟩:∃ v,(pk (k q)).size=v:=⟨_,rfl⟩
      obtain ⟨v2,hv2⟩:∃ v,(pk (k q)).tick=v:=⟨_,rfl⟩
      rw [hu0] at a0 HV
      rw [hu1] at a1 HV
      rw [hu2] at a2 HV
      rw [hv0] at b0 HV k0 k1 k2
      rw [hv1] at b1 HV k0 k1 k2
      rw [hv2] at b2 HV k0 k1 k2
      clear hu0 hu1 hu2 hv0 hv1 hv2
      clear H1
      go_wp2_with fail
      go_region
      rw [HV.out]
      clear HV a0 a1 a2 b0 b1 b2 f0 f1 f2 g0 g1 g2 k0 k1 k2
      go_wp2_with fail
      go_roundg q
      case measure=>have:=HQ.out;omega
      case rel=>exact ⟨q,by go_num,by have:=HQ.out;omega,by have:=HQ.out;omega,Nat.le_refl _,.inr HT.out,HVS⟩
     ·
      have hge:¬ (pk (k p)).tick < (pk (k q)).tick:=fun h=>hless (HRL.out.2 h)
      rw [EP.out,EQ.out] at hge
      have HM2:Hid (Merged (Aa pk) f k x (i+1)):=OUT.out (.inr (by unfold Aa;omega))
      have hd:decide (r < 0)=false:=by simpa using hless
      clear hge HRL
      go_wp2_with fail
      refine Bn (by kernel_rfl) (by kernel_rfl) ?_
      repeat (go_big_quiet_step (exact HC.out _))
      refine wpQuiet_nil ?_
      rintro _ ⟨gq,rfl⟩
      have H1:Hid (Ab w0 b off n pk (k) gq.w):=H'.out.later gq.bel
      generalize gq.w=W1 at H1 ⊢
      clear HC y0 y1 y2 y3 y4 y5 hne gq
      clear hless hd hxd
      go_wp2_with fail
      go_roundg (y - (i+1))
      case measure=>omega
      case rel=>exact ⟨i+1,k,by go_num,by omega,.inl (by omega),Nat.le_refl _,HM2,H1⟩
    ·
     have hxz:¬ (x:Int) < (p:Int):=by omega
     have hxd:decide ((x:Int) < (p:Int))=false:=by simpa using hxz
     have HM2:Hid (Merged (Aa pk) f (rot g p i (i+1)) x (i+1)):=OUT.out (.inl (by omega))
     have hne:Nonempty (Later wr):=⟨⟨wr,Below.refl _ _⟩⟩
     go_wp2_with fail
     refine Bn (by kernel_rfl) (by kernel_rfl) ?_
     repeat (go_big_quiet_step (fail))
     refine wpQuiet_nil ?_
     rintro _ ⟨gq,rfl⟩
     have H1:Hid (Ab w0 b off n pk (rot g p i (i+1)) gq.w):=H'.out.later gq.bel
     generalize gq.w=W1 at H1 ⊢
     clear hne gq
     go_wp2_with fail
     go_roundg (y - (i+1))
     case measure=>omega
     case rel=>exact ⟨i+1,_,by go_num,by omega,.inl (by omega),Nat.le_refl _,HM2,H1⟩
  ·
   have hltz:¬ (i:Int) < (y:Int):=by omega
   have HM2:Hid (Merged (Aa pk) f g x y):=by
    rcases hiy with h | h
    ·
     obtain rfl:i=y:=by omega
     exact HM.out
    ·
     rw [h.1]
     have:=h.2
     exact ⟨EL.refl _ _ _,fun k l h1 h2 h3=>by omega⟩
   go_wp2_with fail
   go_end0
   exact ⟨rfl,g,HM2.out,H.out⟩
end Go.Proofs.YtipdclphpkgceaaGreatDoor
