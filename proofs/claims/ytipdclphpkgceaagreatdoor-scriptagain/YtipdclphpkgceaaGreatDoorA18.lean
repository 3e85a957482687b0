/- Own facts, put together: no statement of its own. -/
import Derived.Test.YtipdclphpkgceaaGreatDoorA17
set_option maxHeartbeats 4000000
set_option maxRecDepth 100000

namespace Go.Proofs.YtipdclphpkgceaaGreatDoor
open Go.RowKit
theorem Tg (w0:World) (b off n cap:Nat) (pk:Nat → Pk) (f:Nat → Nat) (x m y:Nat) (w:World) (h:Ab w0 b off n pk f w) (hx1:m=x+1) (hmy:m < y) (hy:y ≤ n) (hn:n ≤ 1000) (_:BG (Aa pk) f x m) (hr2:BG (Aa pk) f m y) (hl:Lower f x m y) :
  Calls Tryz.prog 194 #[.slice (some ⟨b,off,none⟩) n cap,.int .i64 (x:Int),.int .i64 (m:Int),.int .i64 (y:Int),.func (.func 140) #[] #[]] w fun e w'=>e=.returned (.tuple #[]) ∧ ∃ g,Merged (Aa pk) f g x y ∧ Ab w0 b off n pk g w':=by
 have H0:Hid (Ab w0 b off n pk f w):=h
 have HR:Hid (BG (Aa pk) f m y):=hr2
 have HL:Hid (Lower f x m y):=hl
 have HX:Hid (m=x+1):=hx1
 have hcall:=Tryz.callByTick
 have wd1:(m:Int) - (x:Int)=1:=by omega
 clear h hr2 hl hx1
 go_enter Tryz.func194,Tryz.ntmps194
 go_wp2_with fail
 go_loopg [10,11,12] y (fun gk iv jv hv wr=>∃ (i j:Nat),iv=.int .i64 (i:Int) ∧ jv=.int .i64 (j:Int) ∧ m ≤ i ∧ i ≤ j ∧ j ≤ y ∧ j - i ≤ gk ∧ Hid (i=m ∨ Aa pk (f (i - 1)) < Aa pk (f x)) ∧ Hid (j=y ∨ Aa pk (f x) ≤ Aa pk (f j)) ∧ Hid (Ab w0 b off n pk f wr))
 case atStart=>exact ⟨m,y,rfl,rfl,Nat.le_refl _,by omega,Nat.le_refl _,by omega,.inl rfl,.inl rfl,H0⟩
 case round=>
  clear H0
  obtain ⟨i,j,rfl,rfl,hmi,hij,hjy,hgk,HLo,HHi,H⟩:=hrel
  by_cases hlt:i < j
  ·
   have hltz:(i:Int) < (j:Int):=by omega
   obtain ⟨p,hp⟩:∃ p,(i+j) / 2=p:=⟨_,rfl⟩
   have wp:((i:Int)+(j:Int)) / 2=(p:Int):=by omega
   have hip:i ≤ p:=by omega
   have hpj:p < j:=by omega
   have hpn:p < n:=by omega
   have hqn:x < n:=by have:=HX.out;omega
   clear hp
   have a0:=H.out.row.c0 p hpn
   have a1:=H.out.row.c1 p hpn
   have a2:=H.out.row.c2 p hpn
   have b0:=H.out.row.c0 x hqn
   have b1:=H.out.row.c1 x hqn
   have b2:=H.out.row.c2 x hqn
   have hpz:(p:Int) < (n:Int):=by omega
   have hqz:(x:Int) < (n:Int):=by omega
   have HC:Hid (∀ l:Later wr,Calls Tryz.prog 140 #[.agg #[.int .i64 (pk (f p)).flow,.int .i64 (pk (f p)).size,.int .i64 (pk (f p)).tick],.agg #[.int .i64 (pk (f x)).flow,.int .i64 (pk (f x)).size,.int .i64 (pk (f x)).tick]] l.w fun e w'=>e=.returned (.int .i64 (Dv (pk (f p)).tick (pk (f x)).tick)) ∧ ∃ l':Later wr,w'=l'.w):=Later.calls fun W _=>Fs _ _ W
   obtain ⟨r,hr⟩:∃ r,Dv (pk (f p)).tick (pk (f x)).tick=r:=⟨_,rfl⟩
   have hrl:r < 0 ↔ (pk (f p)).tick < (pk (f x)).tick:=by rw [← hr];exact H6
   have HRL:Hid (r < 0 ↔ (pk (f p)).tick < (pk (f x)).tick):=hrl
   rw [hr] at HC
   generalize (pk (f p)).flow=u0 at a0 HC
   generalize (pk (f p)).size=u1 at a1 HC
   generalize (pk (f p)).tick=u2 at a2 HC
   generalize (pk (f x)).flow=v0 at b0 HC
   generalize (pk (f x)).size=v1 at b1 HC
   generalize (pk (f x)).tick=v2 at b2 HC
   have y0:=fun l:Later wr=>l.cell a0
   have y1:=fun l:Later wr=>l.cell a1
   have y2:=fun l:Later wr=>l.cell a2
   have y3:=fun l:Later wr=>l.cell b0
   have y4:=fun l:Later wr=>l.cell b1
   have y5:=fun l:Later wr=>l.cell b2
   have hne:Nonempty (Later wr):=⟨⟨wr,Below.refl _ _⟩⟩
   clear hr hrl a0 a1 a2 b0 b1 b2
   by_cases hless:r < 0
   ·
    have HT:Hid (Aa pk (f p) < Aa pk (f x)):=HRL.out.1 hless
    have hd:decide (r < 0)=true:=by simpa using hless
    clear HRL
    go_wp2_with fail
    refine Bn (by kernel_rfl) (by kernel_rfl) ?_
    repeat (go_big_quiet_step (exact HC.out _))
    refine wpQuiet_nil ?_
    rintro _ ⟨gq,rfl⟩
    have H1:Hid (Ab w0 b off n pk (f) gq.w):=H.out.later gq.bel
    generalize gq.w=W1 at H1 ⊢
    clear HC y0 y1 y2 y3 y4 y5 hne gq
    clear hless hd
    go_wp2_with fail
    go_roundg (j - (p+1))
    case measure=>omega
    case rel=>exact ⟨p+1,j,by go_num,rfl,by omega,by omega,hjy,Nat.le_refl _,.inr HT.out,HHi,H1⟩
   ·
    have HT:Hid (Aa pk (f x) ≤ Aa pk (f p)):=by show Aa pk (f x) ≤ Aa pk (f p);have:¬ (pk (f p)).tick < (pk (f x)).tick:=fun h=>hless (HRL.out.2 h);unfold Aa;omega
    have hd:decide (r < 0)=false:=by simpa using hless
    clear HRL
    go_wp2_with fail
    refine Bn (by kernel_rfl) (by kernel_rfl) ?_
    repeat (go_big_quiet_step (exact HC.out _))
    refine wpQuiet_nil ?_
    rintro _ ⟨gq,rfl⟩
    have H1:Hid (Ab w0 b off n pk (f) gq.w):=H.out.later gq.bel
    generalize gq.w=W1 at H1 ⊢
    clear HC y0 y1 y2 y3 y4 y5 hne gq
    clear hless hd
    go_wp2_with fail
    go_roundg (p - i)
    case measure=>omega
    case rel=>exact ⟨i,p,rfl,by go_num,hmi,hip,by omega,Nat.le_refl _,HLo,.inr HT.out,H1⟩
  ·
   have hltz:¬ (i:Int) < (j:Int):=by omega
   obtain rfl:i=j:=by omega
   have HMg:Hid (Merged (Aa pk) f (rot f x (x+1) i) x y):=by
    have e:=HX.out
    have h1:=HR.out
    have h2:=HL.out
    have h3:=HLo.out
    rw [e] at h1 h2 h3
    exact YO (by omega) hjy h1 h2 h3 HHi.out
   obtain ⟨z,hz⟩:∃ z,i - 1=z:=⟨_,rfl⟩
   have wz:(i:Int) - 1=(z:Int):=by omega
   have HZ:Hid (i=z+1):=by show _=_;omega
   have hxz:x ≤ z:=by have:=HX.out;omega
   have hzn:z < n:=by omega
   have HS:Hid (Ab w0 b off n pk (rot f x (x+1) (x+1)) wr):=by show Ab _ _ _ _ _ _ _;rw [NZ];exact H.out
   clear hz hij hlt H
   go_wp2_with fail
   obtain ⟨W0,hW0⟩:∃ W,W=wr:=⟨_,rfl⟩
   subst hW0
   obtain ⟨gO,hgO⟩:∃ z,z=gk:=⟨_,rfl⟩
   subst hgO
   go_loopg [13] z (fun gk2 kv wr=>∃ p:Nat,kv=.int .i64 (p:Int) ∧ x ≤ p ∧ p ≤ z ∧ z - p ≤ gk2 ∧ Hid (Ab w0 b off n pk (rot f x (x+1) (p+1)) wr))
   case atStart=>exact ⟨x,rfl,Nat.le_refl _,hxz,by omega,HS⟩
   case round=>
    clear HS
    obtain ⟨p,rfl,hxp,hpz',hgk2,H⟩:=hrel
    by_cases hlt:p < z
    ·
     have hltz2:(p:Int) < (z:Int):=by omega
     obtain ⟨g,hg⟩:∃ g,rot f x (x+1) (p+1)=g:=⟨_,rfl⟩
     obtain ⟨q,hq⟩:∃ q,p+1=q:=⟨_,rfl⟩
     have HG:Hid (xch g p q=rot f x (x+1) (q+1)):=by show _=_;rw [← hg,← hq];exact aQ f hxp
     rw [hg] at H
     have hpn:p < n:=by omega
     have hqn:q < n:=by omega
     have hpq:p ≠ q:=by omega
     have wq:IntKind.i64.wrap ((p:Int)+1)=(q:Int):=by rw [IntKind.wrap_i64];omega
     have wq':(p:Int)+1=(q:Int):=by omega
     have hqz':q ≤ z:=by omega
     have HQ:Hid (p+1=q):=hq
     clear hg hq
     have hpz:(p:Int) < (n:Int):=by omega
     have hqz:(q:Int) < (n:Int):=by omega
     have a0:=H.out.row.c0 p hpn
     have a1:=H.out.row.c1 p hpn
     have a2:=H.out.row.c2 p hpn
     have b0:=H.out.row.c0 q hqn
     have b1:=H.out.row.c1 q hqn
     have b2:=H.out.row.c2 q hqn
     have f0:=H.out.row.fz (off+p * 3)
     have f1:=H.out.row.fz (off+p * 3+1)
     have f2:=H.out.row.fz (off+p * 3+2)
     have g0:=H.out.row.fz (off+q * 3)
     have g1:=H.out.row.fz (off+q * 3+1)
     have g2:=H.out.row.fz (off+q * 3+2)
     have H2:∃ V,Hid ((CB (CB wr b (off+p * 3) (pk (g q))) b (off+q * 3) (pk (g p))).drew=V) ∧ Hid (Ab w0 b off n pk (rot f x (x+1) (q+1)) V):=⟨_,rfl,by show Ab _ _ _ _ _ _ _;rw [← HG.out];exact (H.out.xch hpn hqn).drew⟩
     have k0:(CB wr b (off+p * 3) (pk (g q))).cell? ⟨b,off+q * 3,none⟩=some (.int .i64 (pk (g q)).flow):=by rw [CX _ _ _ _ (by omega)];exact b0
     have k1:(CB wr b (off+p * 3) (pk (g q))).cell? ⟨b,off+q * 3+1,none⟩=some (.int .i64 (pk (g q)).size):=by rw [CX _ _ _ _ (by omega)];exact b1
     have k2:(CB wr b (off+p * 3) (pk (g q))).cell? ⟨b,off+q * 3+2,none⟩=some (.int .i64 (pk (g q)).tick):=by rw [CX _ _ _ _ (by omega)];exact b2
     obtain ⟨V,HV,HVS⟩:=H2
     unfold CB at HV k0 k1 k2
     obtain ⟨u0,hu0⟩:∃ u,(pk (g p)).flow=u:=⟨_,rfl⟩
     obtain ⟨u1,hu1⟩:∃ u,(pk (g p)).size=u:=⟨_,rfl⟩
     obtain ⟨u2,hu2⟩:∃ u,(pk (g p)).tick=u:=⟨_,rfl⟩
     obtain ⟨v0,hv0⟩:∃ v,(pk (g q)).flow=v:=⟨_,rfl⟩
     obtain ⟨v1,hv1⟩:∃ v,(pk (g q)).size=v:=⟨_,rfl⟩
     obtain ⟨v2,hv2⟩:∃ v,(pk (g q)).tick=v:=⟨_,rfl⟩
     rw [hu0] at a0 HV
     rw [hu1] at a1 HV
     rw [hu2] at a2 HV
     rw [hv0] at b0 HV k0 k1 k2
     rw [hv1] at b1 HV k0 k1 k2
     rw [hv2] at b2 HV k0 k1 k2
     clear hu0 hu1 hu2 hv0 hv1 hv2
     clear H HG
     go_wp2_with fail
     go_region
     rw [HV.out]
     clear HV a0 a1 a2 b0 b1 b2 f0 f1 f2 g0 g1 g2 k0 k1 k2
     go_wp2_with fail
     go_roundg (z - q)
     case measure=>have:=HQ.out;omega
     case rel=>exact ⟨q,by go_num,by have:=HQ.out;omega,hqz',Nat.le_refl _,HVS⟩
    ·
     have hltz2:¬ (p:Int) < (z:Int):=by omega
     obtain rfl:p=z:=by omega
     have HE:Hid (Ab w0 b off n pk (rot f x (x+1) i) wr):=by show Ab _ _ _ _ _ _ _;rw [HZ.out];exact H.out
     clear H
     go_wp2_with fail
     (try simp only [Exit.inBlock,Exit.then])
     refine bodyPost_ret (results_none rfl _ _ _) rfl ?_
     exact ⟨rfl,_,HMg.out,HE.out⟩
theorem Uu (w0:World) (b off n cap:Nat) (pk:Nat → Pk) (f:Nat → Nat) (x m y:Nat) (w:World) (h:Ab w0 b off n pk f w) (hxm:x+1 < m) (hy1:y=m+1) (hy:y ≤ n) (hn:n ≤ 1000) (hr1:BG (Aa pk) f x m) (_:BG (Aa pk) f m y) (hl:Lower f x m y) :
  Calls Tryz.prog 194 #[.slice (some ⟨b,off,none⟩) n cap,.int .i64 (x:Int),.int .i64 (m:Int),.int .i64 (y:Int),.func (.func 140) #[] #[]] w fun e w'=>e=.returned (.tuple #[]) ∧ ∃ g,Merged (Aa pk) f g x y ∧ Ab w0 b off n pk g w':=by
 have H0:Hid (Ab w0 b off n pk f w):=h
 have HR:Hid (BG (Aa pk) f x m):=hr1
 have HL:Hid (Lower f x m (m+1)):=by rw [hy1] at hl;exact hl
 have HX:Hid (y=m+1):=hy1
 have hcall:=Tryz.callByTick
 have wd1:((m:Int) - (x:Int) == 1)=false:=by simp;omega
 have wd2:(y:Int) - (m:Int)=1:=by omega
 have hmn:m < n:=by omega
 clear h hr1 hl hy1
 go_enter Tryz.func194,Tryz.ntmps194
 go_wp2_with fail
 go_loopg [14,15,16] y (fun gk iv jv hv wr=>∃ (i j:Nat),iv=.int .i64 (i:Int) ∧ jv=.int .i64 (j:Int) ∧ x ≤ i ∧ i ≤ j ∧ j ≤ m ∧ j - i ≤ gk ∧ Hid (i=x ∨ Aa pk (f (i - 1)) ≤ Aa pk (f m)) ∧ Hid (j=m ∨ Aa pk (f m) < Aa pk (f j)) ∧ Hid (Ab w0 b off n pk f wr))
 case atStart=>exact ⟨x,m,rfl,rfl,Nat.le_refl _,by omega,Nat.le_refl _,by have:=HX.out;omega,.inl rfl,.inl rfl,H0⟩
 case round=>
  clear H0
  obtain ⟨i,j,rfl,rfl,hmi,hij,hjy,hgk,HLo,HHi,H⟩:=hrel
  by_cases hlt:i < j
  ·
   have hltz:(i:Int) < (j:Int):=by omega
   obtain ⟨q,hq⟩:∃ q,(i+j) / 2=q:=⟨_,rfl⟩
   have wp:((i:Int)+(j:Int)) / 2=(q:Int):=by omega
   have hip:i ≤ q:=by omega
   have hpj:q < j:=by omega
   have hpn:m < n:=hmn
   have hqn:q < n:=by omega
   clear hq
   have a0:=H.out.row.c0 m hpn
   have a1:=H.out.row.c1 m hpn
   have a2:=H.out.row.c2 m hpn
   have b0:=H.out.row.c0 q hqn
   have b1:=H.out.row.c1 q hqn
   have b2:=H.out.row.c2 q hqn
   have hpz:(m:Int) < (n:Int):=by omega
   have hqz:(q:Int) < (n:Int):=by omega
   have HC:Hid (∀ l:Later wr,Calls Tryz.prog 140 #[.agg #[.int .i64 (pk (f m)).flow,.int .i64 (pk (f m)).size,.int .i64 (pk (f m)).tick],.agg #[.int .i64 (pk (f q)).flow,.int .i64 (pk (f q)).size,.int .i64 (pk (f q)).tick]] l.w fun e w'=>e=.returned (.int .i64 (Dv (pk (f m)).tick (pk (f q)).tick)) ∧ ∃ l':Later wr,w'=l'.w):=Later.calls fun W _=>Fs _ _ W
   obtain ⟨r,hr⟩:∃ r,Dv (pk (f m)).tick (pk (f q)).tick=r:=⟨_,rfl⟩
   have hrl:r < 0 ↔ (pk (f m)).tick < (pk (f q)).tick:=by rw [← hr];exact H6
   have HRL:Hid (r < 0 ↔ (pk (f m)).tick < (pk (f q)).tick):=hrl
   rw [hr] at HC
   generalize (pk (f m)).flow=u0 at a0 HC
   generalize (pk (f m)).size=u1 at a1 HC
   generalize (pk (f m)).tick=u2 at a2 HC
   generalize (pk (f q)).flow=v0 at b0 HC
   generalize (pk (f q)).size=v1 at b1 HC
   generalize (pk (f q)).tick=v2 at b2 HC
   have y0:=fun l:Later wr=>l.cell a0
   have y1:=fun l:Later wr=>l.cell a1
   have y2:=fun l:Later wr=>l.cell a2
   have y3:=fun l:Later wr=>l.cell b0
   have y4:=fun l:Later wr=>l.cell b1
   have y5:=fun l:Later wr=>l.cell b2
   have hne:Nonempty (Later wr):=⟨⟨wr,Below.refl _ _⟩⟩
   clear hr hrl a0 a1 a2 b0 b1 b2
   by_cases hless:r < 0
   ·
    have HT:Hid (Aa pk (f m) < Aa pk (f q)):=HRL.out.1 hless
    have hd:decide (r < 0)=true:=by simpa using hless
    clear HRL
    go_wp2_with fail
    refine Bn (by kernel_rfl) (by kernel_rfl) ?_
    repeat (go_big_quiet_step (exact HC.out _))
    refine wpQuiet_nil ?_
    rintro _ ⟨gq,rfl⟩
    have H1:Hid (Ab w0 b off n pk (f) gq.w):=H.out.later gq.bel
    generalize gq.w=W1 at H1 ⊢
    clear HC y0 y1 y2 y3 y4 y5 hne gq
    clear hless hd
    go_wp2_with fail
    go_roundg (q - i)
    case measure=>omega
    case rel=>exact ⟨i,q,rfl,by go_num,hmi,hip,by omega,Nat.le_refl _,HLo,.inr HT.out,H1⟩
   ·
    have HT:Hid (Aa pk (f q) ≤ Aa pk (f m)):=by show Aa pk (f q) ≤ Aa pk (f m);have:¬ (pk (f m)).tick < (pk (f q)).tick:=fun h=>hless (HRL.out.2 h);unfold Aa;omega
    have hd:decide (r < 0)=false:=by simpa using hless
    clear HRL
    go_wp2_with fail
    refine Bn (by kernel_rfl) (by kernel_rfl) ?_
    repeat (go_big_quiet_step (exact HC.out _))
    refine wpQuiet_nil ?_
    rintro _ ⟨gq,rfl⟩
    have H1:Hid (Ab w0 b off n pk (f) gq.w):=H.out.later gq.bel
    generalize gq.w=W1 at H1 ⊢
    clear HC y0 y1 y2 y3 y4 y5 hne gq
    clear hless hd
    go_wp2_with fail
    go_roundg (j - (q+1))
    case measure=>omega
    case rel=>exact ⟨q+1,j,by go_num,rfl,by omega,by omega,hjy,Nat.le_refl _,.inr HT.out,HHi,H1⟩
  ·
   have hltz:¬ (i:Int) < (j:Int):=by omega
   obtain rfl:i=j:=by omega
   have HMg:Hid (Merged (Aa pk) f (rot f i m (m+1)) x y):=by
    have e:=HX.out
    rw [e]
    exact VU hmi hjy HR.out HL.out HLo.out HHi.out
   have HS:Hid (Ab w0 b off n pk (rot f m m (m+1)) wr):=by show Ab _ _ _ _ _ _ _;rw [Mm];exact H.out
   clear hij hlt H
   go_wp2_with fail
   obtain ⟨W0,hW0⟩:∃ W,W=wr:=⟨_,rfl⟩
   subst hW0
   obtain ⟨gO,hgO⟩:∃ z,z=gk:=⟨_,rfl⟩
   subst hgO
   go_loopg [17] m (fun gk2 kv wr=>∃ p:Nat,kv=.int .i64 (p:Int) ∧ i ≤ p ∧ p ≤ m ∧ p - i ≤ gk2 ∧ Hid (Ab w0 b off n pk (rot f p m (m+1)) wr))
   case atStart=>exact ⟨m,rfl,hjy,Nat.le_refl _,by omega,HS⟩
   case round=>
    clear HS
    obtain ⟨p,rfl,hxp,hpz',hgk2,H⟩:=hrel
    by_cases hlt:i < p
    ·
     have hltz2:(i:Int) < (p:Int):=by omega
     obtain ⟨g,hg⟩:∃ g,rot f p m (m+1)=g:=⟨_,rfl⟩
     obtain ⟨q,hq⟩:∃ q,p - 1=q:=⟨_,rfl⟩
     have HQ:Hid (p=q+1):=by show _=_;omega
     have HG:Hid (xch g p q=rot f q m (m+1)):=by show _=_;rw [← hg,HQ.out];exact Rl f (by omega)
     rw [hg] at H
     have hpn:p < n:=by omega
     have hqn:q < n:=by omega
     have hpq:p ≠ q:=by omega
     have wq:IntKind.i64.wrap ((p:Int) - 1)=(q:Int):=by rw [IntKind.wrap_i64];omega
     have wq':(p:Int) - 1=(q:Int):=by omega
     clear hg hq
     have hpz:(p:Int) < (n:Int):=by omega
     have hqz:(q:Int) < (n:Int):=by omega
     have a0:=H.out.row.c0 p hpn
     have a1:=H.out.row.c1 p hpn
     have a2:=H.out.row.c2 p hpn
     have b0:=H.out.row.c0 q hqn
     have b1:=H.out.row.c1 q hqn
     have b2:=H.out.row.c2 q hqn
     have f0:=H.out.row.fz (off+p * 3)
     have f1:=H.out.row.fz (off+p * 3+1)
     have f2:=H.out.row.fz (off+p * 3+2)
     have g0:=H.out.row.fz (off+q * 3)
     have g1:=H.out.row.fz (off+q * 3+1)
     have g2:=H.out.row.fz (off+q * 3+2)
     have H2:∃ V,Hid ((CB (CB wr b (off+p * 3) (pk (g q))) b (off+q * 3) (pk (g p))).drew=V) ∧ Hid (Ab w0 b off n pk (rot f q m (m+1)) V):=⟨_,rfl,by show Ab _ _ _ _ _ _ _;rw [← HG.out];exact (H.out.xch hpn hqn).drew⟩
     have k0:(CB wr b (off+p * 3) (pk (g q))).cell? ⟨b,off+q * 3,none⟩=some (.int .i64 (pk (g q)).flow):=by rw [CX _ _ _ _ (by omega)];exact b0
     have k1:(CB wr b (off+p * 3) (pk (g q))).cell? ⟨b,off+q * 3+1,none⟩=some (.int .i64 (pk (g q)).size):=by rw [CX _ _ _ _ (by omega)];exact b1
     have k2:(CB wr b (off+p * 3) (pk (g q))).cell? ⟨b,off+q * 3+2,none⟩=some (.int .i64 (pk (g q)).tick):=by rw [CX _ _ _ _ (by omega)];exact b2
     obtain ⟨V,HV,HVS⟩:=H2
     unfold CB at HV k0 k1 k2
     obtain ⟨u0,hu0⟩:∃ u,(pk (g p)).flow=u:=⟨_,rfl⟩
     obtain ⟨u1,hu1⟩:∃ u,(pk (g p)).size=u:=⟨_,rfl⟩
     obtain ⟨u2,hu2⟩:∃ u,(pk (g p)).tick=u:=⟨_,rfl⟩
     obtain ⟨v0,hv0⟩:∃ v,(pk (g q)).flow=v:=⟨_,rfl⟩
     obtain ⟨v1,hv1⟩:∃ v,(pk (g q)).size=v:=⟨_,rfl⟩
     obtain ⟨v2,hv2⟩:∃ v,(pk (g q)).tick=v:=⟨_,rfl⟩
     rw [hu0] at a0 HV
     rw [hu1] at a1 HV
     rw [hu2] at a2 HV
     rw [hv0] at b0 HV k0 k1 k2
     rw [hv1] at b1 HV k0 k1 k2
     rw [hv2] at b2 HV k0 k1 k2
     clear hu0 hu1 hu2 hv0 hv1 hv2
     clear H HG
     go_wp2_with fail
     go_region
     rw [HV.out]
     clear HV a0 a1 a2 b0 b1 b2 f0 f1 f2 g0 g1 g2 k0 k1 k2
     go_wp2_with fail
     go_roundg (q - i)
     case measure=>have:=HQ.out;omega
     case rel=>exact ⟨q,by go_num,by have:=HQ.out;omega,by have:=HQ.out;omega,Nat.le_refl _,HVS⟩
    ·
     have hltz2:¬ (i:Int) < (p:Int):=by omega
     obtain rfl:p=i:=by omega
     go_wp2_with fail
     (try simp only [Exit.inBlock,Exit.then])
     refine bodyPost_ret (results_none rfl _ _ _) rfl ?_
     exact ⟨rfl,_,HMg.out,H.out⟩
end Go.Proofs.YtipdclphpkgceaaGreatDoor
