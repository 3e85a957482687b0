/- Own facts, put together: no statement of its own. -/
import Derived.Test.YtipdclphpkgceaaGreatDoorA18
set_option maxHeartbeats 4000000
set_option maxRecDepth 100000

namespace Go.Proofs.YtipdclphpkgceaaGreatDoor
open Go.RowKit
theorem Vb (w0:World) (b off n cap:Nat) (pk:Nat → Pk) (f:Nat → Nat) (x m y:Nat) (w:World) (h:Ab w0 b off n pk f w) (hxm:x+1 < m) (hmy:m+1 < y) (mid:Nat) (hm1:(x+y) / 2=mid) (hmid:m ≤ mid) (IH:(∀ (g:Nat → Nat) (x' m' y':Nat) (W:World),y' - x' < y - x → Ab w0 b off n pk g W → x' < m' → m' < y' → y' ≤ n → BG (Aa pk) g x' m' → BG (Aa pk) g m' y' → Lower g x' m' y' → Calls Tryz.prog 194 #[.slice (some ⟨b,off,none⟩) n cap,.int .i64 (x':Int),.int .i64 (m':Int),.int .i64 (y':Int),.func (.func 140) #[] #[]] W fun e w'=>e=.returned (.tuple #[]) ∧ ∃ g',Merged (Aa pk) g g' x' y' ∧ Ab w0 b off n pk g' w')) (hy:y ≤ n) (hn:n ≤ 1000) (hr1:BG (Aa pk) f x m) (hr2:BG (Aa pk) f m y) (hl:Lower f x m y) :
  Calls Tryz.prog 194 #[.slice (some ⟨b,off,none⟩) n cap,.int .i64 (x:Int),.int .i64 (m:Int),.int .i64 (y:Int),.func (.func 140) #[] #[]] w fun e w'=>e=.returned (.tuple #[]) ∧ ∃ g,Merged (Aa pk) f g x y ∧ Ab w0 b off n pk g w':=by
 have H0:Hid (Ab w0 b off n pk f w):=h
 have HR1:Hid (BG (Aa pk) f x m):=hr1
 have HR2:Hid (BG (Aa pk) f m y):=hr2
 have HL:Hid (Lower f x m y):=hl
 have HI:Hid (∀ (g:Nat → Nat) (x' m' y':Nat) (W:World),y' - x' < y - x → Ab w0 b off n pk g W → x' < m' → m' < y' → y' ≤ n → BG (Aa pk) g x' m' → BG (Aa pk) g m' y' → Lower g x' m' y' → Calls Tryz.prog 194 #[.slice (some ⟨b,off,none⟩) n cap,.int .i64 (x':Int),.int .i64 (m':Int),.int .i64 (y':Int),.func (.func 140) #[] #[]] W fun e w'=>e=.returned (.tuple #[]) ∧ ∃ g',Merged (Aa pk) g g' x' y' ∧ Ab w0 b off n pk g' w'):=IH
 have hcall:=Tryz.callByTick
 have wd1:((m:Int) - (x:Int) == 1)=false:=by simp;omega
 have wd2:((y:Int) - (m:Int) == 1)=false:=by simp;omega
 have wm:((x:Int)+(y:Int)) / 2=(mid:Int):=by omega
 have hxmid:x < mid:=by omega
 have hmidy:mid < y:=by omega
 have hb1:mid+mid ≤ x+y:=by omega
 have hb2:x+y ≤ mid+mid+1:=by omega
 obtain ⟨N,hN⟩:∃ N,mid+m=N:=⟨_,rfl⟩
 have wN:(mid:Int)+(m:Int)=(N:Int):=by omega
 obtain ⟨P,hP⟩:∃ P,N - 1=P:=⟨_,rfl⟩
 have wP:(N:Int) - 1=(P:Int):=by omega
 have HNN:Hid (mid+m=N ∧ N=P+1):=⟨hN,by omega⟩
 have hmz:¬ (mid:Int) < (m:Int):=by omega
 clear h hr1 hr2 hl hm1 hN hP IH
 go_enter Tryz.func194,Tryz.ntmps194
 go_wp2_with fail
 go_loopg [20,21,23] y (fun gk sv rv cv wr=>∃ (s t:Nat),sv=.int .i64 (s:Int) ∧ rv=.int .i64 (t:Int) ∧ x ≤ s ∧ s ≤ t ∧ t ≤ m ∧ t - s ≤ gk ∧ Hid (s=x ∨ Aa pk (f (s - 1)) ≤ Aa pk (f (N - s))) ∧ Hid (t=m ∨ Aa pk (f (P - t)) < Aa pk (f t)) ∧ Hid (Ab w0 b off n pk f wr))
 case atStart=>exact ⟨x,m,rfl,rfl,Nat.le_refl _,by omega,Nat.le_refl _,by omega,.inl rfl,.inl rfl,H0⟩
 case round=>
  clear H0
  obtain ⟨s,t,rfl,rfl,hmi,hij,hjy,hgk,HLo,HHi,H⟩:=hrel
  have hPN:=HNN.out
  by_cases hlt:s < t
  ·
   have hltz:(s:Int) < (t:Int):=by omega
   obtain ⟨q,hq⟩:∃ q,(s+t) / 2=q:=⟨_,rfl⟩
   have wc:((s:Int)+(t:Int)) / 2=(q:Int):=by omega
   have hip:s ≤ q:=by omega
   have hpj:q < t:=by omega
   obtain ⟨p,hp⟩:∃ p,P - q=p:=⟨_,rfl⟩
   have wp:IntKind.i64.wrap ((P:Int) - (q:Int))=(p:Int):=by rw [IntKind.wrap_i64];omega
   have hpn:p < n:=by omega
   have hqn:q < n:=by omega
   have HP:Hid (P - q=p):=hp
   clear hq hp
   have a0:=H.out.row.c0 p hpn
   have a1:=H.out.row.c1 p hpn
   have a2:=H.out.row.c2 p hpn
   have b0:=H.out.row.c0 q hqn
   have b1:=H.out.row.c1 q hqn
   have b2:=H.out.row.c2 q hqn
   have hpz:(p:Int) < (n:Int):=by omega
   have hqz:(q:Int) < (n:Int):=by omega
   have HC:Hid (∀ l:Later wr,Calls Tryz.prog 140 #[.agg #[.int .i64 (pk (f p)).flow,.int .i64 (pk (f p)).size,.int .i64 (pk (f p)).tick],.agg #[.int .i64 (pk (f q)).flow,.int .i64 (pk (f q)).size,.int .i64 (pk (f q)).tick]] l.w fun e w'=>e=.returned (.int .i64 (Dv (pk (f p)).tick (pk (f q)).tick)) ∧ ∃ l':Later wr,w'=l'.w):=Later.calls fun W _=>Fs _ _ W
   obtain ⟨r,hr⟩:∃ r,Dv (pk (f p)).tick (pk (f q)).tick=r:=⟨_,rfl⟩
   have hrl:r < 0 ↔ (pk (f p)).tick < (pk (f q)).tick:=by rw [← hr];exact H6
   have HRL:Hid (r < 0 ↔ (pk (f p)).tick < (pk (f q)).tick):=hrl
   rw [hr] at HC
   generalize (pk (f p)).flow=u0 at a0 HC
   generalize (pk (f p)).size=u1 at a1 HC
   generalize (pk (f p)).tick=u2 at a2 HC
   generalize (pk (f q)).flow=v0 at b0 HC
   generalize (pk (f q)).size=v1 at b1 HC
   generalize (pk (f q)).tick=v2 at b2 HC
   have y0:=fun l:Later wr=>l.cell a0
   have y1:=fun l:Later wr=>l.cell a1
   have y2:=fun l:Later wr=>l.cell a2
   have y3:=fun l:Later wr=>l.cell b0
   have y4:=fun l:Later wr=>l.cell b1
   have y5:=fun l:Later wr=>l.cell b2
   have hne:Nonempty (Later wr):=⟨⟨wr,Below.refl _ _⟩⟩
   clear hr hrl a0 a1 a2 b0 b1 b2
   clear hPN
   by_cases hless:r < 0
   ·
    have HT:Hid (Aa pk (f (P - q)) < Aa pk (f q)):=by show Aa pk (f (P - q)) < Aa pk (f q);rw [HP.out];exact HRL.out.1 hless
    have hd:decide (r < 0)=true:=by simpa using hless
    clear HRL
    go_wp2_with fail
    refine Bn (by kernel_rfl) (by kernel_rfl) ?_
    repeat (go_big_quiet_step (exact HC.out _))
    refine wpQuiet_nil ?_
    rintro _ ⟨gq,rfl⟩
    have H1:Hid (Ab w0 b off n pk (f) gq.w):=H.out.later gq.bel
    generalize gq.w=W1 at H1 ⊢
    clear HC y0 y1 y2 y3 y4 y5 hne gq
    clear hless hd
    go_wp2_with fail
    go_roundg (q - s)
    case measure=>omega
    case rel=>exact ⟨s,q,rfl,by go_num,hmi,hip,by omega,Nat.le_refl _,HLo,.inr HT.out,H1⟩
   ·
    have HT:Hid (Aa pk (f (q+1 - 1)) ≤ Aa pk (f (N - (q+1)))):=by show Aa pk (f (q+1 - 1)) ≤ Aa pk (f (N - (q+1)));have h1:¬ (pk (f p)).tick < (pk (f q)).tick:=fun h=>hless (HRL.out.2 h);have h2:=HP.out;have h3:=HNN.out;rw [show N - (q+1)=p by omega,Nat.add_sub_cancel];unfold Aa;omega
    have hd:decide (r < 0)=false:=by simpa using hless
    clear HRL
    go_wp2_with fail
    refine Bn (by kernel_rfl) (by kernel_rfl) ?_
    repeat (go_big_quiet_step (exact HC.out _))
    refine wpQuiet_nil ?_
    rintro _ ⟨gq,rfl⟩
    have H1:Hid (Ab w0 b off n pk (f) gq.w):=H.out.later gq.bel
    generalize gq.w=W1 at H1 ⊢
    clear HC y0 y1 y2 y3 y4 y5 hne gq
    clear hless hd
    go_wp2_with fail
    go_roundg (t - (q+1))
    case measure=>omega
    case rel=>exact ⟨q+1,t,by go_num,rfl,by omega,by omega,hjy,Nat.le_refl _,.inr HT.out,HHi,H1⟩
  ·
   have hltz:¬ (s:Int) < (t:Int):=by omega
   obtain rfl:s=t:=by omega
   obtain ⟨e,he⟩:∃ e,N - s=e:=⟨_,rfl⟩
   have we:(N:Int) - (s:Int)=(e:Int):=by omega
   have hal:KZ (Aa pk) f x m y mid s e:=by
    have h1:=HLo.out
    have h2:=HHi.out
    rw [he] at h1
    refine ⟨by omega,by omega,by omega,by omega,by omega,fun h3 h4=>?_,fun h3 h4=>?_⟩
    ·
     rcases h2 with h2 | h2
     · omega
     · rwa [show P - s=e - 1 by omega] at h2
    ·
     rcases h1 with h1 | h1
     · omega
     · exact h1
   obtain ⟨⟨ra,rb,rc,rd⟩,la,lb,cross⟩:=hal.parts HR1.out HR2.out HL.out
   have hsm:=hal.sm
   have hme:=hal.me
   have hxs:=hal.sa
   have hey:=hal.eb
   obtain ⟨-,-,hsmid,hmide⟩:=hal.mid_in
   obtain ⟨k,hk⟩:∃ k,rot f s m e=k:=⟨_,rfl⟩
   rw [hk] at ra rb rc rd la lb cross
   have HRo:Hid (s < m → m < e → Calls Tryz.prog 220 #[.slice (some ⟨b,off,none⟩) n cap,.int .i64 (s:Int),.int .i64 (m:Int),.int .i64 (e:Int),.func (.func 140) #[] #[]] wr fun e w'=>e=.returned (.tuple #[]) ∧ Ab w0 b off n pk k w'):=fun h1 h2=>by rw [← hk];exact Px w0 b off n cap pk _ f s m e wr H.out h1 h2 (by omega) hn
   have HNo:Hid (¬ (s < m ∧ m < e) → Ab w0 b off n pk k wr):=fun h1=>by
    rw [← hk]
    rcases Nat.lt_or_ge s m with h2 | h2
    ·
     obtain rfl:m=e:=by omega
     rw [NZ];exact H.out
    ·
     obtain rfl:s=m:=by omega
     rw [Mm];exact H.out
   have HA:Hid (∀ W,Ab w0 b off n pk k W → x < s → s < mid → Calls Tryz.prog 194 #[.slice (some ⟨b,off,none⟩) n cap,.int .i64 (x:Int),.int .i64 (s:Int),.int .i64 (mid:Int),.func (.func 140) #[] #[]] W fun e w'=>e=.returned (.tuple #[]) ∧ ∃ g',Merged (Aa pk) k g' x mid ∧ Ab w0 b off n pk g' w'):=fun W hW h1 h2=>HI.out k x s mid W (by omega) hW h1 h2 (by omega) ra rb la
   have HAN:Hid (¬ (x < s ∧ s < mid) → Merged (Aa pk) k k x mid):=fun h1=>by
    refine ⟨EL.refl _ _ _,?_⟩
    rcases Nat.lt_or_ge x s with h2 | h2
    ·
     obtain rfl:s=mid:=by omega
     exact ra
    ·
     obtain rfl:s=x:=by omega
     exact rb
   have HB:Hid (∀ g1 W,Merged (Aa pk) k g1 x mid → Ab w0 b off n pk g1 W → mid < e → e < y → Calls Tryz.prog 194 #[.slice (some ⟨b,off,none⟩) n cap,.int .i64 (mid:Int),.int .i64 (e:Int),.int .i64 (y:Int),.func (.func 140) #[] #[]] W fun e w'=>e=.returned (.tuple #[]) ∧ ∃ g',Merged (Aa pk) g1 g' mid y ∧ Ab w0 b off n pk g' w'):=fun g1 W hM hW h1 h2=>by
    have ek:∀ z,mid ≤ z → g1 z=k z:=fun z hz=>hM.1.out z (.inr hz)
    refine HI.out g1 mid e y W (by omega) hW h1 h2 hy (fun i j h3 h4 h5=>?_) (fun i j h3 h4 h5=>?_) (fun i j h3 h4 h5 h6=>?_)
    · rw [ek i h3,ek j (by omega)];exact rc i j h3 h4 h5
    · rw [ek i (by omega),ek j (by omega)];exact rd i j h3 h4 h5
    · rw [ek i h3,ek j (by omega)];exact lb i j h3 h4 h5 h6
   have HBN:Hid (∀ g1,Merged (Aa pk) k g1 x mid → ¬ (mid < e ∧ e < y) → Merged (Aa pk) g1 g1 mid y):=fun g1 hM h1=>by
    have ek:∀ z,mid ≤ z → g1 z=k z:=fun z hz=>hM.1.out z (.inr hz)
    refine ⟨EL.refl _ _ _,fun i j h3 h4 h5=>?_⟩
    rw [ek i h3,ek j (by omega)]
    rcases Nat.lt_or_ge mid e with h2 | h2
    ·
     obtain rfl:e=y:=by omega
     exact rc i j h3 h4 h5
    ·
     obtain rfl:e=mid:=by omega
     exact rd i j h3 h4 h5
   have HEnd:Hid (∀ g1 g2,Merged (Aa pk) k g1 x mid → Merged (Aa pk) g1 g2 mid y → Merged (Aa pk) f g2 x y):=fun g1 g2 h1 h2=>by
    have h3:=MV (by omega) (by omega) h1 h2 cross
    refine ⟨EL.trans ?_ h3.1,h3.2⟩
    rw [← hk]
    exact (Jh f hsm hme).wide hxs hey
   clear hal ra rb rc rd la lb cross hk HI HR1 HR2 HL HLo HHi H he hPN hij hlt hmi hjy
   by_cases hd1:s < m
   ·
    have z1:(s:Int) < (m:Int):=by omega
    by_cases hd2:m < e
    ·
     have z2:(m:Int) < (e:Int):=by omega
     have HCr:=HRo.out hd1 hd2
     have HCr':Hid (Calls Tryz.prog 220 #[.slice (some ⟨b,off,none⟩) n cap,.int .i64 (s:Int),.int .i64 (m:Int),.int .i64 (e:Int),.func (.func 140) #[] #[]] wr fun e w'=>e=.returned (.tuple #[]) ∧ Ab w0 b off n pk k w'):=HCr
     clear HCr HRo HNo
     go_wp2_with fail
     refine HCr'.out.mono ?_
     rintro _ W1 ⟨rfl,h1⟩
     have H1:Hid (Ab w0 b off n pk k W1):=h1
     clear h1 HCr' z1 z2 hltz
     by_cases hc1:x < s
     ·
      have z3:(x:Int) < (s:Int):=by omega
      by_cases hc2:s < mid
      ·
       have z4:(s:Int) < (mid:Int):=by omega
       have HCa:=HA.out W1 H1.out hc1 hc2
       have HCa':Hid (Calls Tryz.prog 194 #[.slice (some ⟨b,off,none⟩) n cap,.int .i64 (x:Int),.int .i64 (s:Int),.int .i64 (mid:Int),.func (.func 140) #[] #[]] W1 fun e w'=>e=.returned (.tuple #[]) ∧ ∃ g',Merged (Aa pk) k g' x mid ∧ Ab w0 b off n pk g' w'):=HCa
       clear HCa H1
       go_wp2_with fail
       refine HCa'.out.mono ?_
       rintro _ W2 ⟨rfl,g1,hM1,h2⟩
       have HM1:Hid (Merged (Aa pk) k g1 x mid):=hM1
       have H2:Hid (Ab w0 b off n pk g1 W2):=h2
       clear hM1 h2 HCa' z3 z4
       by_cases hc3:mid < e
       ·
        have z5:(mid:Int) < (e:Int):=by omega
        by_cases hc4:e < y
        ·
         have z6:(e:Int) < (y:Int):=by omega
         have HCb:=HB.out _ _ HM1.out H2.out hc3 hc4
         have HCb':Hid (Calls Tryz.prog 194 #[.slice (some ⟨b,off,none⟩) n cap,.int .i64 (mid:Int),.int .i64 (e:Int),.int .i64 (y:Int),.func (.func 140) #[] #[]] W2 fun e w'=>e=.returned (.tuple #[]) ∧ ∃ g',Merged (Aa pk) g1 g' mid y ∧ Ab w0 b off n pk g' w'):=HCb
         clear HCb
         go_wp2_with fail
         refine HCb'.out.mono ?_
         rintro _ w3 ⟨rfl,g2,hM2,h3⟩
         have HE:Hid (Merged (Aa pk) f g2 x y ∧ Ab w0 b off n pk g2 w3):=⟨HEnd.out _ _ HM1.out hM2,h3⟩
         clear hM2 h3 HCb'
         go_wp2_with fail
         go_end0
         exact ⟨rfl,g2,HE.out⟩
        ·
         have z6:¬ (e:Int) < (y:Int):=by omega
         have HE:Hid (Merged (Aa pk) f g1 x y):=HEnd.out _ _ HM1.out (HBN.out _ HM1.out (fun h=>hc4 h.2))
         go_wp2_with fail
         go_end0
         exact ⟨rfl,g1,HE.out,H2.out⟩
       ·
        have z5:¬ (mid:Int) < (e:Int):=by omega
        have HE:Hid (Merged (Aa pk) f g1 x y):=HEnd.out _ _ HM1.out (HBN.out _ HM1.out (fun h=>hc3 h.1))
        go_wp2_with fail
        go_end0
        exact ⟨rfl,g1,HE.out,H2.out⟩
      ·
       have z4:¬ (s:Int) < (mid:Int):=by omega
       have HM1:Hid (Merged (Aa pk) k k x mid):=HAN.out (fun h=>hc2 h.2)
       obtain ⟨W2,hW2⟩:∃ W,W=W1:=⟨_,rfl⟩
       subst hW2
       have H2:=H1
       clear H1
       by_cases hc3:mid < e
       ·
        have z5:(mid:Int) < (e:Int):=by omega
        by_cases hc4:e < y
        ·
         have z6:(e:Int) < (y:Int):=by omega
         have HCb:=HB.out _ _ HM1.out H2.out hc3 hc4
         have HCb':Hid (Calls Tryz.prog 194 #[.slice (some ⟨b,off,none⟩) n cap,.int .i64 (mid:Int),.int .i64 (e:Int),.int .i64 (y:Int),.func (.func 140) #[] #[]] W2 fun e w'=>e=.returned (.tuple #[]) ∧ ∃ g',Merged (Aa pk) k g' mid y ∧ Ab w0 b off n pk g' w'):=HCb
         clear HCb
         go_wp2_with fail
         refine HCb'.out.mono ?_
         rintro _ w3 ⟨rfl,g2,hM2,h3⟩
         have HE:Hid (Merged (Aa pk) f g2 x y ∧ Ab w0 b off n pk g2 w3):=⟨HEnd.out _ _ HM1.out hM2,h3⟩
         clear hM2 h3 HCb'
         go_wp2_with fail
         go_end0
         exact ⟨rfl,g2,HE.out⟩
        ·
         have z6:¬ (e:Int) < (y:Int):=by omega
         have HE:Hid (Merged (Aa pk) f k x y):=HEnd.out _ _ HM1.out (HBN.out _ HM1.out (fun h=>hc4 h.2))
         go_wp2_with fail
         go_end0
         exact ⟨rfl,k,HE.out,H2.out⟩
       ·
        have z5:¬ (mid:Int) < (e:Int):=by omega
        have HE:Hid (Merged (Aa pk) f k x y):=HEnd.out _ _ HM1.out (HBN.out _ HM1.out (fun h=>hc3 h.1))
        go_wp2_with fail
        go_end0
        exact ⟨rfl,k,HE.out,H2.out⟩
     ·
      have z3:¬ (x:Int) < (s:Int):=by omega
      have HM1:Hid (Merged (Aa pk) k k x mid):=HAN.out (fun h=>hc1 h.1)
      obtain ⟨W2,hW2⟩:∃ W,W=W1:=⟨_,rfl⟩
      subst hW2
      have H2:=H1
      clear H1
      by_cases hc3:mid < e
      ·
       have z5:(mid:Int) < (e:Int):=by omega
       by_cases hc4:e < y
       ·
        have z6:(e:Int) < (y:Int):=by omega
        have HCb:=HB.out _ _ HM1.out H2.out hc3 hc4
        have HCb':Hid (Calls Tryz.prog 194 #[.slice (some ⟨b,off,none⟩) n cap,.int .i64 (mid:Int),.int .i64 (e:Int),.int .i64 (y:Int),.func (.func 140) #[] #[]] W2 fun e w'=>e=.returned (.tuple #[]) ∧ ∃ g',Merged (Aa pk) k g' mid y ∧ Ab w0 b off n pk g' w'):=HCb
        clear HCb
        go_wp2_with fail
        refine HCb'.out.mono ?_
        rintro _ w3 ⟨rfl,g2,hM2,h3⟩
        have HE:Hid (Merged (Aa pk) f g2 x y ∧ Ab w0 b off n pk g2 w3):=⟨HEnd.out _ _ HM1.out hM2,h3⟩
        clear hM2 h3 HCb'
        go_wp2_with fail
        go_end0
        exact ⟨rfl,g2,HE.out⟩
       ·
        have z6:¬ (e:Int) < (y:Int):=by omega
        have HE:Hid (Merged (Aa pk) f k x y):=HEnd.out _ _ HM1.out (HBN.out _ HM1.out (fun h=>hc4 h.2))
        go_wp2_with fail
        go_end0
        exact ⟨rfl,k,HE.out,H2.out⟩
      ·
       have z5:¬ (mid:Int) < (e:Int):=by omega
       have HE:Hid (Merged (Aa pk) f k x y):=HEnd.out _ _ HM1.out (HBN.out _ HM1.out (fun h=>hc3 h.1))
       go_wp2_with fail
       go_end0
       exact ⟨rfl,k,HE.out,H2.out⟩
    ·
     have z2:¬ (m:Int) < (e:Int):=by omega
     obtain ⟨W1,hW1⟩:∃ W,W=wr:=⟨_,rfl⟩
     subst hW1
     have H1:Hid (Ab w0 b off n pk k W1):=HNo.out (fun h=>hd2 h.2)
     clear HRo HNo
     by_cases hc1:x < s
     ·
      have z3:(x:Int) < (s:Int):=by omega
      by_cases hc2:s < mid
      ·
       have z4:(s:Int) < (mid:Int):=by omega
       have HCa:=HA.out W1 H1.out hc1 hc2
       have HCa':Hid (Calls Tryz.prog 194 #[.slice (some ⟨b,off,none⟩) n cap,.int .i64 (x:Int),.int .i64 (s:Int),.int .i64 (mid:Int),.func (.func 140) #[] #[]] W1 fun e w'=>e=.returned (.tuple #[]) ∧ ∃ g',Merged (Aa pk) k g' x mid ∧ Ab w0 b off n pk g' w'):=HCa
       clear HCa H1
       go_wp2_with fail
       refine HCa'.out.mono ?_
       rintro _ W2 ⟨rfl,g1,hM1,h2⟩
       have HM1:Hid (Merged (Aa pk) k g1 x mid):=hM1
       have H2:Hid (Ab w0 b off n pk g1 W2):=h2
       clear hM1 h2 HCa' z3 z4
       by_cases hc3:mid < e
       ·
        have z5:(mid:Int) < (e:Int):=by omega
        by_cases hc4:e < y
        ·
         have z6:(e:Int) < (y:Int):=by omega
         have HCb:=HB.out _ _ HM1.out H2.out hc3 hc4
         have HCb':Hid (Calls Tryz.prog 194 #[.slice (some ⟨b,off,none⟩) n cap,.int .i64 (mid:Int),.int .i64 (e:Int),.int .i64 (y:Int),.func (.func 140) #[] #[]] W2 fun e w'=>e=.returned (.tuple #[]) ∧ ∃ g',Merged (Aa pk) g1 g' mid y ∧ Ab w0 b off n pk g' w'):=HCb
         clear HCb
         go_wp2_with fail
         refine HCb'.out.mono ?_
         rintro _ w3 ⟨rfl,g2,hM2,h3⟩
         have HE:Hid (Merged (Aa pk) f g2 x y ∧ Ab w0 b off n pk g2 w3):=⟨HEnd.out _ _ HM1.out hM2,h3⟩
         clear hM2 h3 HCb'
         go_wp2_with fail
         go_end0
         exact ⟨rfl,g2,HE.out⟩
        ·
         have z6:¬ (e:Int) < (y:Int):=by omega
         have HE:Hid (Merged (Aa pk) f g1 x y):=HEnd.out _ _ HM1.out (HBN.out _ HM1.out (fun h=>hc4 h.2))
         go_wp2_with fail
         go_end0
         exact ⟨rfl,g1,HE.out,H2.out⟩
       ·
        have z5:¬ (mid:Int) < (e:Int):=by omega
        have HE:Hid (Merged (Aa pk) f g1 x y):=HEnd.out _ _ HM1.out (HBN.out _ HM1.out (fun h=>hc3 h.1))
        go_wp2_with fail
        go_end0
        exact ⟨rfl,g1,HE.out,H2.out⟩
      ·
       have z4:¬ (s:Int) < (mid:Int):=by omega
       have HM1:Hid (Merged (Aa pk) k k x mid):=HAN.out (fun h=>hc2 h.2)
       obtain ⟨W2,hW2⟩:∃ W,W=W1:=⟨_,rfl⟩
       subst hW2
       have H2:=H1
       clear H1
       by_cases hc3:mid < e
       ·
        have z5:(mid:Int) < (e:Int):=by omega
        by_cases hc4:e < y
        ·
         have z6:(e:Int) < (y:Int):=by omega
         have HCb:=HB.out _ _ HM1.out H2.out hc3 hc4
         have HCb':Hid (Calls Tryz.prog 194 #[.slice (some ⟨b,off,none⟩) n cap,.int .i64 (mid:Int),.int .i64 (e:Int),.int .i64 (y:Int),.func (.func 140) #[] #[]] W2 fun e w'=>e=.returned (.tuple #[]) ∧ ∃ g',Merged (Aa pk) k g' mid y ∧ Ab w0 b off n pk g' w'):=HCb
         clear HCb
         go_wp2_with fail
         refine HCb'.out.mono ?_
         rintro _ w3 ⟨rfl,g2,hM2,h3⟩
         have HE:Hid (Merged (Aa pk) f g2 x y ∧ Ab w0 b off n pk g2 w3):=⟨HEnd.out _ _ HM1.out hM2,h3⟩
         clear hM2 h3 HCb'
         go_wp2_with fail
         go_end0
         exact ⟨rfl,g2,HE.out⟩
        ·
         have z6:¬ (e:Int) < (y:Int):=by omega
         have HE:Hid (Merged (Aa pk) f k x y):=HEnd.out _ _ HM1.out (HBN.out _ HM1.out (fun h=>hc4 h.2))
         go_wp2_with fail
         go_end0
         exact ⟨rfl,k,HE.out,H2.out⟩
       ·
        have z5:¬ (mid:Int) < (e:Int):=by omega
        have HE:Hid (Merged (Aa pk) f k x y):=HEnd.out _ _ HM1.out (HBN.out _ HM1.out (fun h=>hc3 h.1))
        go_wp2_with fail
        go_end0
        exact ⟨rfl,k,HE.out,H2.out⟩
     ·
      have z3:¬ (x:Int) < (s:Int):=by omega
      have HM1:Hid (Merged (Aa pk) k k x mid):=HAN.out (fun h=>hc1 h.1)
      obtain ⟨W2,hW2⟩:∃ W,W=W1:=⟨_,rfl⟩
      subst hW2
      have H2:=H1
      clear H1
      by_cases hc3:mid < e
      ·
       have z5:(mid:Int) < (e:Int):=by omega
       by_cases hc4:e < y
       ·
        have z6:(e:Int) < (y:Int):=by omega
        have HCb:=HB.out _ _ HM1.out H2.out hc3 hc4
        have HCb':Hid (Calls Tryz.prog 194 #[.slice (some ⟨b,off,none⟩) n cap,.int .i64 (mid:Int),.int .i64 (e:Int),.int .i64 (y:Int),.func (.func 140) #[] #[]] W2 fun e w'=>e=.returned (.tuple #[]) ∧ ∃ g',Merged (Aa pk) k g' mid y ∧ Ab w0 b off n pk g' w'):=HCb
        clear HCb
        go_wp2_with fail
        refine HCb'.out.mono ?_
        rintro _ w3 ⟨rfl,g2,hM2,h3⟩
        have HE:Hid (Merged (Aa pk) f g2 x y ∧ Ab w0 b off n pk g2 w3):=⟨HEnd.out _ _ HM1.out hM2,h3⟩
        clear hM2 h3 HCb'
        go_wp2_with fail
        go_end0
        exact ⟨rfl,g2,HE.out⟩
       ·
        have z6:¬ (e:Int) < (y:Int):=by omega
        have HE:Hid (Merged (Aa pk) f k x y):=HEnd.out _ _ HM1.out (HBN.out _ HM1.out (fun h=>hc4 h.2))
        go_wp2_with fail
        go_end0
        exact ⟨rfl,k,HE.out,H2.out⟩
      ·
       have z5:¬ (mid:Int) < (e:Int):=by omega
       have HE:Hid (Merged (Aa pk) f k x y):=HEnd.out _ _ HM1.out (HBN.out _ HM1.out (fun h=>hc3 h.1))
       go_wp2_with fail
       go_end0
       exact ⟨rfl,k,HE.out,H2.out⟩
   ·
    have z1:¬ (s:Int) < (m:Int):=by omega
    obtain ⟨W1,hW1⟩:∃ W,W=wr:=⟨_,rfl⟩
    subst hW1
    have H1:Hid (Ab w0 b off n pk k W1):=HNo.out (fun h=>hd1 h.1)
    clear HRo HNo
    by_cases hc1:x < s
    ·
     have z3:(x:Int) < (s:Int):=by omega
     by_cases hc2:s < mid
     ·
      have z4:(s:Int) < (mid:Int):=by omega
      have HCa:=HA.out W1 H1.out hc1 hc2
      have HCa':Hid (Calls Tryz.prog 194 #[.slice (some ⟨b,off,none⟩) n cap,.int .i64 (x:Int),.int .i64 (s:Int),.int .i64 (mid:Int),.func (.func 140) #[] #[]] W1 fun e w'=>e=.returned (.tuple #[]) ∧ ∃ g',Merged (Aa pk) k g' x mid ∧ Ab w0 b off n pk g' w'):=HCa
      clear HCa H1
      go_wp2_with fail
      refine HCa'.out.mono ?_
      rintro _ W2 ⟨rfl,g1,hM1,h2⟩
      have HM1:Hid (Merged (Aa pk) k g1 x mid):=hM1
      have H2:Hid (Ab w0 b off n pk g1 W2):=h2
      clear hM1 h2 HCa' z3 z4
      by_cases hc3:mid < e
      ·
       have z5:(mid:Int) < (e:Int):=by omega
       by_cases hc4:e < y
       ·
        have z6:(e:Int) < (y:Int):=by omega
        have HCb:=HB.out _ _ HM1.out H2.out hc3 hc4
        have HCb':Hid (Calls Tryz.prog 194 #[.slice (some ⟨b,off,none⟩) n cap,.int .i64 (mid:Int),.int .i64 (e:Int),.int .i64 (y:Int),.func (.func 140) #[] #[]] W2 fun e w'=>e=.returned (.tuple #[]) ∧ ∃ g',Merged (Aa pk) g1 g' mid y ∧ Ab w0 b off n pk g' w'):=HCb
        clear HCb
        go_wp2_with fail
        refine HCb'.out.mono ?_
        rintro _ w3 ⟨rfl,g2,hM2,h3⟩
        have HE:Hid (Merged (Aa pk) f g2 x y ∧ Ab w0 b off n pk g2 w3):=⟨HEnd.out _ _ HM1.out hM2,h3⟩
        clear hM2 h3 HCb'
        go_wp2_with fail
        go_end0
        exact ⟨rfl,g2,HE.out⟩
       ·
        have z6:¬ (e:Int) < (y:Int):=by omega
        have HE:Hid (Merged (Aa pk) f g1 x y):=HEnd.out _ _ HM1.out (HBN.out _ HM1.out (fun h=>hc4 h.2))
        go_wp2_with fail
        go_end0
        exact ⟨rfl,g1,HE.out,H2.out⟩
      ·
       have z5:¬ (mid:Int) < (e:Int):=by omega
       have HE:Hid (Merged (Aa pk) f g1 x y):=HEnd.out _ _ HM1.out (HBN.out _ HM1.out (fun h=>hc3 h.1))
       go_wp2_with fail
       go_end0
       exact ⟨rfl,g1,HE.out,H2.out⟩
     ·
      have z4:¬ (s:Int) < (mid:Int):=by omega
      have HM1:Hid (Merged (Aa pk) k k x mid):=HAN.out (fun h=>hc2 h.2)
      obtain ⟨W2,hW2⟩:∃ W,W=W1:=⟨_,rfl⟩
      subst hW2
      have H2:=H1
      clear H1
      by_cases hc3:mid < e
      ·
       have z5:(mid:Int) < (e:Int):=by omega
       by_cases hc4:e < y
       ·
        have z6:(e:Int) < (y:Int):=by omega
        have HCb:=HB.out _ _ HM1.out H2.out hc3 hc4
        have HCb':Hid (Calls Tryz.prog 194 #[.slice (some ⟨b,off,none⟩) n cap,.int .i64 (mid:Int),.int .i64 (e:Int),.int .i64 (y:Int),.func (.func 140) #[] #[]] W2 fun e w'=>e=.returned (.tuple #[]) ∧ ∃ g',Merged (Aa pk) k g' mid y ∧ Ab w0 b off n pk g' w'):=HCb
        clear HCb
        go_wp2_with fail
        refine HCb'.out.mono ?_
        rintro _ w3 ⟨rfl,g2,hM2,h3⟩
        have HE:Hid (Merged (Aa pk) f g2 x y ∧ Ab w0 b off n pk g2 w3):=⟨HEnd.out _ _ HM1.out hM2,h3⟩
        clear hM2 h3 HCb'
        go_wp2_with fail
        go_end0
        exact ⟨rfl,g2,HE.out⟩
       ·
        have z6:¬ (e:Int) < (y:Int):=by omega
        have HE:Hid (Merged (Aa pk) f k x y):=HEnd.out _ _ HM1.out (HBN.out _ HM1.out (fun h=>hc4 h.2))
        go_wp2_with fail
        go_end0
        exact ⟨rfl,k,HE.out,H2.out⟩
      ·
       have z5:¬ (mid:Int) < (e:Int):=by omega
       have HE:Hid (Merged (Aa pk) f k x y):=HEnd.out _ _ HM1.out (HBN.out _ HM1.out (fun h=>hc3 h.1))
       go_wp2_with fail
       go_end0
       exact ⟨rfl,k,HE.out,H2.out⟩
    ·
     have z3:¬ (x:Int) < (s:Int):=by omega
     have HM1:Hid (Merged (Aa pk) k k x mid):=HAN.out (fun h=>hc1 h.1)
     obtain ⟨W2,hW2⟩:∃ W,W=W1:=⟨_,rfl⟩
     subst hW2
     have H2:=H1
     clear H1
     by_cases hc3:mid < e
     ·
      have z5:(mid:Int) < (e:Int):=by omega
      by_cases hc4:e < y
      ·
       have z6:(e:Int) < (y:Int):=by omega
       have HCb:=HB.out _ _ HM1.out H2.out hc3 hc4
       have HCb':Hid (Calls Tryz.prog 194 #[.slice (some ⟨b,off,none⟩) n cap,.int .i64 (mid:Int),.int .i64 (e:Int),.int .i64 (y:Int),.func (.func 140) #[] #[]] W2 fun e w'=>e=.returned (.tuple #[]) ∧ ∃ g',Merged (Aa pk) k g' mid y ∧ Ab w0 b off n pk g' w'):=HCb
       clear HCb
       go_wp2_with fail
       refine HCb'.out.mono ?_
       rintro _ w3 ⟨rfl,g2,hM2,h3⟩
       have HE:Hid (Merged (Aa pk) f g2 x y ∧ Ab w0 b off n pk g2 w3):=⟨HEnd.out _ _ HM1.out hM2,h3⟩
       clear hM2 h3 HCb'
       go_wp2_with fail
       go_end0
       exact ⟨rfl,g2,HE.out⟩
      ·
       have z6:¬ (e:Int) < (y:Int):=by omega
       have HE:Hid (Merged (Aa pk) f k x y):=HEnd.out _ _ HM1.out (HBN.out _ HM1.out (fun h=>hc4 h.2))
       go_wp2_with fail
       go_end0
       exact ⟨rfl,k,HE.out,H2.out⟩
     ·
      have z5:¬ (mid:Int) < (e:Int):=by omega
      have HE:Hid (Merged (Aa pk) f k x y):=HEnd.out _ _ HM1.out (HBN.out _ HM1.out (fun h=>hc3 h.1))
      go_wp2_with fail
      go_end0
      exact ⟨rfl,k,HE.out,H2.out⟩
end Go.Proofs.YtipdclphpkgceaaGreatDoor
