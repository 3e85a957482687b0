/- Own facts, put together: no statement of its own. -/
import Derived.Test.YtipdclphpkgceaaGreatDoorA18
import Derived.Test.YtipdclphpkgceaaGreatDoorA19
import Derived.Test.YtipdclphpkgceaaGreatDoorA02
import Derived.Test.YtipdclphpkgceaaGreatDoorA09
import Derived.Test.YtipdclphpkgceaaGreatDoorA01
import Derived.Test.YtipdclphpkgceaaGreatDoorA06
set_option maxHeartbeats 4000000
set_option maxRecDepth 100000

namespace Go.Proofs.YtipdclphpkgceaaGreatDoor
open Go.RowKit
theorem U7 (w0:World) (b off n cap:Nat) (pk:Nat → Pk) (f:Nat → Nat) (x m y:Nat) (w:World) (h:Ab w0 b off n pk f w) (hxm:x+1 < m) (hmy:m+1 < y) (mid:Nat) (hm1:(x+y) / 2=mid) (hmid:mid < m) (IH:(∀ (g:Nat → Nat) (x' m' y':Nat) (W:World),y' - x' < y - x → Ab w0 b off n pk g W → x' < m' → m' < y' → y' ≤ n → BG (Aa pk) g x' m' → BG (Aa pk) g m' y' → Lower g x' m' y' → Calls Tryz.prog 194 #[.slice (some ⟨b,off,none⟩) n cap,.int .i64 (x':Int),.int .i64 (m':Int),.int .i64 (y':Int),.func (.func 140) #[] #[]] W fun e w'=>e=.returned (.tuple #[]) ∧ ∃ g',Merged (Aa pk) g g' x' y' ∧ Ab w0 b off n pk g' w')) (hy:y ≤ n) (hn:n ≤ 1000) (hr1:BG (Aa pk) f x m) (hr2:BG (Aa pk) f m y) (hl:Lower f x m y) :
  Calls Tryz.prog 194 #[.slice (some ⟨b,off,none⟩) n cap,.int .i64 (x:Int),.int .i64 (m:Int),.int .i64 (y:Int),.func (.func 140) #[] #[]] w fun e w'=>e=.returned (.tuple #[]) ∧ ∃ g,Merged (Aa pk) f g x y ∧ Ab w0 b off n pk g w':=by
 have H0:Hid (Ab w0 b off n pk f w):=h
 have HR1:Hid (BG (Aa pk) f x m):=hr1
 have HR2:Hid (BG (Aa pk) f m y):=hr2
 have HL:Hid (Lower f x m y):=hl
 have HI:Hid (∀ (g:Nat → Nat) (x' m' y':Nat) (W:World),y' - x' < y - x → Ab w0 b off n pk g W → x' < m' → m' < y' → y' ≤ n → BG (Aa pk) g x' m' → BG (Aa pk) g m' y' → Lower g x' m' y' → Calls Tryz.prog 194 #[.slice (some ⟨b,off,none⟩) n cap,.int .i64 (x':Int),.int .i64 (m':Int),.int .i64 (y':Int),.func (.func 140) #[] #[]] W fun e w'=>e=.returned (.tuple #[]) ∧ ∃ g',Merged (Aa pk) g g' x' y' ∧ Ab w0 b off n pk g' w'):=IH
 have hcall:=Tryz.callByTick
 have wd1:((m:Int) - (x:Int) == 1)=false:=by simp;omega
 have wd2:((y:Int) - (m:Int) == 1)=false:=by simp;omega
 have wm:((x:Int)+(y:Int)) / 2=(mid:Int):=by omega
 have hxmid:x < mid:=by omega
 have hmidy:mid < y:=by omega
 have hb1:mid+mid ≤ x+y:=by omega
 have hb2:x+y ≤ mid+mid+1:=by omega
 obtain ⟨N,hN⟩:∃ N,mid+m=N:=⟨_,rfl⟩
 have wN:(mid:Int)+(m:Int)=(N:Int):=by omega
 obtain ⟨P,hP⟩:∃ P,N - 1=P:=⟨_,rfl⟩
 have wP:(N:Int) - 1=(P:Int):=by omega
 have HNN:Hid (mid+m=N ∧ N=P+1):=⟨hN,by omega⟩
 have hmz:(mid:Int) < (m:Int):=by omega
 obtain ⟨lo,hlo⟩:∃ lo,N - y=lo:=⟨_,rfl⟩
 have wlo:(N:Int) - (y:Int)=(lo:Int):=by omega
 have hlox:x ≤ lo:=by omega
 have hlom:lo ≤ mid:=by omega
 have HLO:Hid (lo+y=N):=by show _=_;omega
 clear hlo
 clear h hr1 hr2 hl hm1 hN hP IH
 go_enter Tryz.func194,Tryz.ntmps194
 go_wp2_with fail
 go_loopg [20,21,23] y (fun gk sv rv cv wr=>∃ (s t:Nat),sv=.int .i64 (s:Int) ∧ rv=.int .i64 (t:Int) ∧ lo ≤ s ∧ s ≤ t ∧ t ≤ mid ∧ t - s ≤ gk ∧ Hid (s=lo ∨ Aa pk (f (s - 1)) ≤ Aa pk (f (N - s))) ∧ Hid (t=mid ∨ Aa pk (f (P - t)) < Aa pk (f t)) ∧ Hid (Ab w0 b off n pk f wr))
 case atStart=>exact ⟨lo,mid,rfl,rfl,Nat.le_refl _,by omega,Nat.le_refl _,by omega,.inl rfl,.inl rfl,H0⟩
 case round=>
  clear H0
  obtain ⟨s,t,rfl,rfl,hmi,hij,hjy,hgk,HLo,HHi,H⟩:=hrel
  have hPN:=HNN.out
  have hLO:=HLO.out
  by_cases hlt:s < t
  ·
   have hltz:(s:Int) < (t:Int):=by omega
   obtain ⟨q,hq⟩:∃ q,(s+t) / 2=q:=⟨_,rfl⟩
   have wc:((s:Int)+(t:Int)) / 2=(q:Int):=by omega
   have hip:s ≤ q:=by omega
   have hpj:q < t:=by omega
   obtain ⟨p,hp⟩:∃ p,P - q=p:=⟨_,rfl⟩
   have wp:IntKind.i64.wrap ((P:Int) - (q:Int))=(p:Int):=by rw [IntKind.wrap_i64];omega
   have hpn:p < n:=by omega
   have hqn:q < n:=by omega
   have HP:Hid (P - q=p):=hp
   clear hq hp
   have a0:=H.out.row.c0 p hpn
   have a1:=H.out.row.c1 p hpn
   have a2:=H.out.row.c2 p hpn
   have b0:=H.out.row.c0 q hqn
   have b1:=H.out.row.c1 q hqn
   have b2:=H.out.row.c2 q hqn
   have hpz:(p:Int) < (n:Int):=by omega
   have hqz:(q:Int) < (n:Int):=by omega
   have HC:Hid (∀ l:Later wr,Calls Tryz.prog 140 #[.agg #[.int .i64 (pk (f p)).flow,.int .i64 (pk (f p)).size,.int .i64 (pk (f p)).tick],.agg #[.int .i64 (pk (f q)).flow,.int .i64 (pk (f q)).size,.int .i64 (pk (f q)).tick]] l.w fun e w'=>e=.returned (.int .i64 (Dv (pk (f p)).tick (pk (f q)).tick)) ∧ ∃ l':Later wr,w'=l'.w):=Later.calls fun W _=>Fs _ _ W
   obtain ⟨r,hr⟩:∃ r,Dv (pk (f p)).tick (pk (f q)).tick=r:=⟨_,rfl⟩
   have hrl:r < 0 ↔ (pk (f p)).tick < (pk (f q)).tick:=by rw [← hr];exact H6
   have HRL:Hid (r < 0 ↔ (pk (f p)).tick < (pk (f q)).tick):=hrl
   rw [hr] at HC
   generalize (pk (f p)).flow=u0 at a0 HC
   generalize (pk (f p)).size=u1 at a1 HC
   generalize (pk (f p)).tick=u2 at a2 HC
   generalize (pk (f q)).flow=v0 at b0 HC
   generalize (pk (f q)).size=v1 at b1 HC
   generalize (pk (f q)).tick=v2 at b2 HC
   have y0:=fun l:Later wr=>l.cell a0
   have y1:=fun l:Later wr=>l.cell a1
   have y2:=fun l:Later wr=>l.cell a2
   have y3:=fun l:Later wr=>l.cell b0
   have y4:=fun l:Later wr=>l.cell b1
   have y5:=fun l:Later wr=>l.cell b2
   have hne:Nonempty (Later wr):=⟨⟨wr,Below.refl _ _⟩⟩
   clear hr hrl a0 a1 a2 b0 b1 b2
   clear hPN
   by_cases hless:r < 0
   ·
    have HT:Hid (Aa pk (f (P - q)) < Aa pk (f q)):=by show Aa pk (f (P - q)) < Aa pk (f q);rw [HP.out];exact HRL.out.1 hless
    have hd:decide (r < 0)=true:=by simpa using hless
    clear HRL
    go_wp2_with fail
    refine Bn (by kernel_rfl) (by kernel_rfl) ?_
    repeat (go_big_quiet_step (exact HC.out _))
    refine wpQuiet_nil ?_
    rintro _ ⟨gq,rfl⟩
    have H1:Hid (Ab w0 b off n pk (f) gq.w):=H.out.later gq.bel
    generalize gq.w=W1 at H1 ⊢
    clear HC y0 y1 y2 y3 y4 y5 hne gq
    clear hless hd
    go_wp2_with fail
    go_roundg (q - s)
    case measure=>omega
    case rel=>exact ⟨s,q,rfl,by go_num,hmi,hip,by omega,Nat.le_refl _,HLo,.inr HT.out,H1⟩
   ·
    have HT:Hid (Aa pk (f (q+1 - 1)) ≤ Aa pk (f (N - (q+1)))):=by show Aa pk (f (q+1 - 1)) ≤ Aa pk (f (N - (q+1)));have h1:¬ (pk (f p)).tick < (pk (f q)).tick:=fun h=>hless (HRL.out.2 h);have h2:=HP.out;have h3:=HNN.out;rw [show N - (q+1)=p by omega,Nat.add_sub_cancel];unfold Aa;omega
    have hd:decide (r < 0)=false:=by simpa using hless
    clear HRL
    go_wp2_with fail
    refine Bn (by kernel_rfl) (by kernel_rfl) ?_
    repeat (go_big_quiet_step (exact HC.out _))
    refine wpQuiet_nil ?_
    rintro _ ⟨gq,rfl⟩
    have H1:Hid (Ab w0 b off n pk (f) gq.w):=H.out.later gq.bel
    generalize gq.w=W1 at H1 ⊢
    clear HC y0 y1 y2 y3 y4 y5 hne gq
    clear hless hd
    go_wp2_with fail
    go_roundg (t - (q+1))
    case measure=>omega
    case rel=>exact ⟨q+1,t,by go_num,rfl,by omega,by omega,hjy,Nat.le_refl _,.inr HT.out,HHi,H1⟩
  ·
   have hltz:¬ (s:Int) < (t:Int):=by omega
   obtain rfl:s=t:=by omega
   obtain ⟨e,he⟩:∃ e,N - s=e:=⟨_,rfl⟩
   have we:(N:Int) - (s:Int)=(e:Int):=by omega
   have hal:KZ (Aa pk) f x m y mid s e:=by
    have h1:=HLo.out
    have h2:=HHi.out
    rw [he] at h1
    refine ⟨by omega,by omega,by omega,by omega,by omega,fun h3 h4=>?_,fun h3 h4=>?_⟩
    ·
     rcases h2 with h2 | h2
     · omega
     · rwa [show P - s=e - 1 by omega] at h2
    ·
     rcases h1 with h1 | h1
     · omega
     · exact h1
   obtain ⟨⟨ra,rb,rc,rd⟩,la,lb,cross⟩:=hal.parts HR1.out HR2.out HL.out
   have hsm:=hal.sm
   have hme:=hal.me
   have hxs:=hal.sa
   have hey:=hal.eb
   obtain ⟨-,-,hsmid,hmide⟩:=hal.mid_in
   obtain ⟨k,hk⟩:∃ k,rot f s m e=k:=⟨_,rfl⟩
   rw [hk] at ra rb rc rd la lb cross
   have HRo:Hid (s < m → m < e → Calls Tryz.prog 220 #[.slice (some ⟨b,off,none⟩) n cap,.int .i64 (s:Int),.int .i64 (m:Int),.int .i64 (e:Int),.func (.func 140) #[] #[]] wr fun e w'=>e=.returned (.tuple #[]) ∧ Ab w0 b off n pk k w'):=fun h1 h2=>by rw [← hk];exact Px w0 b off n cap pk _ f s m e wr H.out h1 h2 (by omega) hn
   have HNo:Hid (¬ (s < m ∧ m < e) → Ab w0 b off n pk k wr):=fun h1=>by
    rw [← hk]
    rcases Nat.lt_or_ge s m with h2 | h2
    ·
     obtain rfl:m=e:=by omega
     rw [NZ];exact H.out
    ·
     obtain rfl:s=m:=by omega
     rw [Mm];exact H.out
   have HA:Hid (∀ W,Ab w0 b off n pk k W → x < s → s < mid → Calls Tryz.prog 194 #[.slice (some ⟨b,off,none⟩) n cap,.int .i64 (x:Int),.int .i64 (s:Int),.int .i64 (mid:Int),.func (.func 140) #[] #[]] W fun e w'=>e=.returned (.tuple #[]) ∧ ∃ g',Merged (Aa pk) k g' x mid ∧ Ab w0 b off n pk g' w'):=fun W hW h1 h2=>HI.out k x s mid W (by omega) hW h1 h2 (by omega) ra rb la
   have HAN:Hid (¬ (x < s ∧ s < mid) → Merged (Aa pk) k k x mid):=fun h1=>by
    refine ⟨EL.refl _ _ _,?_⟩
    rcases Nat.lt_or_ge x s with h2 | h2
    ·
     obtain rfl:s=mid:=by omega
     exact ra
    ·
     obtain rfl:s=x:=by omega
     exact rb
   have HB:Hid (∀ g1 W,Merged (Aa pk) k g1 x mid → Ab w0 b off n pk g1 W → mid < e → e < y → Calls Tryz.prog 194 #[.slice (some ⟨b,off,none⟩) n cap,.int .i64 (mid:Int),.int .i64 (e:Int),.int .i64 (y:Int),.func (.func 140) #[] #[]] W fun e w'=>e=.returned (.tuple #[]) ∧ ∃ g',Merged (Aa pk) g1 g' mid y ∧ Ab w0 b off n pk g' w'):=fun g1 W hM hW h1 h2=>by
    have ek:∀ z,mid ≤ z → g1 z=k z:=fun z hz=>hM.1.out z (.inr hz)
    refine HI.out g1 mid e y W (by omega) hW h1 h2 hy (fun i j h3 h4 h5=>?_) (fun i j h3 h4 h5=>?_) (fun i j h3 h4 h5 h6=>?_)
    · rw [ek i h3,ek j (by omega)];exact rc i j h3 h4 h5
    · rw [ek i (by omega),ek j (by omega)];exact rd i j h3 h4 h5
    · rw [ek i h3,ek j (by omega)];exact lb i j h3 h4 h5 h6
   have HBN:Hid (∀ g1,Merged (Aa pk) k g1 x mid → ¬ (mid < e ∧ e < y) → Merged (Aa pk) g1 g1 mid y):=fun g1 hM h1=>by
    have ek:∀ z,mid ≤ z → g1 z=k z:=fun z hz=>hM.1.out z (.inr hz)
    refine ⟨EL.refl _ _ _,fun i j h3 h4 h5=>?_⟩
    rw [ek i h3,ek j (by omega)]
    rcases Nat.lt_or_ge mid e with h2 | h2
    ·
     obtain rfl:e=y:=by omega
     exact rc i j h3 h4 h5
    ·
     obtain rfl:e=mid:=by omega
     exact rd i j h3 h4 h5
   have HEnd:Hid (∀ g1 g2,Merged (Aa pk) k g1 x mid → Merged (Aa pk) g1 g2 mid y → Merged (Aa pk) f g2 x y):=fun g1 g2 h1 h2=>by
    have h3:=MV (by omega) (by omega) h1 h2 cross
    refine ⟨EL.trans ?_ h3.1,h3.2⟩
    rw [← hk]
    exact (Jh f hsm hme).wide hxs hey
   clear hal ra rb rc rd la lb cross hk HI HR1 HR2 HL HLo HHi H he hPN hij hlt hLO hmi hjy
   by_cases hd1:s < m
   ·
    have z1:(s:Int) < (m:Int):=by omega
    by_cases hd2:m < e
    ·
     have z2:(m:Int) < (e:Int):=by omega
     have HCr:=HRo.out hd1 hd2
     have HCr':Hid (Calls Tryz.prog 220 #[.slice (some ⟨b,off,none⟩) n cap,.int .i64 (s:Int),.int .i64 (m:Int),.int .i64 (e:Int),.func (.func 140) #[] #[]] wr fun e w'=>e=.returned (.tuple #[]) ∧ Ab w0 b off n pk k w'):=HCr
     clear HCr HRo HNo
     go_wp2_with fail
     refine HCr'.out.mono ?_
     rintro _ W1 ⟨rfl,h1⟩
     have H1:Hid (Ab w0 b off n pk k W1):=h1
     clear h1 HCr' z1 z2 hltz
     by_cases hc1:x < s
     ·
      have z3:(x:Int) < (s:Int):=by omega
      by_cases hc2:s < mid
      ·
       have z4:(s:Int) < (mid:Int):=by omega
       have HCa:=HA.out W1 H1.out hc1 hc2
       have HCa':Hid (Calls Tryz.prog 194 #[.slice (some ⟨b,off,none⟩) n cap,.int .i64 (x:Int),.int .i64 (s:Int),.int .i64 (mid:Int),.func (.func 140) #[] #[]] W1 fun e w'=>e=.returned (.tuple #[]) ∧ ∃ g',Merged (Aa pk) k g' x mid ∧ Ab w0 b off n pk g' w'):=HCa
       clear HCa H1
       go_wp2_with fail
       refine HCa'.out.mono ?_
       rintro _ W2 ⟨rfl,g1,hM1,h2⟩
       have HM1:Hid (Merged (Aa pk) k g1 x mid):=hM1
       have H2:Hid (Ab w0 b off n pk g1 W2):=h2
       clear hM1 h2 HCa' z3 z4
       by_cases hc3:mid < e
       ·
        have z5:(mid:Int) < (e:Int):=by omega
        by_cases hc4:e < y
        ·
         have z6:(e:Int) < (y:Int):=by omega
         have HCb:=HB.out _ _ HM1.out H2.out hc3 hc4
         have HCb':Hid (Calls Tryz.prog 194 #[.slice (some ⟨b,off,none⟩) n cap,.int .i64 (mid:Int),.int .i64 (e:Int),.int .i64 (y:Int),.func (.func 140) #[] #[]] W2 fun e w'=>e=.returned (.tuple #[]) ∧ ∃ g',Merged (Aa pk) g1 g' mid y ∧ Ab w0 b off n pk g' w'):=HCb
         clear HCb
         go_wp2_with fail
         refine HCb'.out.mono ?_
         rintro _ w3 ⟨rfl,g2,hM2,h3⟩
         have HE:Hid (Merged (Aa pk) f g2 x y ∧ Ab w0 b off n pk g2 w3):=⟨HEnd.out _ _ HM1.out hM2,h3⟩
         clear hM2 h3 HCb'
         go_wp2_with fail
         go_end0
         exact ⟨rfl,g2,HE.out⟩
        ·
         have z6:¬ (e:Int) < (y:Int):=by omega
         have HE:Hid (Merged (Aa pk) f g1 x y):=HEnd.out _ _ HM1.out (HBN.out _ HM1.out (fun h=>hc4 h.2))
         go_wp2_with fail
         go_end0
         exact ⟨rfl,g1,HE.out,H2.out⟩
       ·
        have z5:¬ (mid:Int) < (e:Int):=by omega
        have HE:Hid (Merged (Aa pk) f g1 x y):=HEnd.out _ _ HM1.out (HBN.out _ HM1.out (fun h=>hc3 h.1))
        go_wp2_with fail
        go_end0
        exact ⟨rfl,g1,HE.out,H2.out⟩
      ·
       have z4:¬ (s:Int) < (mid:Int):=by omega
       have HM1:Hid (Merged (Aa pk) k k x mid):=HAN.out (fun h=>hc2 h.2)
       obtain ⟨W2,hW2⟩:∃ W,W=W1:=⟨_,rfl⟩
       subst hW2
       have H2:=H1
       clear H1
       by_cases hc3:mid < e
       ·
        have z5:(mid:Int) < (e:Int):=by omega
        by_cases hc4:e < y
        ·
         have z6:(e:Int) < (y:Int):=by omega
         have HCb:=HB.out _ _ HM1.out H2.out hc3 hc4
         have HCb':Hid (Calls Tryz.prog 194 #[.slice (some ⟨b,off,none⟩) n cap,.int .i64 (mid:Int),.int .i64 (e:Int),.int .i64 (y:Int),.func (.func 140) #[] #[]] W2 fun e w'=>e=.returned (.tuple #[]) ∧ ∃ g',Merged (Aa pk) k g' mid y ∧ Ab w0 b off n pk g' w'):=HCb
         clear HCb
         go_wp2_with fail
         refine HCb'.out.mono ?_
         rintro _ w3 ⟨rfl,g2,hM2,h3⟩
         have HE:Hid (Merged (Aa pk) f g2 x y ∧ Ab w0 b off n pk g2 w3):=⟨HEnd.out _ _ HM1.out hM2,h3⟩
         clear hM2 h3 HCb'
         go_wp2_with fail
         go_end0
         exact ⟨rfl,g2,HE.out⟩
        ·
         have z6:¬ (e:Int) < (y:Int):=by omega
         have HE:Hid (Merged (Aa pk) f k x y):=HEnd.out _ _ HM1.out (HBN.out _ HM1.out (fun h=>hc4 h.2))
         go_wp2_with fail
         go_end0
         exact ⟨rfl,k,HE.out,H2.out⟩
       ·
        have z5:¬ (mid:Int) < (e:Int):=by omega
        have HE:Hid (Merged (Aa pk) f k x y):=HEnd.out _ _ HM1.out (HBN.out _ HM1.out (fun h=>hc3 h.1))
        go_wp2_with fail
        go_end0
        exact ⟨rfl,k,HE.out,H2.out⟩
     ·
      have z3:¬ (x:Int) < (s:Int):=by omega
      have HM1:Hid (Merged (Aa pk) k k x mid):=HAN.out (fun h=>hc1 h.1)
      obtain ⟨W2,hW2⟩:∃ W,W=W1:=⟨_,rfl⟩
      subst hW2
      have H2:=H1
      clear H1
      by_cases hc3:mid < e
      ·
       have z5:(mid:Int) < (e:Int):=by omega
       by_cases hc4:e < y
       ·
        have z6:(e:Int) < (y:Int):=by omega
        have HCb:=HB.out _ _ HM1.out H2.out hc3 hc4
        have HCb':Hid (Calls Tryz.prog 194 #[.slice (some ⟨b,off,none⟩) n cap,.int .i64 (mid:Int),.int .i64 (e:Int),.int .i64 (y:Int),.func (.func 140) #[] #[]] W2 fun e w'=>e=.returned (.tuple #[]) ∧ ∃ g',Merged (Aa pk) k g' mid y ∧ Ab w0 b off n pk g' w'):=HCb
        clear HCb
        go_wp2_with fail
        refine HCb'.out.mono ?_
        rintro _ w3 ⟨rfl,g2,hM2,h3⟩
        have HE:Hid (Merged (Aa pk) f g2 x y ∧ Ab w0 b off n pk g2 w3):=⟨HEnd.out _ _ HM1.out hM2,h3⟩
        clear hM2 h3 HCb'
        go_wp2_with fail
        go_end0
        exact ⟨rfl,g2,HE.out⟩
       ·
        have z6:¬ (e:Int) < (y:Int):=by omega
        have HE:Hid (Merged (Aa pk) f k x y):=HEnd.out _ _ HM1.out (HBN.out _ HM1.out (fun h=>hc4 h.2))
        go_wp2_with fail
        go_end0
        exact ⟨rfl,k,HE.out,H2.out⟩
      ·
       have z5:¬ (mid:Int) < (e:Int):=by omega
       have HE:Hid (Merged (Aa pk) f k x y):=HEnd.out _ _ HM1.out (HBN.out _ HM1.out (fun h=>hc3 h.1))
       go_wp2_with fail
       go_end0
       exact ⟨rfl,k,HE.out,H2.out⟩
    ·
     have z2:¬ (m:Int) < (e:Int):=by omega
     obtain ⟨W1,hW1⟩:∃ W,W=wr:=⟨_,rfl⟩
     subst hW1
     have H1:Hid (Ab w0 b off n pk k W1):=HNo.out (fun h=>hd2 h.2)
     clear HRo HNo
     by_cases hc1:x < s
     ·
      have z3:(x:Int) < (s:Int):=by omega
      by_cases hc2:s < mid
      ·
       have z4:(s:Int) < (mid:Int):=by omega
       have HCa:=HA.out W1 H1.out hc1 hc2
       have HCa':Hid (Calls Tryz.prog 194 #[.slice (some ⟨b,off,none⟩) n cap,.int .i64 (x:Int),.int .i64 (s:Int),.int .i64 (mid:Int),.func (.func 140) #[] #[]] W1 fun e w'=>e=.returned (.tuple #[]) ∧ ∃ g',Merged (Aa pk) k g' x mid ∧ Ab w0 b off n pk g' w'):=HCa
       clear HCa H1
       go_wp2_with fail
       refine HCa'.out.mono ?_
       rintro _ W2 ⟨rfl,g1,hM1,h2⟩
       have HM1:Hid (Merged (Aa pk) k g1 x mid):=hM1
       have H2:Hid (Ab w0 b off n pk g1 W2):=h2
       clear hM1 h2 HCa' z3 z4
       by_cases hc3:mid < e
       ·
        have z5:(mid:Int) < (e:Int):=by omega
        by_cases hc4:e < y
        ·
         have z6:(e:Int) < (y:Int):=by omega
         have HCb:=HB.out _ _ HM1.out H2.out hc3 hc4
         have HCb':Hid (Calls Tryz.prog 194 #[.slice (some ⟨b,off,none⟩) n cap,.int .i64 (mid:Int),.int .i64 (e:Int),.int .i64 (y:Int),.func (.func 140) #[] #[]] W2 fun e w'=>e=.returned (.tuple #[]) ∧ ∃ g',Merged (Aa pk) g1 g' mid y ∧ Ab w0 b off n pk g' w'):=HCb
         clear HCb
         go_wp2_with fail
         refine HCb'.out.mono ?_
         rintro _ w3 ⟨rfl,g2,hM2,h3⟩
         have HE:Hid (Merged (Aa pk) f g2 x y ∧ Ab w0 b off n pk g2 w3):=⟨HEnd.out _ _ HM1.out hM2,h3⟩
         clear hM2 h3 HCb'
         go_wp2_with fail
         go_end0
         exact ⟨rfl,g2,HE.out⟩
        ·
         have z6:¬ (e:Int) < (y:Int):=by omega
         have HE:Hid (Merged (Aa pk) f g1 x y):=HEnd.out _ _ HM1.out (HBN.out _ HM1.out (fun h=>hc4 h.2))
         go_wp2_with fail
         go_end0
         exact ⟨rfl,g1,HE.out,H2.out⟩
       ·
        have z5:¬ (mid:Int) < (e:Int):=by omega
        have HE:Hid (Merged (Aa pk) f g1 x y):=HEnd.out _ _ HM1.out (HBN.out _ HM1.out (fun h=>hc3 h.1))
        go_wp2_with fail
        go_end0
        exact ⟨rfl,g1,HE.out,H2.out⟩
      ·
       have z4:¬ (s:Int) < (mid:Int):=by omega
       have HM1:Hid (Merged (Aa pk) k k x mid):=HAN.out (fun h=>hc2 h.2)
       obtain ⟨W2,hW2⟩:∃ W,W=W1:=⟨_,rfl⟩
       subst hW2
       have H2:=H1
       clear H1
       by_cases hc3:mid < e
       ·
        have z5:(mid:Int) < (e:Int):=by omega
        by_cases hc4:e < y
        ·
         have z6:(e:Int) < (y:Int):=by omega
         have HCb:=HB.out _ _ HM1.out H2.out hc3 hc4
         have HCb':Hid (Calls Tryz.prog 194 #[.slice (some ⟨b,off,none⟩) n cap,.int .i64 (mid:Int),.int .i64 (e:Int),.int .i64 (y:Int),.func (.func 140) #[] #[]] W2 fun e w'=>e=.returned (.tuple #[]) ∧ ∃ g',Merged (Aa pk) k g' mid y ∧ Ab w0 b off n pk g' w'):=HCb
         clear HCb
         go_wp2_with fail
         refine HCb'.out.mono ?_
         rintro _ w3 ⟨rfl,g2,hM2,h3⟩
         have HE:Hid (Merged (Aa pk) f g2 x y ∧ Ab w0 b off n pk g2 w3):=⟨HEnd.out _ _ HM1.out hM2,h3⟩
         clear hM2 h3 HCb'
         go_wp2_with fail
         go_end0
         exact ⟨rfl,g2,HE.out⟩
        ·
         have z6:¬ (e:Int) < (y:Int):=by omega
         have HE:Hid (Merged (Aa pk) f k x y):=HEnd.out _ _ HM1.out (HBN.out _ HM1.out (fun h=>hc4 h.2))
         go_wp2_with fail
         go_end0
         exact ⟨rfl,k,HE.out,H2.out⟩
       ·
        have z5:¬ (mid:Int) < (e:Int):=by omega
        have HE:Hid (Merged (Aa pk) f k x y):=HEnd.out _ _ HM1.out (HBN.out _ HM1.out (fun h=>hc3 h.1))
        go_wp2_with fail
        go_end0
        exact ⟨rfl,k,HE.out,H2.out⟩
     ·
      have z3:¬ (x:Int) < (s:Int):=by omega
      have HM1:Hid (Merged (Aa pk) k k x mid):=HAN.out (fun h=>hc1 h.1)
      obtain ⟨W2,hW2⟩:∃ W,W=W1:=⟨_,rfl⟩
      subst hW2
      have H2:=H1
      clear H1
      by_cases hc3:mid < e
      ·
       have z5:(mid:Int) < (e:Int):=by omega
       by_cases hc4:e < y
       ·
        have z6:(e:Int) < (y:Int):=by omega
        have HCb:=HB.out _ _ HM1.out H2.out hc3 hc4
        have HCb':Hid (Calls Tryz.prog 194 #[.slice (some ⟨b,off,none⟩) n cap,.int .i64 (mid:Int),.int .i64 (e:Int),.int .i64 (y:Int),.func (.func 140) #[] #[]] W2 fun e w'=>e=.returned (.tuple #[]) ∧ ∃ g',Merged (Aa pk) k g' mid y ∧ Ab w0 b off n pk g' w'):=HCb
        clear HCb
        go_wp2_with fail
        refine HCb'.out.mono ?_
        rintro _ w3 ⟨rfl,g2,hM2,h3⟩
        have HE:Hid (Merged (Aa pk) f g2 x y ∧ Ab w0 b off n pk g2 w3):=⟨HEnd.out _ _ HM1.out hM2,h3⟩
        clear hM2 h3 HCb'
        go_wp2_with fail
        go_end0
        exact ⟨rfl,g2,HE.out⟩
       ·
        have z6:¬ (e:Int) < (y:Int):=by omega
        have HE:Hid (Merged (Aa pk) f k x y):=HEnd.out _ _ HM1.out (HBN.out _ HM1.out (fun h=>hc4 h.2))
        go_wp2_with fail
        go_end0
        exact ⟨rfl,k,HE.out,H2.out⟩
      ·
       have z5:¬ (mid:Int) < (e:Int):=by omega
       have HE:Hid (Merged (Aa pk) f k x y):=HEnd.out _ _ HM1.out (HBN.out _ HM1.out (fun h=>hc3 h.1))
       go_wp2_with fail
       go_end0
       exact ⟨rfl,k,HE.out,H2.out⟩
   ·
    have z1:¬ (s:Int) < (m:Int):=by omega
    obtain ⟨W1,hW1⟩:∃ W,W=wr:=⟨_,rfl⟩
    subst hW1
    have H1:Hid (Ab w0 b off n pk k W1):=HNo.out (fun h=>hd1 h.1)
    clear HRo HNo
    by_cases hc1:x < s
    ·
     have z3:(x:Int) < (s:Int):=by omega
     by_cases hc2:s < mid
     ·
      have z4:(s:Int) < (mid:Int):=by omega
      have HCa:=HA.out W1 H1.out hc1 hc2
      have HCa':Hid (Calls Tryz.prog 194 #[.slice (some ⟨b,off,none⟩) n cap,.int .i64 (x:Int),.int .i64 (s:Int),.int .i64 (mid:Int),.func (.func 140) #[] #[]] W1 fun e w'=>e=.returned (.tuple #[]) ∧ ∃ g',Merged (Aa pk) k g' x mid ∧ Ab w0 b off n pk g' w'):=HCa
      clear HCa H1
      go_wp2_with fail
      refine HCa'.out.mono ?_
      rintro _ W2 ⟨rfl,g1,hM1,h2⟩
      have HM1:Hid (Merged (Aa pk) k g1 x mid):=hM1
      have H2:Hid (Ab w0 b off n pk g1 W2):=h2
      clear hM1 h2 HCa' z3 z4
      by_cases hc3:mid < e
      ·
       have z5:(mid:Int) < (e:Int):=by omega
       by_cases hc4:e < y
       ·
        have z6:(e:Int) < (y:Int):=by omega
        have HCb:=HB.out _ _ HM1.out H2.out hc3 hc4
        have HCb':Hid (Calls Tryz.prog 194 #[.slice (some ⟨b,off,none⟩) n cap,.int .i64 (mid:Int),.int .i64 (e:Int),.int .i64 (y:Int),.func (.func 140) #[] #[]] W2 fun e w'=>e=.returned (.tuple #[]) ∧ ∃ g',Merged (Aa pk) g1 g' mid y ∧ Ab w0 b off n pk g' w'):=HCb
        clear HCb
        go_wp2_with fail
        refine HCb'.out.mono ?_
        rintro _ w3 ⟨rfl,g2,hM2,h3⟩
        have HE:Hid (Merged (Aa pk) f g2 x y ∧ Ab w0 b off n pk g2 w3):=⟨HEnd.out _ _ HM1.out hM2,h3⟩
        clear hM2 h3 HCb'
        go_wp2_with fail
        go_end0
        exact ⟨rfl,g2,HE.out⟩
       ·
        have z6:¬ (e:Int) < (y:Int):=by omega
        have HE:Hid (Merged (Aa pk) f g1 x y):=HEnd.out _ _ HM1.out (HBN.out _ HM1.out (fun h=>hc4 h.2))
        go_wp2_with fail
        go_end0
        exact ⟨rfl,g1,HE.out,H2.out⟩
      ·
       have z5:¬ (mid:Int) < (e:Int):=by omega
       have HE:Hid (Merged (Aa pk) f g1 x y):=HEnd.out _ _ HM1.out (HBN.out _ HM1.out (fun h=>hc3 h.1))
       go_wp2_with fail
       go_end0
       exact ⟨rfl,g1,HE.out,H2.out⟩
     ·
      have z4:¬ (s:Int) < (mid:Int):=by omega
      have HM1:Hid (Merged (Aa pk) k k x mid):=HAN.out (fun h=>hc2 h.2)
      obtain ⟨W2,hW2⟩:∃ W,W=W1:=⟨_,rfl⟩
      subst hW2
      have H2:=H1
      clear H1
      by_cases hc3:mid < e
      ·
       have z5:(mid:Int) < (e:Int):=by omega
       by_cases hc4:e < y
       ·
        have z6:(e:Int) < (y:Int):=by omega
        have HCb:=HB.out _ _ HM1.out H2.out hc3 hc4
        have HCb':Hid (Calls Tryz.prog 194 #[.slice (some ⟨b,off,none⟩) n cap,.int .i64 (mid:Int),.int .i64 (e:Int),.int .i64 (y:Int),.func (.func 140) #[] #[]] W2 fun e w'=>e=.returned (.tuple #[]) ∧ ∃ g',Merged (Aa pk) k g' mid y ∧ Ab w0 b off n pk g' w'):=HCb
        clear HCb
        go_wp2_with fail
        refine HCb'.out.mono ?_
        rintro _ w3 ⟨rfl,g2,hM2,h3⟩
        have HE:Hid (Merged (Aa pk) f g2 x y ∧ Ab w0 b off n pk g2 w3):=⟨HEnd.out _ _ HM1.out hM2,h3⟩
        clear hM2 h3 HCb'
        go_wp2_with fail
        go_end0
        exact ⟨rfl,g2,HE.out⟩
       ·
        have z6:¬ (e:Int) < (y:Int):=by omega
        have HE:Hid (Merged (Aa pk) f k x y):=HEnd.out _ _ HM1.out (HBN.out _ HM1.out (fun h=>hc4 h.2))
        go_wp2_with fail
        go_end0
        exact ⟨rfl,k,HE.out,H2.out⟩
      ·
       have z5:¬ (mid:Int) < (e:Int):=by omega
       have HE:Hid (Merged (Aa pk) f k x y):=HEnd.out _ _ HM1.out (HBN.out _ HM1.out (fun h=>hc3 h.1))
       go_wp2_with fail
       go_end0
       exact ⟨rfl,k,HE.out,H2.out⟩
    ·
     have z3:¬ (x:Int) < (s:Int):=by omega
     have HM1:Hid (Merged (Aa pk) k k x mid):=HAN.out (fun h=>hc1 h.1)
     obtain ⟨W2,hW2⟩:∃ W,W=W1:=⟨_,rfl⟩
     subst hW2
     have H2:=H1
     clear H1
     by_cases hc3:mid < e
     ·
      have z5:(mid:Int) < (e:Int):=by omega
      by_cases hc4:e < y
      ·
       have z6:(e:Int) < (y:Int):=by omega
       have HCb:=HB.out _ _ HM1.out H2.out hc3 hc4
       have HCb':Hid (Calls Tryz.prog 194 #[.slice (some ⟨b,off,none⟩) n cap,.int .i64 (mid:Int),.int .i64 (e:Int),.int .i64 (y:Int),.func (.func 140) #[] #[]] W2 fun e w'=>e=.returned (.tuple #[]) ∧ ∃ g',Merged (Aa pk) k g' mid y ∧ Ab w0 b off n pk g' w'):=HCb
       clear HCb
       go_wp2_with fail
       refine HCb'.out.mono ?_
       rintro _ w3 ⟨rfl,g2,hM2,h3⟩
       have HE:Hid (Merged (Aa pk) f g2 x y ∧ Ab w0 b off n pk g2 w3):=⟨HEnd.out _ _ HM1.out hM2,h3⟩
       clear hM2 h3 HCb'
       go_wp2_with fail
       go_end0
       exact ⟨rfl,g2,HE.out⟩
      ·
       have z6:¬ (e:Int) < (y:Int):=by omega
       have HE:Hid (Merged (Aa pk) f k x y):=HEnd.out _ _ HM1.out (HBN.out _ HM1.out (fun h=>hc4 h.2))
       go_wp2_with fail
       go_end0
       exact ⟨rfl,k,HE.out,H2.out⟩
     ·
      have z5:¬ (mid:Int) < (e:Int):=by omega
      have HE:Hid (Merged (Aa pk) f k x y):=HEnd.out _ _ HM1.out (HBN.out _ HM1.out (fun h=>hc3 h.1))
      go_wp2_with fail
      go_end0
      exact ⟨rfl,k,HE.out,H2.out⟩
theorem Lu (w0:World) (b off n cap:Nat) (pk:Nat → Pk) (hn:n ≤ 1000):∀ (d:Nat) (f:Nat → Nat) (x m y:Nat) (w:World),y - x ≤ d → Ab w0 b off n pk f w → x < m → m < y → y ≤ n → BG (Aa pk) f x m → BG (Aa pk) f m y → Lower f x m y →
  Calls Tryz.prog 194 #[.slice (some ⟨b,off,none⟩) n cap,.int .i64 (x:Int),.int .i64 (m:Int),.int .i64 (y:Int),.func (.func 140) #[] #[]] w fun e w'=>e=.returned (.tuple #[]) ∧ ∃ g,Merged (Aa pk) f g x y ∧ Ab w0 b off n pk g w'
 | 0,f,x,m,y,w,hd,h,h1,h2,h3,r1,r2,l=>by omega
 | d+1,f,x,m,y,w,hd,h,h1,h2,h3,r1,r2,l=>by
  by_cases hf:m=x+1
  · exact Tg w0 b off n cap pk f x m y w h hf h2 h3 hn r1 r2 l
  ·
   by_cases hl:y=m+1
   · exact Uu w0 b off n cap pk f x m y w h (by omega) hl h3 hn r1 r2 l
   ·
    have IH:∀ (g:Nat → Nat) (x' m' y':Nat) (W:World),y' - x' < y - x → Ab w0 b off n pk g W → x' < m' → m' < y' → y' ≤ n → BG (Aa pk) g x' m' → BG (Aa pk) g m' y' → Lower g x' m' y' → Calls Tryz.prog 194 #[.slice (some ⟨b,off,none⟩) n cap,.int .i64 (x':Int),.int .i64 (m':Int),.int .i64 (y':Int),.func (.func 140) #[] #[]] W fun e w'=>e=.returned (.tuple #[]) ∧ ∃ g',Merged (Aa pk) g g' x' y' ∧ Ab w0 b off n pk g' w':=fun g x' m' y' W k1 k2 k3 k4 k5 k6 k7 k8=>Lu w0 b off n cap pk hn d g x' m' y' W (by omega) k2 k3 k4 k5 k6 k7 k8
    by_cases hm:m ≤ (x+y) / 2
    · exact Vb w0 b off n cap pk f x m y w h (by omega) (by omega) _ rfl hm IH h3 hn r1 r2 l
    · exact U7 w0 b off n cap pk f x m y w h (by omega) (by omega) _ rfl (by omega) IH h3 hn r1 r2 l
theorem WI (w0:World) (b off n cap:Nat) (pk:Nat → Pk) (w:World) (h:Ab w0 b off n pk (fun i=>i) w) (hn:n ≤ 1000) :
  Calls Tryz.prog 165 #[.slice (some ⟨b,off,none⟩) n cap,.int .i64 (n:Int),.func (.func 140) #[] #[]] w fun e w'=>e=.returned (.tuple #[]) ∧ ∃ g,Bg (Aa pk) n ((List.range n).map g) ∧ Ab w0 b off n pk g w':=by
 have HIns:Hid (∀ (f:Nat → Nat) (x y:Nat) (W:World),Ab w0 b off n pk f W → x ≤ y → y ≤ n → (∀ i,x ≤ i → f i=i) → Calls Tryz.prog 193 #[.slice (some ⟨b,off,none⟩) n cap,.int .i64 (x:Int),.int .i64 (y:Int),.func (.func 140) #[] #[]] W fun e w'=>e=.returned (.tuple #[]) ∧ ∃ g,Merged (Aa pk) f g x y ∧ Ab w0 b off n pk g w'):=fun f x y W h1 h2 h3 h4=>QF w0 b off n cap pk f x y W h1 h2 h3 hn (fun i j k1 k2 k3=>by rw [h4 i k1,h4 j (by omega)];exact k2)
 have HSym:Hid (∀ (f:Nat → Nat) (x m y:Nat) (W:World),Ab w0 b off n pk f W → x < m → m < y → y ≤ n → BM (Aa pk) f x m → BM (Aa pk) f m y → Calls Tryz.prog 194 #[.slice (some ⟨b,off,none⟩) n cap,.int .i64 (x:Int),.int .i64 (m:Int),.int .i64 (y:Int),.func (.func 140) #[] #[]] W fun e w'=>e=.returned (.tuple #[]) ∧ ∃ g,Merged (Aa pk) f g x y ∧ BM (Aa pk) g x y ∧ Ab w0 b off n pk g w'):=fun f x m y W h1 h2 h3 h4 h5 h6=>(Lu w0 b off n cap pk hn (y - x) f x m y W (Nat.le_refl _) h1 h2 h3 h4 h5.rises h6.rises (h5.lower h6)).mono fun _ _ ⟨e1,g,e2,e3⟩=>⟨e1,g,e2,h5.merged (by omega) (by omega) h6 e2,e3⟩
 have H0:Hid (Ab w0 b off n pk (fun i=>i) w):=h
 clear h
 go_enter Tryz.func165,Tryz.ntmps165
 go_wp2_with fail
 go_loopg [7,8] n (fun gk av bv wr=>∃ (x:Nat) (g:Nat → Nat),av=.int .i64 (x:Int) ∧ bv=.int .i64 ((x+20:Nat):Int) ∧ x ≤ n ∧ n - x ≤ gk ∧ Hid (∀ i,x ≤ i → g i=i) ∧ Hid (Eb (Aa pk) g 20 n x) ∧ Hid (Ab w0 b off n pk g wr))
 case atStart=>exact ⟨0,fun i=>i,rfl,rfl,Nat.zero_le _,Nat.le_refl _,fun i _=>rfl,Eb.start _ _ _,H0⟩
 case round=>
  clear H0
  obtain ⟨x,g,rfl,rfl,hxn,hgk,HId,HRo,H⟩:=hrel
  obtain ⟨y,hy⟩:∃ y,x+20=y:=⟨_,rfl⟩
  have HY:Hid (x+20=y):=hy
  rw [hy]
  by_cases hle:y ≤ n
  ·
   have hlez:(y:Int) ≤ (n:Int):=by omega
   have HC:=HIns.out g x y wr H.out (by omega) hle HId.out
   have HC':Hid (Calls Tryz.prog 193 #[.slice (some ⟨b,off,none⟩) n cap,.int .i64 (x:Int),.int .i64 (y:Int),.func (.func 140) #[] #[]] wr fun e w'=>e=.returned (.tuple #[]) ∧ ∃ g',Merged (Aa pk) g g' x y ∧ Ab w0 b off n pk g' w'):=HC
   obtain ⟨z,hz⟩:∃ z,y+20=z:=⟨_,rfl⟩
   have wy:(y:Int)+20=(z:Int):=by omega
   have HZ:Hid (y+20=z):=hz
   clear hz
   clear HC H hy
   go_wp2_with fail
   refine HC'.out.mono ?_
   rintro _ w1 ⟨rfl,g',hM,h1⟩
   have H1:Hid (Ab w0 b off n pk g' w1):=h1
   have HId':Hid (∀ i,y ≤ i → g' i=i):=fun i hi=>by rw [hM.1.out i (.inr hi)];exact HId.out i (by have:=HY.out;omega)
   have HRo':Hid (Eb (Aa pk) g' 20 n y):=by
    have e:=HY.out
    show Eb _ _ _ _ _
    rw [← e]
    refine HRo.out.on (fun i hi=>hM.1.out i (.inl hi)) ?_
    rw [show min (x+20) n=y by omega]
    exact BM.start (fun i h2 _=>HId.out i h2) hM
   clear h1 hM HC'
   go_wp2_with fail
   go_roundg (n - y)
   case measure=>have:=HY.out;omega
   case rel=>exact ⟨y,g',rfl,by rw [HZ.out],hle,Nat.le_refl _,HId',HRo',H1⟩
  ·
   have hlez:¬ (y:Int) ≤ (n:Int):=by omega
   have HC:=HIns.out g x n wr H.out hxn (Nat.le_refl _) HId.out
   have HC':Hid (Calls Tryz.prog 193 #[.slice (some ⟨b,off,none⟩) n cap,.int .i64 (x:Int),.int .i64 (n:Int),.func (.func 140) #[] #[]] wr fun e w'=>e=.returned (.tuple #[]) ∧ ∃ g',Merged (Aa pk) g g' x n ∧ Ab w0 b off n pk g' w'):=HC
   clear HC H hy
   go_wp2_with fail
   refine HC'.out.mono ?_
   rintro _ w1 ⟨rfl,g',hM,h1⟩
   have H1:Hid (Ab w0 b off n pk g' w1):=h1
   have HIn:Hid (BU (Aa pk) g' 20 n 0):=HRo.out.last (fun i hi=>hM.1.out i (.inl hi)) (by have:=HY.out;omega) (fun _=>BM.start (fun i h2 _=>HId.out i h2) hM)
   clear h1 hM HC' HRo HId HIns
   go_wp2_with fail
   obtain ⟨gO,hgO⟩:∃ z,z=gk:=⟨_,rfl⟩
   subst hgO
   go_loopg [6,7,8,9] n (fun gk2 sv av bv mv wr=>∃ (B:Nat) (g:Nat → Nat),sv=.int .i64 (B:Int) ∧ 20 ≤ B ∧ B ≤ 2000 ∧ n - B ≤ gk2 ∧ Hid (BU (Aa pk) g B n 0) ∧ Hid (Ab w0 b off n pk g wr))
   case atStart=>exact ⟨20,g',rfl,Nat.le_refl _,by omega,by omega,HIn,H1⟩
   case round=>
    clear HIn H1
    obtain ⟨B,g,rfl,hB20,hB2,hgk2,HIn,H⟩:=hrel
    by_cases hBn:B < n
    ·
     have hBz:(B:Int) < (n:Int):=by omega
     have wB:2 * (B:Int)=((2 * B:Nat):Int):=by omega
     obtain ⟨C,hC⟩:∃ C,2 * B=C:=⟨_,rfl⟩
     have HCB:Hid (2 * B=C):=hC
     rw [hC] at wB
     clear hC
     go_wp2_with fail
     obtain ⟨gP,hgP⟩:∃ z,z=gk:=⟨_,rfl⟩
     subst hgP
     obtain ⟨W0,hW0⟩:∃ W,W=wr:=⟨_,rfl⟩
     subst hW0
     go_loopg [7,8] n (fun gk3 av bv wr=>∃ (x:Nat) (g:Nat → Nat),av=.int .i64 (x:Int) ∧ bv=.int .i64 ((x+C:Nat):Int) ∧ x ≤ n ∧ n - x ≤ gk3 ∧ Hid (BU (Aa pk) g B n x) ∧ Hid (Eb (Aa pk) g C n x) ∧ Hid (Ab w0 b off n pk g wr))
     case atStart=>exact ⟨0,g,rfl,by rw [Nat.zero_add],Nat.zero_le _,Nat.le_refl _,HIn,Eb.start _ _ _,H⟩
     case round=>
      clear H HIn
      obtain ⟨x,g,rfl,rfl,hxn,hgk3,HIn,HRo,H⟩:=hrel
      obtain ⟨y,hy⟩:∃ y,x+C=y:=⟨_,rfl⟩
      obtain ⟨m,hm⟩:∃ m,x+B=m:=⟨_,rfl⟩
      have HY:Hid (x+C=y ∧ x+B=m ∧ m+B=y):=⟨hy,hm,by have:=HCB.out;omega⟩
      have wm:(x:Int)+(B:Int)=(m:Int):=by omega
      rw [hy]
      by_cases hle:y ≤ n
      ·
       have hlez:(y:Int) ≤ (n:Int):=by omega
       have o1:BM (Aa pk) g x m:=by
        have:=HIn.out.first (by have:=HCB.out;omega)
        rwa [show min (x+B) n=m by have:=HCB.out;omega] at this
       have o2:BM (Aa pk) g m y:=by
        have:=HIn.out.rest.first (by have:=HCB.out;omega)
        rwa [show min (x+B+B) n=y by have:=HCB.out;omega,hm] at this
       have HC:=HSym.out g x m y wr H.out (by have:=HCB.out;omega) (by have:=HCB.out;omega) hle o1 o2
       have HC':Hid (Calls Tryz.prog 194 #[.slice (some ⟨b,off,none⟩) n cap,.int .i64 (x:Int),.int .i64 (m:Int),.int .i64 (y:Int),.func (.func 140) #[] #[]] wr fun e w'=>e=.returned (.tuple #[]) ∧ ∃ g',Merged (Aa pk) g g' x y ∧ BM (Aa pk) g' x y ∧ Ab w0 b off n pk g' w'):=HC
       obtain ⟨z,hz⟩:∃ z,y+C=z:=⟨_,rfl⟩
       have wy:(y:Int)+(C:Int)=(z:Int):=by omega
       have HZ:Hid (y+C=z):=hz
       clear hz
       clear HC H hy hm o1 o2
       go_wp2_with fail
       refine HC'.out.mono ?_
       rintro _ w2 ⟨rfl,g',hM,ho,h1⟩
       have H1:Hid (Ab w0 b off n pk g' w2):=h1
       have HIn':Hid (BU (Aa pk) g' B n y):=by
        have h2:=HIn.out.rest.rest
        rw [show x+B+B=y by have:=HY.out;omega] at h2
        exact h2.congr fun i hi=>hM.1.out i (.inr hi)
       have HRo':Hid (Eb (Aa pk) g' C n y):=by
        have e:=HY.out.1
        show Eb _ _ _ _ _
        rw [← e]
        refine HRo.out.on (fun i hi=>hM.1.out i (.inl hi)) ?_
        rw [show min (x+C) n=y by omega]
        exact ho
       clear h1 hM ho HC' HIn HRo
       go_wp2_with fail
       go_roundg (n - y)
       case measure=>have:=HY.out;have:=HCB.out;omega
       case rel=>exact ⟨y,g',rfl,by rw [HZ.out],hle,Nat.le_refl _,HIn',HRo',H1⟩
      ·
       have hlez:¬ (y:Int) ≤ (n:Int):=by omega
       have wC:(B:Int) * 2=(C:Int):=by have:=HCB.out;omega
       by_cases hmn:m < n
       ·
        have hmz:(m:Int) < (n:Int):=by omega
        have o1:BM (Aa pk) g x m:=by
         have:=HIn.out.first (by have:=HCB.out;omega)
         rwa [show min (x+B) n=m by have:=HCB.out;omega] at this
        have o2:BM (Aa pk) g m n:=by
         have:=HIn.out.rest.first (by have:=HCB.out;omega)
         rwa [show min (x+B+B) n=n by have:=HCB.out;omega,hm] at this
        have HC:=HSym.out g x m n wr H.out (by have:=HCB.out;omega) hmn (Nat.le_refl _) o1 o2
        have HC':Hid (Calls Tryz.prog 194 #[.slice (some ⟨b,off,none⟩) n cap,.int .i64 (x:Int),.int .i64 (m:Int),.int .i64 (n:Int),.func (.func 140) #[] #[]] wr fun e w'=>e=.returned (.tuple #[]) ∧ ∃ g',Merged (Aa pk) g g' x n ∧ BM (Aa pk) g' x n ∧ Ab w0 b off n pk g' w'):=HC
        clear HC H hy hm o1 o2
        go_wp2_with fail
        refine HC'.out.mono ?_
        rintro _ w2 ⟨rfl,g',hM,ho,h1⟩
        have H1:Hid (Ab w0 b off n pk g' w2):=h1
        have HIn':Hid (BU (Aa pk) g' C n 0):=HRo.out.last (fun i hi=>hM.1.out i (.inl hi)) (by have:=HY.out;omega) (fun _=>ho)
        clear h1 hM ho HC' HIn HRo
        go_wp2_with fail
        go_roundg (n - C)
        case measure=>have:=HCB.out;omega
        case rel=>exact ⟨C,g',by go_num,by have:=HCB.out;omega,by have:=HCB.out;omega,Nat.le_refl _,HIn',H1⟩
       ·
        have hmz:¬ (m:Int) < (n:Int):=by omega
        have HIn':Hid (BU (Aa pk) g C n 0):=HRo.out.last (fun i _=>rfl) (by have:=HY.out;omega) (fun hx=>by
         have:=HIn.out.first hx
         rwa [show min (x+B) n=n by have:=HY.out;omega] at this)
        clear hy hm HIn HRo
        go_wp2_with fail
        go_roundg (n - C)
        case measure=>have:=HCB.out;omega
        case rel=>exact ⟨C,g,by go_num,by have:=HCB.out;omega,by have:=HCB.out;omega,Nat.le_refl _,HIn',H⟩
    ·
     have hBz:¬ (B:Int) < (n:Int):=by omega
     have HO:Hid (Bg (Aa pk) n ((List.range n).map g)):=HIn.out.order (by omega)
     clear HIn
     go_wp2_with fail
     go_end0
     exact ⟨rfl,g,HO.out,H.out⟩
theorem OE (w0:World) (b off n cap:Nat) (pk:Nat → Pk) (w:World) (h:Ab w0 b off n pk (fun i=>i) w) (hn:n ≤ 1000) :
  Calls Tryz.prog 139 #[.slice (some ⟨b,off,none⟩) n cap,.func (.func 140) #[] #[]] w fun e w'=>e=.returned (.tuple #[]) ∧ ∃ g,Bg (Aa pk) n ((List.range n).map g) ∧ Ab w0 b off n pk g w':=by
 have HC:Hid (Calls Tryz.prog 165 #[.slice (some ⟨b,off,none⟩) n cap,.int .i64 (n:Int),.func (.func 140) #[] #[]] w fun e w'=>e=.returned (.tuple #[]) ∧ ∃ g,Bg (Aa pk) n ((List.range n).map g) ∧ Ab w0 b off n pk g w'):=WI w0 b off n cap pk w h hn
 clear h
 go_enter Tryz.func139,Tryz.ntmps139
 go_wp2_with fail
 refine HC.out.mono ?_
 rintro _ w1 ⟨rfl,g,h1,h2⟩
 have HE:Hid (Bg (Aa pk) n ((List.range n).map g) ∧ Ab w0 b off n pk g w1):=⟨h1,h2⟩
 clear h1 h2
 go_wp2_with fail
 go_end0
 exact ⟨rfl,g,HE.out⟩
def aW (x:Sn):Bool:=decide (-1125899906842624 ≤ x.beg ∧ x.beg ≤ 1125899906842624 ∧ -1125899906842624 ≤ x.fin ∧ x.fin ≤ 1125899906842624)
theorem XR {x:Sn} (h:aW x=true) : -1125899906842624 ≤ x.beg ∧ x.beg ≤ 1125899906842624 ∧ -1125899906842624 ≤ x.fin ∧ x.fin ≤ 1125899906842624:=of_decide_eq_true h
def Rf (l:List Sn):Prop:=∀ (i:Nat) x,l[i]? = some x → aW x=true
end Go.Proofs.YtipdclphpkgceaaGreatDoor
