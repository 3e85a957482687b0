import Derived.Test.YtejlihcdfffafaaGreatDoorP18
set_option maxHeartbeats 4000000
set_option maxRecDepth 100000
namespace Go.Proofs.YtejlihcdfffafaaGreatDoor
open Go.RowKit
theorem Vt (w0:World)(b off n cap:Nat)(pk:Nat->Pk)(f:Nat->Nat)(x m y:Nat)(w:World)(h:Ap w0 b off n pk f w)(hx1:m=x+1)(hmy:m<y)(hy:y<=n)(hn:n<=1000)(_:Cq (Aa pk) f x m)(hr2:Cq (Aa pk) f m y)(hl:Lower f x m y):Calls Tryz.prog 188 #[.slice (some ⟨b,off,none⟩) n cap,.int .i64 x,.int .i64 m,.int .i64 y,.func (.func 129) #[] #[]] w fun e w'=>e=.returned (.tuple #[])/\∃ g,Merged (Aa pk) f g x y/\Ap w0 b off n pk g w':=by
 have H0:=qX h;have HR:=qX hr2;have HL:=qX hl;have HX:=qX hx1;have hcall:=Tryz.callByTick;have wd1:(m:Int)-(x:Int)=1:=by omega
 clear h hr2 hl hx1;go_in
 go_wp2_with fail;go_loopg [10,11,12] y (fun gk iv jv hv wr=>∃(i j:Nat),iv=.int .i64 i/\jv=.int .i64 j/\m<=i/\i<=j/\j<=y/\j-i<=gk/\Hid (i=m\/Aa pk (f (i-1))<Aa pk (f x))/\Hid (j=y\/Aa pk (f x)<=Aa pk (f j))/\Hid (Ap w0 b off n pk f wr))
 case atStart=>exact⟨m,y,rfl,rfl,lr,by omega,lr,by omega,.inl rfl,.inl rfl,H0⟩
 case round=>
  clear H0;obtain⟨i,j,rfl,rfl,hmi,hij,hjy,hgk,HLo,HHi,H⟩:=hrel;by_cases hlt:i<j
  ·
   have hltz:(i:Int)<(j:Int):=by omega
   obtain⟨p,hp⟩:=ex ((i+j)/2);have wp:((i:Int)+(j:Int))/2=(p:Int):=by omega
   have hip:i<=p:=by omega
   have hpj:p<j:=by omega
   have hpn:p<n:=by omega
   have hqn:x<n:=by have:=HX.o;omega
   clear hp;have a0:=H.o.row.c0 p hpn;have a1:=H.o.row.c1 p hpn;have a2:=H.o.row.c2 p hpn;have b0:=H.o.row.c0 x hqn;have b1:=H.o.row.c1 x hqn;have b2:=H.o.row.c2 x hqn;have hpz:(p:Int)<(n:Int):=by omega
   have hqz:(x:Int)<(n:Int):=by omega
   have HC:Hid (∀ l:Later wr,Calls Tryz.prog 129 #[.agg #[.int .i64 (pk (f p)).flow,.int .i64 (pk (f p)).size,.int .i64 (pk (f p)).tick],.agg #[.int .i64 (pk (f x)).flow,.int .i64 (pk (f x)).size,.int .i64 (pk (f x)).tick]] l.w fun e w'=>e=.returned (.int .i64 (EL (pk (f p)).tick (pk (f x)).tick))/\∃ l':Later wr,w'=l'.w):=Later.calls fun W _=>Hl _ _ W
   obtain⟨r,hr⟩:=ex (EL (pk (f p)).tick (pk (f x)).tick);have hrl:r<0↔(pk (f p)).tick<(pk (f x)).tick:=by rw[<- hr];exact KC
   have HRL:=qX hrl;rw[hr]at HC;generalize (pk (f p)).flow=u0 at a0 HC;generalize (pk (f p)).size=u1 at a1 HC;generalize (pk (f p)).tick=u2 at a2 HC;generalize (pk (f x)).flow=v0 at b0 HC;generalize (pk (f x)).size=v1 at b1 HC;generalize (pk (f x)).tick=v2 at b2 HC;have y0:=fun l:Later wr=>l.cell a0
   have y1:=fun l:Later wr=>l.cell a1
   have y2:=fun l:Later wr=>l.cell a2
   have y3:=fun l:Later wr=>l.cell b0
   have y4:=fun l:Later wr=>l.cell b1
   have y5:=fun l:Later wr=>l.cell b2
   have hne:Nonempty (Later wr):=⟨⟨wr,br⟩⟩
   clear hr hrl a0 a1 a2 b0 b1 b2;by_cases hless:r<0
   ·
    have HT:=qX (HRL.o.1 hless);have hd:decide (r<0)=true:=by simpa using hless
    clear HRL;go_wp2_with fail;refine BS (by kernel_rfl) (by kernel_rfl) ?_
    repeat (go_big_quiet_step (exact HC.o _))
    refine wpQuiet_nil ?_
    rintro _ ⟨gq,rfl⟩;have H1:=qX (H.o.later gq.bel);generalize gq.w=W1 at H1 ⊢;clear HC y0 y1 y2 y3 y4 y5 hne gq;clear hless hd;go_wp2
    go_roundg (j-(p+1))
    case measure=>omega
    case rel=>exact⟨p+1,j,by go_num,rfl,by omega,by omega,hjy,lr,.inr HT.o,HHi,H1⟩
   have HT:Hid (Aa pk (f x)<=Aa pk (f p)):=by show Aa pk (f x)<=Aa pk (f p);have:¬(pk (f p)).tick<(pk (f x)).tick:=fun h=>hless (HRL.o.2 h);unfold Aa;omega
   have hd:decide (r<0)=false:=by simpa using hless
   clear HRL;go_wp2_with fail;refine BS (by kernel_rfl) (by kernel_rfl) ?_
   repeat (go_big_quiet_step (exact HC.o _))
   refine wpQuiet_nil ?_
   rintro _ ⟨gq,rfl⟩;have H1:=qX (H.o.later gq.bel);generalize gq.w=W1 at H1 ⊢;clear HC y0 y1 y2 y3 y4 y5 hne gq;clear hless hd;go_wp2
   go_roundg (p-i)
   case measure=>omega
   case rel=>exact⟨i,p,rfl,by go_num,hmi,hip,by omega,lr,HLo,.inr HT.o,H1⟩
  have hltz:¬(i:Int)<(j:Int):=by omega
  obtain rfl:i=j:=by omega
  have HMg:Hid (Merged (Aa pk) f (rot f x (x+1) i) x y):=by
   have e:=HX.o;have h1:=HR.o;have h2:=HL.o;have h3:=HLo.o;rw[e]at h1 h2 h3;exact fE (by omega) hjy h1 h2 h3 HHi.o
  obtain⟨z,hz⟩:=ex (i-1);have wz:(i:Int)-1=(z:Int):=by omega
  have HZ:Hid (i=z+1):=by show _=_;omega
  have hxz:x<=z:=by have:=HX.o;omega
  have hzn:z<n:=by omega
  have HS:Hid (Ap w0 b off n pk (rot f x (x+1) (x+1)) wr):=by show Ap _ _ _ _ _ _ _;rw[Qp];exact H.o
  clear hz hij hlt H;go_wp2_with fail;obtain⟨W0,hW0⟩:∃ W,W=wr:=⟨_,rfl⟩
  subst hW0;obtain⟨gO,hgO⟩:∃ z,z=gk:=⟨_,rfl⟩
  subst hgO;go_loopg [13] z (fun gk2 kv wr=>∃ p:Nat,kv=.int .i64 p/\x<=p/\p<=z/\z-p<=gk2/\Hid (Ap w0 b off n pk (rot f x (x+1) (p+1)) wr))
  case atStart=>exact⟨x,rfl,lr,hxz,by omega,HS⟩
  case round=>
   clear HS;obtain⟨p,rfl,hxp,hpz',hgk2,H⟩:=hrel;by_cases hlt:p<z
   ·
    have hltz2:(p:Int)<(z:Int):=by omega
    obtain⟨g,hg⟩:=ex (rot f x (x+1) (p+1));obtain⟨q,hq⟩:=ex (p+1);have HG:Hid (xch g p q=rot f x (x+1) (q+1)):=by show _=_;rw[<- hg,<- hq];exact jH f hxp
    rw[hg]at H;have hpn:p<n:=by omega
    have hqn:q<n:=by omega
    have hpq:p≠q:=by omega
    have wq:IntKind.i64.wrap ((p:Int)+1)=(q:Int):=by rw[IntKind.wrap_i64];omega
    have wq':(p:Int)+1=(q:Int):=by omega
    have hqz':q<=z:=by omega
    have HQ:=qX hq;clear hg hq;have hpz:(p:Int)<(n:Int):=by omega
    have hqz:(q:Int)<(n:Int):=by omega
    have a0:=H.o.row.c0 p hpn;have a1:=H.o.row.c1 p hpn;have a2:=H.o.row.c2 p hpn;have b0:=H.o.row.c0 q hqn;have b1:=H.o.row.c1 q hqn;have b2:=H.o.row.c2 q hqn;have f0:=H.o.row.fz (off+p*3);have f1:=H.o.row.fz (off+p*3+1);have f2:=H.o.row.fz (off+p*3+2);have g0:=H.o.row.fz (off+q*3);have g1:=H.o.row.fz (off+q*3+1);have g2:=H.o.row.fz (off+q*3+2);have H2:∃ V,Hid ((DD (DD wr b (off+p*3) (pk (g q))) b (off+q*3) (pk (g p))).drew=V)/\Hid (Ap w0 b off n pk (rot f x (x+1) (q+1)) V):=⟨_,rfl,by show Ap _ _ _ _ _ _ _;rw[<- HG.o];exact(H.o.xch hpn hqn).drew⟩
    have k0:(DD wr b (off+p*3) (pk (g q))).cell? ⟨b,off+q*3,none⟩=some (.int .i64 (pk (g q)).flow):=by rw[Ei _ _ _ _ (by omega)];exact b0
    have k1:(DD wr b (off+p*3) (pk (g q))).cell? ⟨b,off+q*3+1,none⟩=some (.int .i64 (pk (g q)).size):=by rw[Ei _ _ _ _ (by omega)];exact b1
    have k2:(DD wr b (off+p*3) (pk (g q))).cell? ⟨b,off+q*3+2,none⟩=some (.int .i64 (pk (g q)).tick):=by rw[Ei _ _ _ _ (by omega)];exact b2
    obtain⟨V,HV,HVS⟩:=H2;unfold DD at HV k0 k1 k2;obtain⟨u0,hu0⟩:=ex ((pk (g p)).flow);obtain⟨u1,hu1⟩:=ex ((pk (g p)).size);obtain⟨u2,hu2⟩:=ex ((pk (g p)).tick);obtain⟨v0,hv0⟩:=ex ((pk (g q)).flow);obtain⟨v1,hv1⟩:=ex ((pk (g q)).size);obtain⟨v2,hv2⟩:=ex ((pk (g q)).tick);rw[hu0]at a0 HV;rw[hu1]at a1 HV;rw[hu2]at a2 HV;rw[hv0]at b0 HV k0 k1 k2;rw[hv1]at b1 HV k0 k1 k2;rw[hv2]at b2 HV k0 k1 k2;clear hu0 hu1 hu2 hv0 hv1 hv2;clear H HG;go_wp2
    go_region;rw[HV.o];clear HV a0 a1 a2 b0 b1 b2 f0 f1 f2 g0 g1 g2 k0 k1 k2;go_wp2
    go_roundg (z-q)
    case measure=>have:=HQ.o;omega
    case rel=>exact⟨q,by go_num,by have:=HQ.o;omega,hqz',lr,HVS⟩
   have hltz2:¬(p:Int)<(z:Int):=by omega
   obtain rfl:p=z:=by omega
   have HE:Hid (Ap w0 b off n pk (rot f x (x+1) i) wr):=by show Ap _ _ _ _ _ _ _;rw[HZ.o];exact H.o
   clear H;go_wp2_with fail
   (try simp only[Exit.inBlock,Exit.then])
   refine vB (results_none rfl _ _ _) rfl ?_
   exact⟨rfl,_,HMg.o,HE.o⟩
theorem Ym (w0:World)(b off n cap:Nat)(pk:Nat->Pk)(f:Nat->Nat)(x m y:Nat)(w:World)(h:Ap w0 b off n pk f w)(hxm:x+1<m)(hy1:y=m+1)(hy:y<=n)(hn:n<=1000)(hr1:Cq (Aa pk) f x m)(_:Cq (Aa pk) f m y)(hl:Lower f x m y):Calls Tryz.prog 188 #[.slice (some ⟨b,off,none⟩) n cap,.int .i64 x,.int .i64 m,.int .i64 y,.func (.func 129) #[] #[]] w fun e w'=>e=.returned (.tuple #[])/\∃ g,Merged (Aa pk) f g x y/\Ap w0 b off n pk g w':=by
 have H0:=qX h;have HR:=qX hr1;have HL:Hid (Lower f x m (m+1)):=by rw[hy1]at hl;exact hl
 have HX:=qX hy1;have hcall:=Tryz.callByTick;have wd1:((m:Int)-(x:Int)==1)=false:=by simp;omega
 have wd2:(y:Int)-(m:Int)=1:=by omega
 have hmn:m<n:=by omega
 clear h hr1 hl hy1;go_in
 go_wp2_with fail;go_loopg [14,15,16] y (fun gk iv jv hv wr=>∃(i j:Nat),iv=.int .i64 i/\jv=.int .i64 j/\x<=i/\i<=j/\j<=m/\j-i<=gk/\Hid (i=x\/Aa pk (f (i-1))<=Aa pk (f m))/\Hid (j=m\/Aa pk (f m)<Aa pk (f j))/\Hid (Ap w0 b off n pk f wr))
 case atStart=>exact⟨x,m,rfl,rfl,lr,by omega,lr,by have:=HX.o;omega,.inl rfl,.inl rfl,H0⟩
 case round=>
  clear H0;obtain⟨i,j,rfl,rfl,hmi,hij,hjy,hgk,HLo,HHi,H⟩:=hrel;by_cases hlt:i<j
  ·
   have hltz:(i:Int)<(j:Int):=by omega
   obtain⟨q,hq⟩:=ex ((i+j)/2);have wp:((i:Int)+(j:Int))/2=(q:Int):=by omega
   have hip:i<=q:=by omega
   have hpj:q<j:=by omega
   have hpn:m<n:=hmn;have hqn:q<n:=by omega
   clear hq;have a0:=H.o.row.c0 m hpn;have a1:=H.o.row.c1 m hpn;have a2:=H.o.row.c2 m hpn;have b0:=H.o.row.c0 q hqn;have b1:=H.o.row.c1 q hqn;have b2:=H.o.row.c2 q hqn;have hpz:(m:Int)<(n:Int):=by omega
   have hqz:(q:Int)<(n:Int):=by omega
   have HC:Hid (∀ l:Later wr,Calls Tryz.prog 129 #[.agg #[.int .i64 (pk (f m)).flow,.int .i64 (pk (f m)).size,.int .i64 (pk (f m)).tick],.agg #[.int .i64 (pk (f q)).flow,.int .i64 (pk (f q)).size,.int .i64 (pk (f q)).tick]] l.w fun e w'=>e=.returned (.int .i64 (EL (pk (f m)).tick (pk (f q)).tick))/\∃ l':Later wr,w'=l'.w):=Later.calls fun W _=>Hl _ _ W
   obtain⟨r,hr⟩:=ex (EL (pk (f m)).tick (pk (f q)).tick);have hrl:r<0↔(pk (f m)).tick<(pk (f q)).tick:=by rw[<- hr];exact KC
   have HRL:=qX hrl;rw[hr]at HC;generalize (pk (f m)).flow=u0 at a0 HC;generalize (pk (f m)).size=u1 at a1 HC;generalize (pk (f m)).tick=u2 at a2 HC;generalize (pk (f q)).flow=v0 at b0 HC;generalize (pk (f q)).size=v1 at b1 HC;generalize (pk (f q)).tick=v2 at b2 HC;have y0:=fun l:Later wr=>l.cell a0
   have y1:=fun l:Later wr=>l.cell a1
   have y2:=fun l:Later wr=>l.cell a2
   have y3:=fun l:Later wr=>l.cell b0
   have y4:=fun l:Later wr=>l.cell b1
   have y5:=fun l:Later wr=>l.cell b2
   have hne:Nonempty (Later wr):=⟨⟨wr,br⟩⟩
   clear hr hrl a0 a1 a2 b0 b1 b2;by_cases hless:r<0
   ·
    have HT:=qX (HRL.o.1 hless);have hd:decide (r<0)=true:=by simpa using hless
    clear HRL;go_wp2_with fail;refine BS (by kernel_rfl) (by kernel_rfl) ?_
    repeat (go_big_quiet_step (exact HC.o _))
    refine wpQuiet_nil ?_
    rintro _ ⟨gq,rfl⟩;have H1:=qX (H.o.later gq.bel);generalize gq.w=W1 at H1 ⊢;clear HC y0 y1 y2 y3 y4 y5 hne gq;clear hless hd;go_wp2
    go_roundg (q-i)
    case measure=>omega
    case rel=>exact⟨i,q,rfl,by go_num,hmi,hip,by omega,lr,HLo,.inr HT.o,H1⟩
   have HT:Hid (Aa pk (f q)<=Aa pk (f m)):=by show Aa pk (f q)<=Aa pk (f m);have:¬(pk (f m)).tick<(pk (f q)).tick:=fun h=>hless (HRL.o.2 h);unfold Aa;omega
   have hd:decide (r<0)=false:=by simpa using hless
   clear HRL;go_wp2_with fail;refine BS (by kernel_rfl) (by kernel_rfl) ?_
   repeat (go_big_quiet_step (exact HC.o _))
   refine wpQuiet_nil ?_
   rintro _ ⟨gq,rfl⟩;have H1:=qX (H.o.later gq.bel);generalize gq.w=W1 at H1 ⊢;clear HC y0 y1 y2 y3 y4 y5 hne gq;clear hless hd;go_wp2
   go_roundg (j-(q+1))
   case measure=>omega
   case rel=>exact⟨q+1,j,by go_num,rfl,by omega,by omega,hjy,lr,.inr HT.o,HHi,H1⟩
  have hltz:¬(i:Int)<(j:Int):=by omega
  obtain rfl:i=j:=by omega
  have HMg:Hid (Merged (Aa pk) f (rot f i m (m+1)) x y):=by
   have e:=HX.o;rw[e];exact YY hmi hjy HR.o HL.o HLo.o HHi.o
  have HS:Hid (Ap w0 b off n pk (rot f m m (m+1)) wr):=by show Ap _ _ _ _ _ _ _;rw[O8];exact H.o
  clear hij hlt H;go_wp2_with fail;obtain⟨W0,hW0⟩:∃ W,W=wr:=⟨_,rfl⟩
  subst hW0;obtain⟨gO,hgO⟩:∃ z,z=gk:=⟨_,rfl⟩
  subst hgO;go_loopg [17] m (fun gk2 kv wr=>∃ p:Nat,kv=.int .i64 p/\i<=p/\p<=m/\p-i<=gk2/\Hid (Ap w0 b off n pk (rot f p m (m+1)) wr))
  case atStart=>exact⟨m,rfl,hjy,lr,by omega,HS⟩
  case round=>
   clear HS;obtain⟨p,rfl,hxp,hpz',hgk2,H⟩:=hrel;by_cases hlt:i<p
   ·
    have hltz2:(i:Int)<(p:Int):=by omega
    obtain⟨g,hg⟩:=ex (rot f p m (m+1));obtain⟨q,hq⟩:=ex (p-1);have HQ:Hid (p=q+1):=by show _=_;omega
    have HG:Hid (xch g p q=rot f q m (m+1)):=by show _=_;rw[<- hg,HQ.o];exact Wy f (by omega)
    rw[hg]at H;have hpn:p<n:=by omega
    have hqn:q<n:=by omega
    have hpq:p≠q:=by omega
    have wq:IntKind.i64.wrap ((p:Int)-1)=(q:Int):=by rw[IntKind.wrap_i64];omega
    have wq':(p:Int)-1=(q:Int):=by omega
    clear hg hq;have hpz:(p:Int)<(n:Int):=by omega
    have hqz:(q:Int)<(n:Int):=by omega
    have a0:=H.o.row.c0 p hpn;have a1:=H.o.row.c1 p hpn;have a2:=H.o.row.c2 p hpn;have b0:=H.o.row.c0 q hqn;have b1:=H.o.row.c1 q hqn;have b2:=H.o.row.c2 q hqn;have f0:=H.o.row.fz (off+p*3);have f1:=H.o.row.fz (off+p*3+1);have f2:=H.o.row.fz (off+p*3+2);have g0:=H.o.row.fz (off+q*3);have g1:=H.o.row.fz (off+q*3+1);have g2:=H.o.row.fz (off+q*3+2);have H2:∃ V,Hid ((DD (DD wr b (off+p*3) (pk (g q))) b (off+q*3) (pk (g p))).drew=V)/\Hid (Ap w0 b off n pk (rot f q m (m+1)) V):=⟨_,rfl,by show Ap _ _ _ _ _ _ _;rw[<- HG.o];exact(H.o.xch hpn hqn).drew⟩
    have k0:(DD wr b (off+p*3) (pk (g q))).cell? ⟨b,off+q*3,none⟩=some (.int .i64 (pk (g q)).flow):=by rw[Ei _ _ _ _ (by omega)];exact b0
    have k1:(DD wr b (off+p*3) (pk (g q))).cell? ⟨b,off+q*3+1,none⟩=some (.int .i64 (pk (g q)).size):=by rw[Ei _ _ _ _ (by omega)];exact b1
    have k2:(DD wr b (off+p*3) (pk (g q))).cell? ⟨b,off+q*3+2,none⟩=some (.int .i64 (pk (g q)).tick):=by rw[Ei _ _ _ _ (by omega)];exact b2
    obtain⟨V,HV,HVS⟩:=H2;unfold DD at HV k0 k1 k2;obtain⟨u0,hu0⟩:=ex ((pk (g p)).flow);obtain⟨u1,hu1⟩:=ex ((pk (g p)).size);obtain⟨u2,hu2⟩:=ex ((pk (g p)).tick);obtain⟨v0,hv0⟩:=ex ((pk (g q)).flow);obtain⟨v1,hv1⟩:=ex ((pk (g q)).size);obtain⟨v2,hv2⟩:=ex ((pk (g q)).tick);rw[hu0]at a0 HV;rw[hu1]at a1 HV;rw[hu2]at a2 HV;rw[hv0]at b0 HV k0 k1 k2;rw[hv1]at b1 HV k0 k1 k2;rw[hv2]at b2 HV k0 k1 k2;clear hu0 hu1 hu2 hv0 hv1 hv2;clear H HG;go_wp2
    go_region;rw[HV.o];clear HV a0 a1 a2 b0 b1 b2 f0 f1 f2 g0 g1 g2 k0 k1 k2;go_wp2
    go_roundg (q-i)
    case measure=>have:=HQ.o;omega
    case rel=>exact⟨q,by go_num,by have:=HQ.o;omega,by have:=HQ.o;omega,lr,HVS⟩
   have hltz2:¬(i:Int)<(p:Int):=by omega
   obtain rfl:p=i:=by omega
   go_wp2_with fail
   (try simp only[Exit.inBlock,Exit.then])
   refine vB (results_none rfl _ _ _) rfl ?_
   exact⟨rfl,_,HMg.o,H.o⟩
theorem kH (w0:World)(b J n cap:Nat)(h:Nat->Pk)(f:Nat->Nat)(x m y:Nat)(w:World)(aq:Ap w0 b J n h f w)(de:x+1<m)(dk:m+1<y)(z:Nat)(cA:(x+y)/2=z)(cj:(∀(g:Nat->Nat)(al aj ad:Nat)(N:World),ad-al<y-x->Ap w0 b J n h g N->al<aj->aj<ad->ad<=n->Cq (Aa h) g al aj->Cq (Aa h) g aj ad->Lower g al aj ad->Calls Tryz.prog 188 #[.slice (some ⟨b,J,none⟩) n cap,.int .i64 al,.int .i64 aj,.int .i64 ad,.func (.func 129) #[] #[]] N fun e w'=>e=.returned (.tuple #[])/\∃ g',Merged (Aa h) g g' al ad/\Ap w0 b J n h g' w'))(cw:y<=n)(cx:n<=1000)(ck:Cq (Aa h) f x m)(b4:Cq (Aa h) f m y)(b1:Lower f x m y):Calls Tryz.prog 188 #[.slice (some ⟨b,J,none⟩) n cap,.int .i64 x,.int .i64 m,.int .i64 y,.func (.func 129) #[] #[]] w fun e w'=>e=.returned (.tuple #[])/\∃ g,Merged (Aa h) f g x y/\Ap w0 b J n h g w':=by
 have cf:=qX aq;have b8:=qX ck;have co:=qX b4;have cm:=qX b1;have bq:=qX cj;have da:=Tryz.callByTick;have dz:((m:Int)-(x:Int)==1)=false:=by simp;omega
 have du:((y:Int)-(m:Int)==1)=false:=by simp;omega
 have c':((x:Int)+(y:Int))/2=(z:Int):=by omega
 have dv:x<z:=by omega
 have dm:z<y:=by omega
 have dd:z+z<=x+y:=by omega
 have c9:x+y<=z+z+1:=by omega
 obtain⟨O,cb⟩:=ex (z+m);have ds:(z:Int)+(m:Int)=(O:Int):=by omega
 obtain⟨P,cv⟩:=ex (O-1);have dj:(O:Int)-1=(P:Int):=by omega
 have cp:Hid (z+m=O/\O=P+1):=⟨cb,by omega⟩
 obtain⟨W,ab,bb,d0,cG⟩:∃ W ab:Nat,Hid ((m<=z/\W=x/\ab=m)\/(z<m/\W+y=O/\ab=z))/\x<=W/\W<=ab:=by
  by_cases c6:m<=z
  · exact⟨x,m,.inl ⟨c6,rfl,rfl⟩,by omega,by omega⟩
  exact⟨O-y,z,.inr ⟨by omega,by omega,rfl⟩,by omega,by omega⟩
 rcases bb.o with ca|ca
 all_goals
  first
  | have cL:¬(z:Int)<(m:Int):=by omega
  |
   have cL:(z:Int)<(m:Int):=by omega
   have dX:(O:Int)-(y:Int)=(W:Int):=by omega
  clear aq ck b4 b1 cA cb cv cj ca;go_in
  go_wp2_with fail;go_loopg [20,21,23] y (fun cI ct c3 c8 wr=>∃(s t:Nat),ct=.int .i64 s/\c3=.int .i64 t/\W<=s/\s<=t/\t<=ab/\t-s<=cI/\Hid (s=W\/Aa h (f (s-1))<=Aa h (f (O-s)))/\Hid (t=ab\/Aa h (f (P-t))<Aa h (f t))/\Hid (Ap w0 b J n h f wr))
  case atStart=>
   have bm:=bb.o;exact⟨W,ab,by first | rfl | rw[show W=x by omega],by first | rw[show ab=m by omega] | rw[show ab=z by omega],lr,cG,lr,by omega,.inl rfl,.inl rfl,cf⟩
  case round=>
   clear cf;obtain⟨s,t,rfl,rfl,b6,cH,ch,dq,bl,a4,U⟩:=hrel;have cn:=cp.o;have bm:=bb.o;by_cases cU:s<t
   ·
    have b7:(s:Int)<(t:Int):=by omega
    obtain⟨q,cu⟩:=ex ((s+t)/2);have wc:((s:Int)+(t:Int))/2=(q:Int):=by omega
    have cP:s<=q:=by omega
    have dr:q<t:=by omega
    obtain⟨p,b5⟩:=ex (P-q);have dg:IntKind.i64.wrap ((P:Int)-(q:Int))=(p:Int):=by rw[IntKind.wrap_i64];omega
    have be:p<n:=by omega
    have bt:q<n:=by omega
    have b3:=qX b5;clear cu b5;have a7:=U.o.row.c0 p be;have bp:=U.o.row.c1 p be;have bc:=U.o.row.c2 p be;have a':=U.o.row.c0 q bt;have bd:=U.o.row.c1 q bt;have a6:=U.o.row.c2 q bt;have dy:(p:Int)<(n:Int):=by omega
    have dp:(q:Int)<(n:Int):=by omega
    have K:Hid (∀ l:Later wr,Calls Tryz.prog 129 #[.agg #[.int .i64 (h (f p)).flow,.int .i64 (h (f p)).size,.int .i64 (h (f p)).tick],.agg #[.int .i64 (h (f q)).flow,.int .i64 (h (f q)).size,.int .i64 (h (f q)).tick]] l.w fun e w'=>e=.returned (.int .i64 (EL (h (f p)).tick (h (f q)).tick))/\∃ cJ:Later wr,w'=cJ.w):=Later.calls fun N _=>Hl _ _ N
    obtain⟨r,bg⟩:=ex (EL (h (f p)).tick (h (f q)).tick);have cg:r<0↔(h (f p)).tick<(h (f q)).tick:=by rw[<- bg];exact KC
    have bT:=qX cg;rw[bg]at K;generalize (h (f p)).flow=u0 at a7 K;generalize (h (f p)).size=u1 at bp K;generalize (h (f p)).tick=u2 at bc K;generalize (h (f q)).flow=v0 at a' K;generalize (h (f q)).size=v1 at bd K;generalize (h (f q)).tick=v2 at a6 K;have c7:=fun l:Later wr=>l.cell a7
    have cX:=fun l:Later wr=>l.cell bp
    have c4:=fun l:Later wr=>l.cell bc
    have cC:=fun l:Later wr=>l.cell a'
    have cY:=fun l:Later wr=>l.cell bd
    have cQ:=fun l:Later wr=>l.cell a6
    have cN:Nonempty (Later wr):=⟨⟨wr,br⟩⟩
    clear bg cg a7 bp bc a' bd a6;clear cn bm;by_cases aB:r<0
    all_goals
     first
     |
      have bj:Hid (Aa h (f (P-q))<Aa h (f q)):=by show Aa h (f (P-q))<Aa h (f q);rw[b3.o];exact bT.o.1 aB
      have cd:decide (r<0)=true:=by simpa using aB
     |
      have bj:Hid (Aa h (f (q+1-1))<=Aa h (f (O-(q+1)))):=by show Aa h (f (q+1-1))<=Aa h (f (O-(q+1)));have I:¬(h (f p)).tick<(h (f q)).tick:=fun aq=>absurd (bT.o.2 aq) (by omega);have E:=b3.o;have H:=cp.o;rw[show O-(q+1)=p by omega,Nat.add_sub_cancel];unfold Aa;omega
      have cd:decide (r<0)=false:=by simpa using aB
     clear bT;go_wp2_with fail;refine BS (by kernel_rfl) (by kernel_rfl) ?_
     repeat (go_big_quiet_step (exact K.o _))
     refine wpQuiet_nil ?_
     rintro _ ⟨gq,rfl⟩;have Y:=qX (U.o.later gq.bel);generalize gq.w=a1 at Y ⊢;clear K c7 cX c4 cC cY cQ cN gq;clear aB cd;go_wp2_with fail
    ·
     go_roundg (q-s)
     case measure=>omega
     case rel=>exact⟨s,q,rfl,by go_num,b6,cP,by omega,lr,bl,.inr bj.o,Y⟩
    go_roundg (t-(q+1))
    case measure=>omega
    case rel=>exact⟨q+1,t,by go_num,rfl,by omega,by omega,ch,lr,.inr bj.o,a4,Y⟩
   have b7:¬(s:Int)<(t:Int):=by omega
   obtain rfl:s=t:=by omega
   obtain⟨e,cc⟩:=ex (O-s);have dn:(O:Int)-(s:Int)=(e:Int):=by omega
   have ai:ND (Aa h) f x m y z s e:=by
    have I:=bl.o;have E:=a4.o;rw[cc]at I;refine⟨by omega,by omega,by omega,by omega,by omega,fun H V=>?_,fun H V=>?_⟩
    ·
     rcases E with E|E
     · omega
     rwa[show P-s=e-1 by omega]at E
    rcases I with I|I
    · omega
    exact I
   obtain⟨⟨ar,a0,aE,aS⟩,bN,bh,a8⟩:=ai.parts b8.o co.o cm.o;have cW:=ai.sm;have cF:=ai.me;have c5:=ai.sa;have cM:=ai.eb;obtain⟨-,-,db,dT⟩:=ai.mid_in;obtain⟨k,an⟩:=ex (rot f s m e);rw[an]at ar a0 aE aS bN bh a8;have bs:Hid (s<m->m<e->Calls Tryz.prog 216 #[.slice (some ⟨b,J,none⟩) n cap,.int .i64 s,.int .i64 m,.int .i64 e,.func (.func 129) #[] #[]] wr fun e w'=>e=.returned (.tuple #[])/\Ap w0 b J n h k w'):=fun I E=>by rw[<- an];exact R8 w0 b J n cap h _ f s m e wr U.o I E (by omega) cx
   have bw:Hid (¬(s<m/\m<e)->Ap w0 b J n h k wr):=fun I=>by
    rw[<- an];rcases qC s m with E|E
    ·
     obtain rfl:m=e:=by omega
     rw[Qp];exact U.o
    obtain rfl:s=m:=by omega
    rw[O8];exact U.o
   have cT:Hid (∀ N,Ap w0 b J n h k N->x<s->s<z->Calls Tryz.prog 188 #[.slice (some ⟨b,J,none⟩) n cap,.int .i64 x,.int .i64 s,.int .i64 z,.func (.func 129) #[] #[]] N fun e w'=>e=.returned (.tuple #[])/\∃ g',Merged (Aa h) k g' x z/\Ap w0 b J n h g' w'):=fun N a5 I E=>bq.o k x s z N (by omega) a5 I E (by omega) ar a0 bN
   have cq:Hid (¬(x<s/\s<z)->Merged (Aa h) k k x z):=fun I=>by
    refine⟨Gj.refl _ _ _,?_⟩;rcases qC x s with E|E
    ·
     obtain rfl:s=z:=by omega
     exact ar
    obtain rfl:s=x:=by omega
    exact a0
   have cV:Hid (∀ D N,Merged (Aa h) k D x z->Ap w0 b J n h D N->z<e->e<y->Calls Tryz.prog 188 #[.slice (some ⟨b,J,none⟩) n cap,.int .i64 z,.int .i64 e,.int .i64 y,.func (.func 129) #[] #[]] N fun e w'=>e=.returned (.tuple #[])/\∃ g',Merged (Aa h) D g' z y/\Ap w0 b J n h g' w'):=fun D N a9 a5 I E=>by
    have Z:∀ Q,z<=Q->D Q=k Q:=fun Q a2=>a9.1.out Q (.inr a2)
    refine bq.o D z e y N (by omega) a5 I E cw (fun i j H V ac=>?_) (fun i j H V ac=>?_) (fun i j H V ac cR=>?_)
    · rw[Z i H,Z j (by omega)];exact aE i j H V ac
    · rw[Z i (by omega),Z j (by omega)];exact aS i j H V ac
    rw[Z i H,Z j (by omega)];exact bh i j H V ac cR
   have cS:Hid (∀ D,Merged (Aa h) k D x z->¬(z<e/\e<y)->Merged (Aa h) D D z y):=fun D a9 I=>by
    have Z:∀ Q,z<=Q->D Q=k Q:=fun Q a2=>a9.1.out Q (.inr a2)
    refine⟨Gj.refl _ _ _,fun i j H V ac=>?_⟩;rw[Z i H,Z j (by omega)];rcases qC z e with E|E
    ·
     obtain rfl:e=y:=by omega
     exact aE i j H V ac
    obtain rfl:e=z:=by omega
    exact aS i j H V ac
   have b9:Hid (∀ D aw,Merged (Aa h) k D x z->Merged (Aa h) D aw z y->Merged (Aa h) f aw x y):=fun D aw I E=>by
    have H:=PK (by omega) (by omega) I E a8;refine⟨Gj.trans ?_ H.1,H.2⟩;rw[<- an];exact(LB f cW cF).wide c5 cM
   clear ai ar a0 aE aS bN bh a8 an bq b8 co cm bl a4 U cc cn cH cU bm b6 ch;have am:(s<m/\m<e)\/(s<m/\¬m<e)\/¬s<m:=by omega
   rcases am with av|av|av
   all_goals
    first
    |
     have a3:(m:Int)<(e:Int):=by omega
     have b0:(s:Int)<(m:Int):=by omega
     have K:=qX (bs.o av.1 av.2);clear bs bw;go_wp2_with fail;refine K.o.mono ?_
     rintro _ a1 ⟨rfl,I⟩;have Y:=qX I;clear I K a3 b0 b7
    |
     first
     |
      have a3:(s:Int)<(m:Int):=by omega
      have b0:¬(m:Int)<(e:Int):=by omega
     | have a3:¬(s:Int)<(m:Int):=by omega
     obtain⟨a1,cD⟩:∃ N,N=wr:=⟨_,rfl⟩
     subst cD;have Y:=qX (bw.o (by omega));clear bs bw
    have am:(x<s/\s<z)\/(x<s/\¬s<z)\/¬x<s:=by omega
    rcases am with ap|ap|ap
    all_goals
     first
     |
      have bk:(s:Int)<(z:Int):=by omega
      have ce:(x:Int)<(s:Int):=by omega
      have K:=qX (cT.o a1 Y.o ap.1 ap.2);clear Y;go_wp2_with fail;refine K.o.mono ?_
      rintro _ bx ⟨rfl,D,b',E⟩;have ao:=qX b';have bv:=qX E;clear b' E K bk ce
     |
      first
      |
       have bk:(x:Int)<(s:Int):=by omega
       have ce:¬(s:Int)<(z:Int):=by omega
      | have bk:¬(x:Int)<(s:Int):=by omega
      obtain⟨bx,cE⟩:∃ N,N=a1:=⟨_,rfl⟩
      subst cE;obtain⟨D,ao,bv⟩:∃ D,Hid (Merged (Aa h) k D x z)/\Hid (Ap w0 b J n h D bx):=⟨k,cq.o (by omega),Y⟩
      clear Y
     have am:(z<e/\e<y)\/(z<e/\¬e<y)\/¬z<e:=by omega
     rcases am with aN|aN|aN
     all_goals
      first
      |
       have b2:(e:Int)<(y:Int):=by omega
       have cy:(z:Int)<(e:Int):=by omega
       have K:=qX (cV.o _ _ ao.o bv.o aN.1 aN.2);go_wp2_with fail;refine K.o.mono ?_
       rintro _ dt ⟨rfl,aw,cl,H⟩;have ci:=qY (b9.o _ _ ao.o cl) H;clear cl H K
      |
       first
       |
        have b2:(z:Int)<(e:Int):=by omega
        have cy:¬(e:Int)<(y:Int):=by omega
       | have b2:¬(z:Int)<(e:Int):=by omega
       have ci:Hid (Merged (Aa h) f D x y/\Ap w0 b J n h D bx):=⟨b9.o _ _ ao.o (cS.o _ ao.o (by omega)),bv.o⟩
      go_wp2_with fail
      all_goals
       go_end0;exact⟨rfl,_,ci.o⟩
end Go.Proofs.YtejlihcdfffafaaGreatDoor
