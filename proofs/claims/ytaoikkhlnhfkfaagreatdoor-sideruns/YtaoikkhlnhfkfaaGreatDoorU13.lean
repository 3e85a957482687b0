import Derived.Test.YtaoikkhlnhfkfaaGreatDoorU00
import Derived.Test.YtaoikkhlnhfkfaaGreatDoorU12
set_option maxHeartbeats 4000000
set_option maxRecDepth 100000
set_option linter.defProp false
set_option linter.unusedSimpArgs false
set_option linter.unusedVariables false
namespace Go.Proofs.YtaoikkhlnhfkfaaGreatDoor
open Go renaming Calls->s8,wpQuiet_nil->zv
open Proofs.Tryz renaming prog->sr
open RowKit renaming Hid->sE
open Option renaming some->A
open Int renaming emod_nonneg->Lq,emod_lt_of_pos->IA,mul_one->Hv
open Go.RowKit
def bi (w0:M) b off n cap pk f x m y(w:M)(h:AY w0 b off n pk f w)(hx1:m=x+1)(hmy:m<y)(hy:y<=n)(hn:n<=1000)(_:DC (Av pk) f x m)(hr2:DC (Av pk) f m y)(hl:õ f x m y):s8 sr 157 #[.sl b off n cap,.q (x:Int),.q (m:Int),.q (y:Int),.func (.func 91) #[] #[]] w λe w'=>e=.r (.t #[])/\∃g,Ñ (Av pk) f g x y/\AY w0 b off n pk g w':=by
 have H0:=qX h;have I:=qX hr2;have r7:=qX hl;have HX:=qX hx1;have hcall:=Tryz.j;have wd1:(m:Int)-(x:Int)=1:=N;clear h hr2 hl hx1;go_in
 go_wp2_with fail;go_loopg[10,11,12] y (λgk p q i wr=>∃(i j:Nat),p=.q (i:Int)/\q=.q (j:Int)/\m<=i/\i<=j/\j<=y/\j-i<=gk/\sE (i=m\/Av pk (f (i-1))<Av pk (f x))/\sE (j=y\/Av pk (f x)<=Av pk (f j))/\sE (AY w0 b off n pk f wr))
 case atStart=>exact⟨m,y,J,J,lr,N,lr,N,.inl J,.inl J,H0⟩
 case round=>
  clear H0;obtain⟨i,j,rfl,rfl,hmi,hij,hjy,hgk,HLo,HHi,H⟩:=hrel;by_cases hlt:i<j
  .
   have hltz:(i:Int)<(j:Int):=N;obtain⟨p,l⟩:=ex ((i+j)/2);have q:((i:Int)+(j:Int))/2=(p:Int):=N;have hip:i<=p:=N;have hpj:p<j:=N;have hpn:p<n:=N;have hqn:x<n:=oe HX.o
   clear l;have a0:=H.o.row.e p hpn;have a1:=H.o.row.a p hpn;have a2:=H.o.row.k p hpn;have b0:=H.o.row.e x hqn;have b1:=H.o.row.a x hqn;have b2:=H.o.row.k x hqn;have hpz:(p:Int)<(n:Int):=N;have hqz:(x:Int)<(n:Int):=N;have HC:sE (∀l:Ï wr,Ë 91 #[.agg #[.q (pk (f p)).b,.q (pk (f p)).h,.q (pk (f p)).a],.agg #[.q (pk (f x)).b,.q (pk (f x)).h,.q (pk (f x)).a]] l.w λe w'=>e=.r (.q (Lx (pk (f p)).a (pk (f x)).a))/\∃l':Ï wr,w'=l'.w):=Ï.j λW _=>Lg _ _ W
   obtain⟨r,hr⟩:=ex (Lx (pk (f p)).a (pk (f x)).a);have hrl:r<0↔(pk (f p)).a<(pk (f x)).a:=hr▸TK
   have HRL:=qX hrl;rw[hr]at HC;generalize (pk (f p)).b=E at a0 HC;generalize (pk (f p)).h=F at a1 HC;generalize (pk (f p)).a=D at a2 HC;generalize (pk (f x)).b=sd at b0 HC;generalize (pk (f x)).h=K at b1 HC;generalize (pk (f x)).a=G at b2 HC;have L:=λl:Ï wr=>l.E a0
   have y1:=λl:Ï wr=>l.E a1
   have se:=λl:Ï wr=>l.E a2
   have y3:=λl:Ï wr=>l.E b0
   have r9:=λl:Ï wr=>l.E b1
   have y5:=λl:Ï wr=>l.E b2
   have hne:Nonempty (Ï wr):=⟨⟨wr,br⟩⟩
   clear hr hrl a0 a1 a2 b0 b1 b2;by_cases hless:r<0
   .
    have HT:=qX (HRL.o.1 hless);have hd:decide (r<0)=true:=by simpa using hless
    clear HRL;go_wp2_with fail;refine Dh kr kr ?_
    repeat (go_big_quiet_step (exact HC.o _))
    refine zv ?_
    rintro _⟨gq,rfl⟩;have H1:=qX (H.o.later gq.a);generalize gq.w=K at H1⊢;clear HC L y1 se y3 r9 y5 hne gq;clear hless hd;go_wp2
    go_roundg (j-(p+1))
    case measure=>omega
    case rel=>exact⟨p+1,j,nd,J,N,N,hjy,lr,.inr HT.o,HHi,H1⟩
   have HT:sE (Av pk (f x)<=Av pk (f p)):=by show Av pk (f x)<=Av pk (f p);have:¬(pk (f p)).a<(pk (f x)).a:=λh=>hless (HRL.o.2 h);unfold Av;omega
   have hd:decide (r<0)=false:=by simpa using hless
   clear HRL;go_wp2_with fail;refine Dh kr kr ?_
   repeat (go_big_quiet_step (exact HC.o _))
   refine zv ?_
   rintro _⟨gq,rfl⟩;have H1:=qX (H.o.later gq.a);generalize gq.w=K at H1⊢;clear HC L y1 se y3 r9 y5 hne gq;clear hless hd;go_wp2
   go_roundg (p-i)
   case measure=>omega
   case rel=>exact⟨i,p,J,nd,hmi,hip,N,lr,HLo,.inr HT.o,H1⟩
  have hltz:¬(i:Int)<(j:Int):=N;obtain rfl:i=j:=N;have HMg:sE (Ñ (Av pk) f (Ü f x (x+1) i) x y):=by
   have e:=HX.o;have h1:=I.o;have h2:=r7.o;have h3:=HLo.o;rw[e]at h1 h2 h3;exact wY N hjy h1 h2 h3 HHi.o
  obtain⟨z,l⟩:=ex (i-1);have j:(i:Int)-1=(z:Int):=N;have I:sE (i=z+1):=by show _=_;omega
  have hxz:x<=z:=oe HX.o
  have hzn:z<n:=N;have HS:sE (AY w0 b off n pk (Ü f x (x+1) (x+1)) wr):=by show AY _ _ _ _ _ _ _;rw[aK];exact H.o
  clear l hij hlt H;go_wp2_with fail;obtain⟨l,hW0⟩:∃W,W=wr:=⟨_,J⟩
  subst hW0;obtain⟨l,hgO⟩:∃z,z=gk:=⟨_,J⟩
  subst hgO;go_loopg[13] z (λgk2 l wr=>∃p:Nat,l=.q (p:Int)/\x<=p/\p<=z/\z-p<=gk2/\sE (AY w0 b off n pk (Ü f x (x+1) (p+1)) wr))
  case atStart=>exact⟨x,J,lr,hxz,N,HS⟩
  case round=>
   clear HS;obtain⟨p,rfl,hxp,hpz',hgk2,H⟩:=hrel;by_cases hlt:p<z
   .
    have hltz2:(p:Int)<(z:Int):=N;obtain⟨g,hg⟩:=ex (Ü f x (x+1) (p+1));obtain⟨q,hq⟩:=ex (p+1);have HG:sE (ů g p q=Ü f x (x+1) (q+1)):=by show _=_;rw[<-hg,<-hq];exact rL f hxp
    rw[hg]at H;have hpn:p<n:=N;have hqn:q<n:=N;have hpq:p≠q:=N;have r:IntKind.i64.wrap ((p:Int)+1)=(q:Int):=by rw[jQ];omega
    have wq':(p:Int)+1=(q:Int):=N;have hqz':q<=z:=N;have HQ:=qX hq;clear hg hq;have hpz:(p:Int)<(n:Int):=N;have hqz:(q:Int)<(n:Int):=N;have a0:=H.o.row.e p hpn;have a1:=H.o.row.a p hpn;have a2:=H.o.row.k p hpn;have b0:=H.o.row.e q hqn;have b1:=H.o.row.a q hqn;have b2:=H.o.row.k q hqn;have r9:=H.o.row.d (off+p*3);have r7:=H.o.row.d (off+p*3+1);have L:=H.o.row.d (off+p*3+2);have B:=H.o.row.d (off+q*3);have r8:=H.o.row.d (off+q*3+1);have se:=H.o.row.d (off+q*3+2);let O:∃V,sE ((Eh (Eh wr b (off+p*3) (pk (g q))) b (off+q*3) (pk (g p))).drew=V)/\sE (AY w0 b off n pk (Ü f x (x+1) (q+1)) V):=⟨_,J,by show AY ..;rw[<-HG.o];exact(H.o.l hpn hqn).drew⟩
    have k0:(Eh wr b (off+p*3) (pk (g q))).cell? (C b (off+q*3))=A (.q (pk (g q)).b):=by rw[ET _ _ _ _ N];exact b0
    let k1:(Eh wr b (off+p*3) (pk (g q))).cell? (C b (off+q*3+1))=A (.q (pk (g q)).h):=by rw[ET _ _ _ _ N];exact b1
    let k2:(Eh wr b (off+p*3) (pk (g q))).cell? (C b (off+q*3+2))=A (.q (pk (g q)).a):=by rw[ET _ _ _ _ N];exact b2
    obtain⟨V,HV,HVS⟩:=O;unfold Eh at HV k0 k1 k2;obtain⟨E,hu0⟩:=ex ((pk (g p)).b);obtain⟨F,hu1⟩:=ex ((pk (g p)).h);obtain⟨D,hu2⟩:=ex ((pk (g p)).a);obtain⟨sd,hv0⟩:=ex ((pk (g q)).b);obtain⟨K,hv1⟩:=ex ((pk (g q)).h);obtain⟨G,hv2⟩:=ex ((pk (g q)).a);rw[hu0]at a0 HV;rw[hu1]at a1 HV;rw[hu2]at a2 HV;rw[hv0]at b0 HV k0 k1 k2;rw[hv1]at b1 HV k0 k1 k2;rw[hv2]at b2 HV k0 k1 k2;clear hu0 hu1 hu2 hv0 hv1 hv2;clear H HG;go_wp2
    go_region;rw[HV.o];clear HV a0 a1 a2 b0 b1 b2 r9 r7 L B r8 se k0 k1 k2;go_wp2
    go_roundg (z-q)
    case measure=>have:=HQ.o;omega
    case rel=>exact⟨q,nd,oe HQ.o,hqz',lr,HVS⟩
   let hltz2:¬(p:Int)<(z:Int):=N;obtain rfl:p=z:=N;have j:sE (AY w0 b off n pk (Ü f x (x+1) i) wr):=by show AY ..;rw[I.o];exact H.o
   clear H;go_wp2_with fail
   (try simp only[Exit.inBlock,Exit.then])
   refine Ę (results_none J ..) J ?_
   exact⟨J,_,HMg.o,j.o⟩
def iO (w0:M) b off n cap pk f x m y(w:M)(h:AY w0 b off n pk f w)(hxm:x+1<m)(hy1:y=m+1)(hy:y<=n)(hn:n<=1000)(hr1:DC (Av pk) f x m)(_:DC (Av pk) f m y)(hl:õ f x m y):s8 sr 157 #[.sl b off n cap,.q (x:Int),.q (m:Int),.q (y:Int),.func (.func 91) #[] #[]] w λe w'=>e=.r (.t #[])/\∃g,Ñ (Av pk) f g x y/\AY w0 b off n pk g w':=by
 have l:=qX h;have HR:=qX hr1;have HL:sE (õ f x m (m+1)):=by rw[hy1]at hl;exact hl
 have Q:=qX hy1;have hcall:=Tryz.j;have wd1:((m:Int)-(x:Int)==1)=false:=by simp;omega
 have wd2:(y:Int)-(m:Int)=1:=N;have hmn:m<n:=N;clear h hr1 hl hy1;go_in
 go_wp2_with fail;go_loopg[14,15,16] y (λgk iv jv hv wr=>∃(i j:Nat),iv=.q (i:Int)/\jv=.q (j:Int)/\x<=i/\i<=j/\j<=m/\j-i<=gk/\sE (i=x\/Av pk (f (i-1))<=Av pk (f m))/\sE (j=m\/Av pk (f m)<Av pk (f j))/\sE (AY w0 b off n pk f wr))
 case atStart=>exact⟨x,m,rfl,rfl,lr,N,lr,by have:=Q.o;omega,.inl J,.inl J,l⟩
 case round=>
  clear l;obtain⟨i,j,rfl,rfl,hmi,hij,hjy,hgk,HLo,HHi,H⟩:=hrel;by_cases hlt:i<j
  .
   have hltz:(i:Int)<(j:Int):=N;obtain⟨q,V⟩:=ex ((i+j)/2);have wp:((i:Int)+(j:Int))/2=(q:Int):=N;have hip:i<=q:=N;have hpj:q<j:=N;have hpn:m<n:=hmn;have hqn:q<n:=N;clear V;have a0:=H.o.row.e m hpn;have a1:=H.o.row.a m hpn;have a2:=H.o.row.k m hpn;have b0:=H.o.row.e q hqn;have b1:=H.o.row.a q hqn;have b2:=H.o.row.k q hqn;have hpz:(m:Int)<(n:Int):=N;have hqz:(q:Int)<(n:Int):=N;have HC:sE (∀l:Ï wr,Ë 91 #[.agg #[.q (pk (f m)).b,.q (pk (f m)).h,.q (pk (f m)).a],.agg #[.q (pk (f q)).b,.q (pk (f q)).h,.q (pk (f q)).a]] l.w λe w'=>e=.r (.q (Lx (pk (f m)).a (pk (f q)).a))/\∃l':Ï wr,w'=l'.w):=Ï.j λW _=>Lg _ _ W
   obtain⟨r,z⟩:=ex (Lx (pk (f m)).a (pk (f q)).a);have hrl:r<0↔(pk (f m)).a<(pk (f q)).a:=by rw[<-z];exact TK
   have HRL:=qX hrl;rw[z]at HC;generalize (pk (f m)).b=u0 at a0 HC;generalize (pk (f m)).h=u1 at a1 HC;generalize (pk (f m)).a=u2 at a2 HC;generalize (pk (f q)).b=v0 at b0 HC;generalize (pk (f q)).h=v1 at b1 HC;generalize (pk (f q)).a=v2 at b2 HC;have y0:=λl:Ï wr=>l.E a0
   have V:=λl:Ï wr=>l.E a1
   have y2:=λl:Ï wr=>l.E a2
   have W:=λl:Ï wr=>l.E b0
   have y4:=λl:Ï wr=>l.E b1
   have y5:=λl:Ï wr=>l.E b2
   have hne:Nonempty (Ï wr):=⟨⟨wr,br⟩⟩
   clear z hrl a0 a1 a2 b0 b1 b2;by_cases hless:r<0
   .
    have R:=qX (HRL.o.1 hless);have S:decide (r<0)=true:=by simpa using hless
    clear HRL;go_wp2_with fail;refine Dh kr kr ?_
    repeat (go_big_quiet_step (exact HC.o _))
    refine zv ?_
    rintro _⟨gq,rfl⟩;have H1:=qX (H.o.later gq.a);generalize gq.w=W1 at H1⊢;clear HC y0 V y2 W y4 y5 hne gq;clear hless S;go_wp2
    go_roundg (q-i)
    case measure=>omega
    case rel=>exact⟨i,q,J,by go_num,hmi,hip,N,lr,HLo,.inr R.o,H1⟩
   have R:sE (Av pk (f q)<=Av pk (f m)):=by show Av pk (f q)<=Av pk (f m);have:¬(pk (f m)).a<(pk (f q)).a:=λh=>hless (HRL.o.2 h);unfold Av;omega
   have S:decide (r<0)=false:=by simpa using hless
   clear HRL;go_wp2_with fail;refine Dh kr kr ?_
   repeat (go_big_quiet_step (exact HC.o _))
   refine zv ?_
   rintro _⟨gq,rfl⟩;have H1:=qX (H.o.later gq.a);generalize gq.w=W1 at H1⊢;clear HC y0 V y2 W y4 y5 hne gq;clear hless S;go_wp2
   go_roundg (j-(q+1))
   case measure=>omega
   case rel=>exact⟨q+1,j,by go_num,J,N,N,hjy,lr,.inr R.o,HHi,H1⟩
  have hltz:¬(i:Int)<(j:Int):=N;obtain rfl:i=j:=N;have HMg:sE (Ñ (Av pk) f (Ü f i m (m+1)) x y):=by
   have e:=Q.o;rw[e];exact nC hmi hjy HR.o HL.o HLo.o HHi.o
  have j:sE (AY w0 b off n pk (Ü f m m (m+1)) wr):=by show AY _ _ _ _ _ _ _;rw[Yq];exact H.o
  clear hij hlt H;go_wp2_with fail;obtain⟨W0,hW0⟩:∃W,W=wr:=⟨_,J⟩
  subst hW0;obtain⟨gO,hgO⟩:∃z,z=gk:=⟨_,J⟩
  subst hgO;go_loopg[17] m (λgk2 kv wr=>∃p:Nat,kv=.q (p:Int)/\i<=p/\p<=m/\p-i<=gk2/\sE (AY w0 b off n pk (Ü f p m (m+1)) wr))
  case atStart=>exact⟨m,J,hjy,lr,N,j⟩
  case round=>
   clear j;obtain⟨p,rfl,hxp,hpz',hgk2,H⟩:=hrel;by_cases hlt:i<p
   .
    have hltz2:(i:Int)<(p:Int):=N;obtain⟨g,j⟩:=ex (Ü f p m (m+1));obtain⟨q,V⟩:=ex (p-1);have W:sE (p=q+1):=by show _=_;omega
    have Q:sE (ů g p q=Ü f q m (m+1)):=by show _=_;rw[<-j,W.o];exact bu f N
    rw[j]at H;have hpn:p<n:=N;have hqn:q<n:=N;have hpq:p≠q:=N;have wq:IntKind.i64.wrap ((p:Int)-1)=(q:Int):=by rw[jQ];omega
    have wq':(p:Int)-1=(q:Int):=N;clear j V;have hpz:(p:Int)<(n:Int):=N;have hqz:(q:Int)<(n:Int):=N;have a0:=H.o.row.e p hpn;have a1:=H.o.row.a p hpn;have a2:=H.o.row.k p hpn;have b0:=H.o.row.e q hqn;have b1:=H.o.row.a q hqn;have b2:=H.o.row.k q hqn;have f0:=H.o.row.d (off+p*3);have f1:=H.o.row.d (off+p*3+1);have f2:=H.o.row.d (off+p*3+2);have g0:=H.o.row.d (off+q*3);have g1:=H.o.row.d (off+q*3+1);have g2:=H.o.row.d (off+q*3+2);have H2:∃V,sE ((Eh (Eh wr b (off+p*3) (pk (g q))) b (off+q*3) (pk (g p))).drew=V)/\sE (AY w0 b off n pk (Ü f q m (m+1)) V):=⟨_,J,by show AY _ _ _ _ _ _ _;rw[<-Q.o];exact(H.o.l hpn hqn).drew⟩
    have k0:(Eh wr b (off+p*3) (pk (g q))).cell? (C b (off+q*3))=A (.q (pk (g q)).b):=by rw[ET _ _ _ _ N];exact b0
    have z:(Eh wr b (off+p*3) (pk (g q))).cell? (C b (off+q*3+1))=A (.q (pk (g q)).h):=by rw[ET _ _ _ _ N];exact b1
    have k2:(Eh wr b (off+p*3) (pk (g q))).cell? (C b (off+q*3+2))=A (.q (pk (g q)).a):=by rw[ET _ _ _ _ N];exact b2
    obtain⟨V,HV,HVS⟩:=H2;unfold Eh at HV k0 z k2;obtain⟨u0,hu0⟩:=ex ((pk (g p)).b);obtain⟨u1,hu1⟩:=ex ((pk (g p)).h);obtain⟨u2,hu2⟩:=ex ((pk (g p)).a);obtain⟨v0,hv0⟩:=ex ((pk (g q)).b);obtain⟨v1,hv1⟩:=ex ((pk (g q)).h);obtain⟨v2,hv2⟩:=ex ((pk (g q)).a);rw[hu0]at a0 HV;rw[hu1]at a1 HV;rw[hu2]at a2 HV;rw[hv0]at b0 HV k0 z k2;rw[hv1]at b1 HV k0 z k2;rw[hv2]at b2 HV k0 z k2;clear hu0 hu1 hu2 hv0 hv1 hv2;clear H Q;go_wp2
    go_region;rw[HV.o];clear HV a0 a1 a2 b0 b1 b2 f0 f1 f2 g0 g1 g2 k0 z k2;go_wp2
    go_roundg (q-i)
    case measure=>have:=W.o;omega
    case rel=>exact⟨q,by go_num,by have:=W.o;omega,by have:=W.o;omega,lr,HVS⟩
   have hltz2:¬(i:Int)<(p:Int):=N;obtain rfl:p=i:=N;go_wp2_with fail
   (try simp only[Exit.inBlock,Exit.then])
   refine Ę (results_none J _ _ _) J ?_
   exact⟨J,_,HMg.o,H.o⟩
def rP (w0:M) b off n cap E f x m y(w:M)(h:AY w0 b off n E f w)(df:x+1<m)(c4:m+1<y) G(cR:(x+y)/2=G)(bx:(∀(g)(x' m' al)(W:M),al-x'<y-x->AY w0 b off n E g W->x'<m'->m'<al->al<=n->DC (Av E) g x' m'->DC (Av E) g m' al->õ g x' m' al->Ë 157 #[.sl b off n cap,.q (x':Int),.q (m':Int),.q (al:Int),.func (.func 91) #[] #[]] W λe w'=>e=.r (.t #[])/\∃g',Ñ (Av E) g g' x' al/\AY w0 b off n E g' w'))(cE:y<=n)(cX:n<=1000)(bK:DC (Av E) f x m)(bt:DC (Av E) f m y)(b7:õ f x m y):s8 sr 157 #[.sl b off n cap,.q (x:Int),.q (m:Int),.q (y:Int),.func (.func 91) #[] #[]] w λe w'=>e=.r (.t #[])/\∃g,Ñ (Av E) f g x y/\AY w0 b off n E g w':=by
 have c:=qX h;have b2:=qX bK;have u:=qX bt;have b8:=qX b7;have a6:=qX bx;have c':=Tryz.j;have c7:((m:Int)-(x:Int)==1)=false:=by simp;omega
 have dt:((y:Int)-(m:Int)==1)=false:=by simp;omega
 have da:((x:Int)+(y:Int))/2=(G:Int):=N;have dy:x<G:=N;have dg:G<y:=N;have dB:G+G<=x+y:=N;have de:x+y<=G+G+1:=N;obtain⟨r9,ch⟩:=ex (G+m);have dj:(G:Int)+(m:Int)=(r9:Int):=N;obtain⟨P,a⟩:=ex (r9-1);have dv:(r9:Int)-1=(P:Int):=N;have b':sE (G+m=r9/\r9=P+1):=⟨ch,N⟩
 obtain⟨Z,ac,bg,db,o⟩:∃Z ac:Nat,sE ((m<=G/\Z=x/\ac=m)\/(G<m/\Z+y=r9/\ac=G))/\x<=Z/\Z<=ac:=by
  by_cases d:m<=G
  . exact⟨x,m,.inl ⟨d,J,J⟩,N,N⟩
  exact⟨r9-y,G,.inr ⟨N,N,J⟩,N,N⟩
 obtain cg|cg:=bg.o
 all_goals
  first
  |have d:¬(G:Int)<(m:Int):=N
  |
   have d:(G:Int)<(m:Int):=N;have dd:(r9:Int)-(y:Int)=(Z:Int):=N
  clear h bK bt b7 cR ch a bx cg;go_in
  go_wp2_with fail;go_loopg[20,21,23] y (λd cV a dr wr=>∃(s t:Nat),cV=.q (s:Int)/\a=.q (t:Int)/\Z<=s/\s<=t/\t<=ac/\t-s<=d/\sE (s=Z\/Av E (f (s-1))<=Av E (f (r9-s)))/\sE (t=ac\/Av E (f (P-t))<Av E (f t))/\sE (AY w0 b off n E f wr))
  case atStart=>
   have a5:=bg.o;exact⟨Z,ac,by first|rfl|rw[show Z=x by omega],by first|rw[show ac=m by omega]|rw[show ac=G by omega],lr,o,lr,N,.inl J,.inl J,c⟩
  case round=>
   clear c;obtain⟨s,t,rfl,rfl,c,cA,o,du,a9,a0,H⟩:=hrel;have v:=b'.o;have a5:=bg.o;by_cases cv:s<t
   .
    have a:(s:Int)<(t:Int):=N;obtain⟨q,i⟩:=ex ((s+t)/2);have wc:((s:Int)+(t:Int))/2=(q:Int):=N;have S:s<=q:=N;have dl:q<t:=N;obtain⟨p,d⟩:=ex (P-q);have wp:IntKind.i64.wrap ((P:Int)-(q:Int))=(p:Int):=by rw[jQ];omega
    have bq:p<n:=N;have bk:q<n:=N;have a:=qX d;clear i d;have bf:=H.o.row.e p bq;have a4:=H.o.row.a p bq;have bh:=H.o.row.k p bq;have aN:=H.o.row.e q bk;have a1:=H.o.row.a q bk;have bn:=H.o.row.k q bk;have dk:(p:Int)<(n:Int):=N;have c6:(q:Int)<(n:Int):=N;have Y:sE (∀l:Ï wr,Ë 91 #[.agg #[.q (E (f p)).b,.q (E (f p)).h,.q (E (f p)).a],.agg #[.q (E (f q)).b,.q (E (f q)).h,.q (E (f q)).a]] l.w λe w'=>e=.r (.q (Lx (E (f p)).a (E (f q)).a))/\∃d:Ï wr,w'=d.w):=Ï.j λW _=>Lg _ _ W
    obtain⟨r,bm⟩:=ex (Lx (E (f p)).a (E (f q)).a);have d:r<0↔(E (f p)).a<(E (f q)).a:=by rw[<-bm];exact TK
    have a2:=qX d;rw[bm]at Y;generalize (E (f p)).b=u0 at bf Y;generalize (E (f p)).h=u1 at a4 Y;generalize (E (f p)).a=u2 at bh Y;generalize (E (f q)).b=c9 at aN Y;generalize (E (f q)).h=c5 at a1 Y;generalize (E (f q)).a=dn at bn Y;have sd:=λl:Ï wr=>l.E bf
    have F:=λl:Ï wr=>l.E a4
    have r7:=λl:Ï wr=>l.E bh
    have T:=λl:Ï wr=>l.E aN
    have cW:=λl:Ï wr=>l.E a1
    have cS:=λl:Ï wr=>l.E bn
    have ck:Nonempty (Ï wr):=⟨⟨wr,br⟩⟩
    clear bm d bf a4 bh aN a1 bn;clear v a5;by_cases aE:r<0
    all_goals
     first
     |
      have bj:sE (Av E (f (P-q))<Av E (f q)):=by show Av E (f (P-q))<Av E (f q);rw[a.o];exact a2.o.1 aE
      have cb:decide (r<0)=true:=by simpa using aE
     |
      have bj:sE (Av E (f (q+1-1))<=Av E (f (r9-(q+1)))):=by show Av E (f (q+1-1))<=Av E (f (r9-(q+1)));have V:¬(E (f p)).a<(E (f q)).a:=λh=>absurd (a2.o.2 h) N;have O:=a.o;have U:=b'.o;rw[show r9-(q+1)=p by omega,l3];unfold Av;omega
      have cb:decide (r<0)=false:=by simpa using aE
     clear a2;go_wp2_with fail;refine Dh kr kr ?_
     repeat (go_big_quiet_step (exact Y.o _))
     refine zv ?_
     rintro _⟨gq,rfl⟩;have ab:=qX (H.o.later gq.a);generalize gq.w=aI at ab⊢;clear Y sd F r7 T cW cS ck gq;clear aE cb;go_wp2_with fail
    .
     go_roundg (q-s)
     case measure=>omega
     case rel=>exact⟨s,q,J,by go_num,c,S,N,lr,a9,.inr bj.o,ab⟩
    go_roundg (t-(q+1))
    case measure=>omega
    case rel=>exact⟨q+1,t,by go_num,J,N,N,o,lr,.inr bj.o,a0,ab⟩
   have a:¬(s:Int)<(t:Int):=N;obtain rfl:s=t:=N;obtain⟨e,d⟩:=ex (r9-s);have c8:(r9:Int)-(s:Int)=(e:Int):=N;have ak:UU (Av E) f x m y G s e:=by
    have V:=a9.o;have O:=a0.o;rw[d]at V;refine⟨N,N,N,N,N,λU aa=>?_,λU aa=>?_⟩
    .
     obtain O|O:=O
     . omega
     rwa[show P-s=e-1 by omega]at O
    obtain V|V:=V
    . omega
    exact V
   obtain⟨⟨av,aC,aq,aw⟩,bp,bc,bb⟩:=ak.parts b2.o u.o b8.o;have cp:=ak.k;have co:=ak.i;have cL:=ak.h;have cP:=ak.j;obtain⟨-,-,dq,dp⟩:=ak.d;obtain⟨k,an⟩:=ex (Ü f s m e);rw[an]at av aC aq aw bp bc bb;have aL:sE (s<m->m<e->Ë 166 #[.sl b off n cap,.q (s:Int),.q (m:Int),.q (e:Int),.func (.func 91) #[] #[]] wr λe w'=>e=.r (.t #[])/\AY w0 b off n E k w'):=λV O=>by rw[<-an];exact rR w0 b off n cap E _ f s m e wr H.o V O N cX
   have bl:sE (¬(s<m/\m<e)->AY w0 b off n E k wr):=λV=>by
    rw[<-an];obtain O|O:=nR s m
    . obtain rfl:m=e:=N;rw[aK];exact H.o
    obtain rfl:s=m:=N;rw[Yq];exact H.o
   have cn:sE (∀W,AY w0 b off n E k W->x<s->s<G->Ë 157 #[.sl b off n cap,.q (x:Int),.q (s:Int),.q (G:Int),.func (.func 91) #[] #[]] W λe w'=>e=.r (.t #[])/\∃g',Ñ (Av E) k g' x G/\AY w0 b off n E g' w'):=λW hW V O=>a6.o k x s G W N hW V O N av aC bp
   have cC:sE (¬(x<s/\s<G)->Ñ (Av E) k k x G):=λV=>by
    refine⟨JL.I _ _ _,?_⟩;obtain O|O:=nR x s
    . obtain rfl:s=G:=N;exact av
    obtain rfl:s=x:=N;exact aC
   have cQ:sE (∀I W,Ñ (Av E) k I x G->AY w0 b off n E I W->G<e->e<y->Ë 157 #[.sl b off n cap,.q (G:Int),.q (e:Int),.q (y:Int),.func (.func 91) #[] #[]] W λe w'=>e=.r (.t #[])/\∃g',Ñ (Av E) I g' G y/\AY w0 b off n E g' w'):=λI W a7 hW V O=>by
    have ai:∀z,G<=z->I z=k z:=λz aW=>a7.1.p z (.inr aW)
    refine a6.o I G e y W N hW V O cE (λi j U aa aj=>?_) (λi j U aa aj=>?_) (λi j U aa aj z=>?_)
    . rw[ai i U,ai j N];exact aq i j U aa aj
    . rw[ai i N,ai j N];exact aw i j U aa aj
    rw[ai i U,ai j N];exact bc i j U aa aj z
   have cH:sE (∀I,Ñ (Av E) k I x G->¬(G<e/\e<y)->Ñ (Av E) I I G y):=λI a7 V=>by
    have ai:∀z,G<=z->I z=k z:=λz aW=>a7.1.p z (.inr aW)
    refine⟨JL.I _ _ _,λi j U aa aj=>?_⟩;rw[ai i U,ai j N];obtain O|O:=nR G e
    . obtain rfl:e=y:=N;exact aq i j U aa aj
    obtain rfl:e=G:=N;exact aw i j U aa aj
   have z:sE (∀I aG,Ñ (Av E) k I x G->Ñ (Av E) I aG G y->Ñ (Av E) f aG x y):=λI aG V O=>by
    have U:=iK N N V O bb;refine⟨JL.G ?_ U.1,U.2⟩;rw[<-an];exact(RF f cp co).q cL cP
   clear ak av aC aq aw bp bc bb an a6 b2 u b8 a9 a0 H d v cA cv a5 c o;have am:(s<m/\m<e)\/(s<m/\¬m<e)\/¬s<m:=N;obtain aB|aB|aB:=am
   all_goals
    first
    |
     have a8:(m:Int)<(e:Int):=N;have l:(s:Int)<(m:Int):=N;have Y:=qX (aL.o aB.1 aB.2);clear aL bl;go_wp2_with fail;refine Y.o.mono ?_
     rintro _ aI⟨rfl,V⟩;have ab:=qX V;clear V Y a8 l a
    |
     first
     |
      have a8:(s:Int)<(m:Int):=N;have l:¬(m:Int)<(e:Int):=N
     |have a8:¬(s:Int)<(m:Int):=N
     obtain⟨aI,a⟩:∃W,W=wr:=⟨_,J⟩
     subst a;have ab:=qX (bl.o N);clear aL bl
    have am:(x<s/\s<G)\/(x<s/\¬s<G)\/¬x<s:=N;obtain ax|ax|ax:=am
    all_goals
     first
     |
      have a3:(s:Int)<(G:Int):=N;have bv:(x:Int)<(s:Int):=N;have Y:=qX (cn.o aI ab.o ax.1 ax.2);clear ab;go_wp2_with fail;refine Y.o.mono ?_
      rintro _ bd⟨rfl,I,bw,O⟩;have ao:=qX bw;have be:=qX O;clear bw O Y a3 bv
     |
      first
      |
       have a3:(x:Int)<(s:Int):=N;have bv:¬(s:Int)<(G:Int):=N
      |have a3:¬(x:Int)<(s:Int):=N
      obtain⟨bd,hW2⟩:∃W,W=aI:=⟨_,J⟩
      subst hW2;obtain⟨I,ao,be⟩:∃I,sE (Ñ (Av E) k I x G)/\sE (AY w0 b off n E I bd):=⟨k,cC.o N,ab⟩
      clear ab
     have am:(G<e/\e<y)\/(G<e/\¬e<y)\/¬G<e:=N;obtain ap|ap|ap:=am
     all_goals
      first
      |
       have b0:(e:Int)<(y:Int):=N;have a:(G:Int)<(e:Int):=N;have Y:=qX (cQ.o _ _ ao.o be.o ap.1 ap.2);go_wp2_with fail;refine Y.o.mono ?_
       rintro _ w3⟨rfl,aG,j,U⟩;have b4:=qY (z.o _ _ ao.o j) U;clear j U Y
      |
       first
       |
        have b0:(G:Int)<(e:Int):=N;have a:¬(e:Int)<(y:Int):=N
       |have b0:¬(G:Int)<(e:Int):=N
       have b4:sE (Ñ (Av E) f I x y/\AY w0 b off n E I bd):=⟨z.o _ _ ao.o (cH.o _ ao.o N),be.o⟩
      go_wp2_with fail
      all_goals
       go_end0;exact⟨J,_,b4.o⟩
def SK (w0:M) b off n cap E(U:n<=1000):∀(d)(f)(x m y)(w:M),y-x<=d->AY w0 b off n E f w->x<m->m<y->y<=n->DC (Av E) f x m->DC (Av E) f m y->õ f x m y ->
  Ë 157 #[.sl b off n cap,.q (x:Int),.q (m:Int),.q (y:Int),.func (.func 91) #[] #[]] w λe w'=>e=.r (.t #[])/\∃g,Ñ (Av E) f g x y/\AY w0 b off n E g w'
 |0,f,x,m,y,w,Z,h,G,Y,O,I,V,l=>N
 |d+1,f,x,m,y,w,Z,h,G,Y,O,I,V,l=>by
  by_cases G:m=x+1
  exact bi w0 b _ n _ E f x m y w h G Y O U I V l
  by_cases G:y=m+1
  exact iO w0 b _ n _ E f x m y w h N G O U I V l
  have R:∀(g:Nat->Nat)(x' m' G:Nat)(W:M),G-x'<y-x->AY w0 b off n E g W->x'<m'->m'<G->G<=n->DC _ g x' m'->DC _ g m' G->õ g x' m' G->s8 _ _ #[.s (A ⟨b,_,_⟩) n cap,.int _ _,.int _ _,.int _ _,.func _ _ _] W λe w'=>e=.r (.t _)/\∃g',Ñ _ g g' x' G/\AY w0 b _ n E g' w':=λg x' m' G W P Q P Y S X Z T=>SK w0 b _ n _ E U d g x' m' G W N Q P Y S X Z T
  exact rP w0 b _ n _ E f x m y w h N N _ J R O U I V l
def oK (w0:M) b off n cap pk(w:M)(h:AY w0 b off n pk (λi=>i) w)(hn:n<=1000):s8 sr 131 #[.sl b off n cap,.q (n:Int),.func (.func 91) #[] #[]] w λe w'=>e=.r (.t #[])/\∃g,BD (Av pk) n ((List.range n).map g)/\AY w0 b off n pk g w':=by
 have HIns:sE (∀(f:Nat->Nat)(x y:Nat)(W:M),AY w0 b off n pk f W->x<=y->y<=n->(∀i,x<=i->f i=i)->Ë 156 #[.sl b off n cap,.q (x:Int),.q (y:Int),.func (.func 91) #[] #[]] W λe w'=>e=.r (.t #[])/\∃g,Ñ (Av pk) f g x y/\AY w0 b off n pk g w'):=λf x y W h1 h2 B h4=>ZY w0 b off n cap pk f x y W h1 h2 B hn (λi j k1 k2 k3=>by rw[h4 i k1,h4 j N];exact k2)
 have HSym:sE (∀(f:Nat ->Nat)(x m y:Nat)(W:M),AY w0 b off n pk f W ->x<m ->m<y ->y<= n ->C8 (Av pk) f x m ->C8 (Av pk) f m y ->Ë 157 #[.sl b off n cap,.q (x:Int),.q (m:Int),.q (y:Int),.func (.func 91) #[] #[]] W λe w'=>e=.r (.t #[])/\∃g,Ñ (Av pk) f g x y/\C8 (Av pk) g x y/\AY w0 b off n pk g w'):=λf x m y W h1 h2 B h4 h5 sd=>(SK w0 b off n cap pk hn (y - x) f x m y W lr h1 h2 B h4 h5.a sd.a ((λi j h1 h2 B h4=>by
   have:=h5.b i h1 h2;have:=sd.b j B h4;omega))).mono λ_ _⟨e1,g,e2,e3⟩=>⟨e1,g,e2,h5.p N N sd e2,e3⟩
 have H0:=qX h;clear h;go_in
 go_wp2_with fail;go_loopg[7,8] n (λgk P m wr=>∃(x:Nat)(g:Nat->Nat),P=.q (x:Int)/\m=.q ((x+20:Nat):Int)/\x<=n/\n-x<=gk/\sE (∀i,x<=i->g i=i)/\sE (GX (Av pk) g 20 n x)/\sE (AY w0 b off n pk g wr))
 case atStart=>exact⟨0,λi=>i,J,J,uD _,lr,λi _=>J,GX.c _ _ _,H0⟩
 case round=>
  clear H0;obtain⟨x,g,rfl,rfl,hxn,hgk,HId,HRo,H⟩:=hrel;obtain⟨y,hy⟩:=ex (x+20);have HY:=qX hy;rw[hy];by_cases hle:y<=n
  .
   have hlez:(y:Int)<=(n:Int):=N;have HC:=HIns.o g x y wr H.o N hle HId.o;have HC':=qX HC;obtain⟨z,R⟩:=ex (y+20);have wy:(y:Int)+20=(z:Int):=N;have HZ:=qX R;clear R;clear HC H hy;go_wp2_with fail;refine HC'.o.mono ?_
   rintro _ w1⟨rfl,g',hM,h1⟩;have H1:=qX h1;have HId':sE (∀i,y<=i->g' i=i):=λi hi=>by rw[hM.1.p i (.inr hi)];exact HId.o i (by have:=HY.o;omega)
   have HRo':sE (GX (Av pk) g' 20 n y):=by
    have e:=HY.o;show GX _ _ _ _ _
    rw[<-e];refine HRo.o.j (λi hi=>hM.1.p i (.inl hi)) ?_
    rw[show min (x+20) n=y by omega];exact C8.c (λi h2 _=>HId.o i h2) hM
   clear h1 hM HC';go_wp2
   go_roundg (n-y)
   case measure=>have:=HY.o;omega
   case rel=>exact⟨y,g',J,by rw[HZ.o],hle,lr,HId',HRo',H1⟩
  have hlez:¬(y:Int)<=(n:Int):=N;have HC:=HIns.o g x n wr H.o hxn lr HId.o;have HC':=qX HC;clear HC H hy;go_wp2_with fail;refine HC'.o.mono ?_
  rintro _ w1⟨rfl,g',hM,h1⟩;have H1:=qX h1;have HIn:sE (Dj (Av pk) g' 20 n 0):=HRo.o.last (λi hi=>hM.1.p i (.inl hi)) (by have:=HY.o;omega) (λ_=>C8.c (λi h2 _=>HId.o i h2) hM);clear h1 hM HC' HRo HId HIns;go_wp2_with fail;obtain⟨gO,hgO⟩:∃z,z=gk:=⟨_,J⟩
  subst hgO;go_loopg[6,7,8,9] n (λgk2 sv P m mv wr=>∃(B:Nat)(g:Nat->Nat),sv=.q (B:Int)/\20<=B/\B<=2000/\n-B<=gk2/\sE (Dj (Av pk) g B n 0)/\sE (AY w0 b off n pk g wr))
  case atStart=>exact⟨20,g',J,lr,N,N,HIn,H1⟩
  case round=>
   clear HIn H1;obtain⟨B,g,rfl,hB20,hB2,hgk2,HIn,H⟩:=hrel;by_cases hBn:B<n
   .
    have hBz:(B:Int)<(n:Int):=N;have wB:2*(B:Int)=((2*B:Nat):Int):=N;obtain⟨sd,f⟩:=ex (2*B);have HCB:=qX f;rw[f]at wB;clear f;go_wp2_with fail;obtain⟨gP,hgP⟩:∃z,z=gk:=⟨_,J⟩
    subst hgP;obtain⟨W0,hW0⟩:∃W,W=wr:=⟨_,J⟩
    subst hW0;go_loopg[7,8] n (λgk3 P m wr=>∃(x:Nat)(g:Nat->Nat),P=.q (x:Int)/\m=.q ((x+sd:Nat):Int)/\x<=n/\n-x<=gk3/\sE (Dj (Av pk) g B n x)/\sE (GX (Av pk) g sd n x)/\sE (AY w0 b off n pk g wr))
    case atStart=>exact⟨0,g,J,by rw[Ă],uD _,lr,HIn,GX.c _ _ _,H⟩
    case round=>
     clear H HIn;obtain⟨x,g,rfl,rfl,hxn,hgk3,HIn,HRo,H⟩:=hrel;obtain⟨y,hy⟩:=ex (x+sd);obtain⟨m,W⟩:=ex (x+B);have HY:sE (x+sd=y/\x+B=m/\m+B=y):=⟨hy,W,by have:=HCB.o;omega⟩
     have wm:(x:Int)+(B:Int)=(m:Int):=N;rw[hy];by_cases hle:y<=n
     .
      have hlez:(y:Int)<=(n:Int):=N;have P:C8 (Av pk) g x m:=by
       have:=HIn.o.first (by have:=HCB.o;omega);rwa[show min (x+B) n=m by have:=HCB.o;omega]at this
      have Q:C8 (Av pk) g m y:=by
       have:=HIn.o.rest.first (by have:=HCB.o;omega);rwa[show min (x+B+B) n=y by have:=HCB.o;omega,W]at this
      have HC:=HSym.o g x m y wr H.o (by have:=HCB.o;omega) (by have:=HCB.o;omega) hle P Q;have HC':=qX HC;obtain⟨z,R⟩:=ex (y+sd);have wy:(y:Int)+(sd:Int)=(z:Int):=N;have HZ:=qX R;clear R;clear HC H hy W P Q;go_wp2_with fail;refine HC'.o.mono ?_
      rintro _ w2⟨rfl,g',hM,z,h1⟩;have H1:=qX h1;have HIn':sE (Dj (Av pk) g' B n y):=by
       have h2:=HIn.o.rest.rest;rw[show x+B+B=y by have:=HY.o;omega]at h2;exact h2.j λi hi=>hM.1.p i (.inr hi)
      have HRo':sE (GX (Av pk) g' sd n y):=by
       have e:=HY.o.1;show GX _ _ _ _ _
       rw[<-e];refine HRo.o.j (λi hi=>hM.1.p i (.inl hi)) ?_
       rw[show min (x+sd) n=y by omega];exact z
      clear h1 hM z HC' HIn HRo;go_wp2
      go_roundg (n-y)
      case measure=>have:=HY.o;have:=HCB.o;omega
      case rel=>exact⟨y,g',J,by rw[HZ.o],hle,lr,HIn',HRo',H1⟩
     have hlez:¬(y:Int)<=(n:Int):=N;have wC:(B:Int)*2=(sd:Int):=by have:=HCB.o;omega
     by_cases hmn:m<n
     .
      have hmz:(m:Int)<(n:Int):=N;have P:C8 (Av pk) g x m:=by
       have:=HIn.o.first (by have:=HCB.o;omega);rwa[show min (x+B) n=m by have:=HCB.o;omega]at this
      have Q:C8 (Av pk) g m n:=by
       have:=HIn.o.rest.first (by have:=HCB.o;omega);rwa[show min (x+B+B) n=n by have:=HCB.o;omega,W]at this
      have HC:=HSym.o g x m n wr H.o (by have:=HCB.o;omega) hmn lr P Q;have HC':=qX HC;clear HC H hy W P Q;go_wp2_with fail;refine HC'.o.mono ?_
      rintro _ w2⟨rfl,g',hM,z,h1⟩;have H1:=qX h1;have HIn':sE (Dj (Av pk) g' sd n 0):=HRo.o.last (λi hi=>hM.1.p i (.inl hi)) (by have:=HY.o;omega) (λ_=>z);clear h1 hM z HC' HIn HRo;go_wp2
      go_roundg (n-sd)
      case measure=>have:=HCB.o;omega
      case rel=>exact⟨sd,g',by go_num,by have:=HCB.o;omega,by have:=HCB.o;omega,lr,HIn',H1⟩
     have hmz:¬(m:Int)<(n:Int):=N;have HIn':sE (Dj (Av pk) g sd n 0):=HRo.o.last (λi _=>rfl) (by have:=HY.o;omega) (λhx=>by
      have:=HIn.o.first hx;rwa[show min (x+B) n=n by have:=HY.o;omega]at this)
     clear hy W HIn HRo;go_wp2
     go_roundg (n-sd)
     case measure=>have:=HCB.o;omega
     case rel=>exact⟨sd,g,by go_num,by have:=HCB.o;omega,by have:=HCB.o;omega,lr,HIn',H⟩
   have hBz:¬(B:Int)<(n:Int):=N;have HO:=qX (HIn.o.l N);clear HIn;go_wp2
   go_end0;exact⟨J,g,HO.o,H.o⟩
def WE (w0:M) b off n cap E(w:M)(h:AY w0 b off n E (λi=>i) w)(V:n<=1000):s8 sr 90 #[.sl b off n cap,.func (.func 91) #[] #[]] w λe w'=>e=.r (.t #[])/\∃g,BD (Av E) n ((List.range n).map g)/\AY w0 b off n E g w':=by
 have U:=qX (oK w0 b off n cap E w h V);clear h;go_in
 go_wp2_with fail;refine U.o.mono ?_
 rintro _ G⟨rfl,g,I,G⟩;have O:=qY I G;clear I G;go_wp2
 go_end0;exact⟨J,g,O.o⟩
structure Rb where
 b:Int
 d:Int
 j:Int
 a:Int
 last:Int
def Rb.e (m:Rb)(t:Int):=if m.d=0\/m.j=1000*m.b then m.j else if (1000*m.b-m.j)/m.d<t-m.a then 1000*m.b else m.j+(t-m.a)*m.d
def Rb.g (m:Rb)(t n:Int):Rb:=if m.e t<1000*n then⟨m.b,m.d,m.j,m.a,t⟩else⟨m.b,m.d,m.e t-1000*n,t,t⟩
def Rb.i (m:Rb)(t n:Int):=
 if m.b<n then -1
 else if 1000*n-m.e t<=0 then t
 else if m.d=0 then -1
 else if 1099511627776<t+(if (1000*n-m.e t)/m.d*m.d<1000*n-m.e t then(1000*n-m.e t)/m.d+1 else(1000*n-m.e t)/m.d)then -1
 else t+(if (1000*n-m.e t)/m.d*m.d<1000*n-m.e t then(1000*n-m.e t)/m.d+1 else(1000*n-m.e t)/m.d)
def QL (p:Int×Int):Rb:=⟨p.1,p.2,1000*p.1,0,0⟩
structure ě (b:Bk)(m:Rb):Prop where
 h:b.h=1000*m.b
 d:b.d=m.d
 last:m.last=b.last
 p:0<=m.a
 a:m.a<=m.last
 l:0<=m.j
 k:m.j<=1000*m.b
 j:b.j=min b.h (m.j+m.d*(m.last-m.a))
def wZ p(h:Dp p.1 p.2=true):ě (Js p) (QL p):=by
 obtain⟨a,b,c,d⟩:=BJ h;constructor<;>simp[Js,QL]<;>omega
def ě.e{b m}(h:ě b m)(U:b.r){t}(an:b.last<=t):m.e t=b.e t:=by
 have k:=h.h;have V:=h.d;have I:=h.last;have aj:=h.j;have ab:=h.a;have k:=h.k;have ak:=U.r0;have k:=Hq m.d t m.last m.a;have ai:=Ŗ (show 0<=m.d by omega) (show 0<=t-m.last by omega);have k:=Ŗ (show 0<=m.d by omega) (show 0<=m.last-m.a by omega);have G:b.e t=min b.h (m.j+m.d*(t-m.a)):=by
  unfold Bk.e;rw[V,<-I];omega
 rw[G];unfold Rb.e;split
 .
  rename_i E
  obtain E|E:=E
  rw[E];omega
  omega
 rename_i E
 have O:0<m.d:=N;have am:=mc (1000*m.b-m.j) m.d;have Y:=Lq (1000*m.b-m.j) (show m.d≠0 by omega);have Z:=IA (1000*m.b-m.j) O;generalize (1000*m.b-m.j)/m.d=k at*;split
 .
  rename_i E
  have:=kh (show k+1<=t-m.a by omega) (show 0<=m.d by omega);rw[mj]at this;omega
 rename_i E
 have:=kh (show t-m.a<=k by omega) (show 0<=m.d by omega);rw[kY (t-m.a) m.d];omega
def ě.g{b m}(h:ě b m)(E:b.r){t n}(O:b.last<=t)(ak:1<=n):ě (b.g t n) (m.g t n):=by
 have e:=h.e E O;have I:=h.h;have G:=h.d;have V:=h.last;have U:=h.a;have Z:=E.l0;have Y:=E.lev_bd O;have U:=h.j;unfold Rb.g Bk.g;rw[e];by_cases U:n*1000<=b.e t
 rw[Æ U,Ä N];exact⟨I,G,J,by simp;omega,Ā _,by simp;omega,by simp;omega,by simp;omega⟩
 rw[Ä U,Æ N];refine⟨I,G,J,h.p,by simp;omega,h.l,h.k,?_⟩;show b.e t=min b.h (m.j+m.d*(t-m.a))
 have e:=E.r0;have e:=Hq m.d t m.last m.a;have e:=Ŗ (show 0<=m.d by omega) (show 0<=t-m.last by omega);unfold Bk.e;rw[G,<-V];omega
def yN{r x:Int}(O:0<r):(if x/r*r<x then x/r+1 else x/r)=(x+r-1)/r:=by
 have U:=Zu (r:=r) (x:=x) O;have Z:=mc x r;have V:=Lq x (show r≠0 by omega);have Y:=IA x O;rw[kY (x/r) r];generalize x/r=k at*;generalize (x+r-1)/r=u at*;have E:=λa c h=>by
  have:=kh (show a+1<=c by omega) (show 0<=r by omega);rwa[mj,Hv]at this
 split
 .
  by_cases I:u<k+1
  have:=E u (k+1) I;rw[mj,Hv]at this;omega
  by_cases G:k+1<u
  have:=E (k+1) u G;rw[mj,Hv]at this;omega
  omega
 by_cases I:u<k
 have:=E u k I;omega
 by_cases G:k<u
 have:=E k u G;omega
 omega
def ě.i{b m}(h:ě b m)(E:b.r){t n}(U:b.last<=t):m.i t n=match b.i t n with|some T=>T|none=>-1:=by
 have e:=h.e E U;have Z:=E.lev_bd U;have G:=h.h;have Y:=h.d;unfold Rb.i Bk.i;rw[e];by_cases O:n*1000<=b.e t
 rw[Ä N,Æ N,Æ O]
 rw[Ä O];by_cases G:m.b<n
 rw[Æ G,Æ (.inl N)]
 rw[Ä G,Ä N];by_cases V:m.d=0
 rw[Æ V,Æ (.inr N)]
 rw[Ä V,yN (by have:=E.r0;omega),Ä (show ¬(b.h<n*1000\/b.d=0)by omega),<-Y,kY n 1000];by_cases I:1099511627776-t<(1000*n-b.e t+b.d-1)/b.d
 rw[Æ I,Æ N]
 rw[Ä I,Ä N]
structure G9 (w:M)(g:Nat)(m:Rb):Prop where
 e:w.cell? (C g 0)=A (.q m.b)
 a:w.cell? (C g 1)=A (.q m.d)
 k:w.cell? (C g 2)=A (.q m.j)
 l:w.cell? (C g 3)=A (.q m.a)
 b:w.cell? (C g 4)=A (.q m.last)
 f2:w.frozen? (C g 2)=false
 f3:w.frozen? (C g 3)=false
 f4:w.frozen? (C g 4)=false
def G9.G{w g m}(h:G9 w g m):g<w.heap.size:=BZ h.e
def G9.r{S}{w w':M}{g m}(h:G9 w g m)(G:Ç S w w')(E:¬S g):G9 w' g m:=
 have l:=h.G
 ⟨by rw[G.E (p:=(C g 0)) l E];exact h.e,by rw[G.E (p:=(C g 1)) l E];exact h.a,by rw[G.E (p:=(C g 2)) l E];exact h.k,by rw[G.E (p:=(C g 3)) l E];exact h.l,by rw[G.E (p:=(C g 4)) l E];exact h.b,
  by rw[G.s (p:=(C g 2)) l E];exact h.f2,by rw[G.s (p:=(C g 3)) l E];exact h.f3,by rw[G.s (p:=(C g 4)) l E];exact h.f4⟩
def G9.d{w w':M}{g m}(h:G9 w g m)(E:zW w w'):=h.r (S:=λ_=>False) (.e E) id
def SA g B r h k t(w:M)(aw:w.cell? (C g 0)=A (.q B))(ak:w.cell? (C g 1)=A (.q r))(am:w.cell? (C g 2)=A (.q h))(ao:w.cell? (C g 3)=A (.q k))
  (al:1<=B)(ap:B<=20000)(V:0<=r)(U:r<=100000)(ab:0<=h)(ai:h<=1000*B)(ac:0<=k)(aa:k<=t)(an:t<=1099511627776) v(E:v=if r=0\/h=1000*B then h else if (1000*B-h)/r<t-k then 1000*B else h+(t-k)*r):
  Calls sr 93 #[.pp g 0,.q t] w λe w'=>e=.r (.q v)/\zW w w':=by
 by_cases I:r=0
 .
  rw[Æ (.inl I)]at E;subst I E;go_in
  go_wp2
  go_ret;exact⟨J,br⟩
 have G:(r==0)=false:=by simpa using I
 by_cases G:h=1000*B
 .
  rw[Æ (.inr G)]at E;subst G E;go_in
  go_wp2
  go_ret;exact⟨J,br⟩
 have O:(h==1000*B)=false:=by simpa using G
 rw[Ä (by simp[I,G])]at E;have G:1<=r:=N;by_cases O:(1000*B-h)/r<t-k
 .
  rw[Æ O]at E;subst E;go_in
  go_wp2
  go_ret;exact⟨J,br⟩
 rw[Ä O]at E;obtain⟨Y,Z⟩:=vC V U (show 0<=t-k by omega) (show t-k<=1099511627776 by omega);rw[kY]at Y Z;subst E;go_in
 go_wp2
 go_quiet (fail);go_wp2
 go_ret;exact⟨J,ì br _⟩
end Go.Proofs.YtaoikkhlnhfkfaaGreatDoor
