import Derived.Test.YtejlihcdfffafaaGreatDoorP19
set_option maxHeartbeats 4000000
set_option maxRecDepth 100000
namespace Go.Proofs.YtejlihcdfffafaaGreatDoor
open Go.RowKit
theorem N8 (w0:World)(b z n cap:Nat)(h:Nat->Pk)(O:n<=1000):∀(d:Nat)(f:Nat->Nat)(x m y:Nat)(w:World),y-x<=d->Ap w0 b z n h f w->x<m->m<y->y<=n->Cq (Aa h) f x m->Cq (Aa h) f m y->Lower f x m y ->
  Calls Tryz.prog 188 #[.slice (some ⟨b,z,none⟩) n cap,.int .i64 x,.int .i64 m,.int .i64 y,.func (.func 129) #[] #[]] w fun e w'=>e=.returned (.tuple #[])/\∃ g,Merged (Aa h) f g x y/\Ap w0 b z n h g w'
 | 0,f,x,m,y,w,V,J,ai,U,Q,K,N,l=>by omega
 | d+1,f,x,m,y,w,V,J,ai,U,Q,K,N,l=>by
  by_cases aj:m=x+1
  · exact Vt w0 b z n cap h f x m y w J aj U Q O K N l
  by_cases W:y=m+1
  · exact Ym w0 b z n cap h f x m y w J (by omega) W Q O K N l
  have ab:∀(g:Nat->Nat)(H E D:Nat)(I:World),D-H<y-x->Ap w0 b z n h g I->H<E->E<D->D<=n->Cq (Aa h) g H E->Cq (Aa h) g E D->Lower g H E D->Calls Tryz.prog 188 #[.slice (some ⟨b,z,none⟩) n cap,.int .i64 H,.int .i64 E,.int .i64 D,.func (.func 129) #[] #[]] I fun e w'=>e=.returned (.tuple #[])/\∃ g',Merged (Aa h) g g' H D/\Ap w0 b z n h g' w':=fun g H E D I ao Z al ac ad Y an am=>N8 w0 b z n cap h O d g H E D I (by omega) Z al ac ad Y an am
  exact kH w0 b z n cap h f x m y w J (by omega) (by omega) _ rfl ab Q O K N l
theorem aR (w0:World)(b off n cap:Nat)(pk:Nat->Pk)(w:World)(h:Ap w0 b off n pk (fun i=>i) w)(hn:n<=1000):Calls Tryz.prog 155 #[.slice (some ⟨b,off,none⟩) n cap,.int .i64 n,.func (.func 129) #[] #[]] w fun e w'=>e=.returned (.tuple #[])/\∃ g,Be (Aa pk) n ((List.range n).map g)/\Ap w0 b off n pk g w':=by
 have HIns:Hid (∀(f:Nat->Nat)(x y:Nat)(W:World),Ap w0 b off n pk f W->x<=y->y<=n->(∀ i,x<=i->f i=i)->Calls Tryz.prog 187 #[.slice (some ⟨b,off,none⟩) n cap,.int .i64 x,.int .i64 y,.func (.func 129) #[] #[]] W fun e w'=>e=.returned (.tuple #[])/\∃ g,Merged (Aa pk) f g x y/\Ap w0 b off n pk g w'):=fun f x y W h1 h2 h3 h4=>Uq w0 b off n cap pk f x y W h1 h2 h3 hn (fun i j k1 k2 k3=>by rw[h4 i k1,h4 j (by omega)];exact k2)
 have HSym:Hid (∀(f:Nat->Nat)(x m y:Nat)(W:World),Ap w0 b off n pk f W->x<m->m<y->y<=n->CB (Aa pk) f x m->CB (Aa pk) f m y->Calls Tryz.prog 188 #[.slice (some ⟨b,off,none⟩) n cap,.int .i64 x,.int .i64 m,.int .i64 y,.func (.func 129) #[] #[]] W fun e w'=>e=.returned (.tuple #[])/\∃ g,Merged (Aa pk) f g x y/\CB (Aa pk) g x y/\Ap w0 b off n pk g w'):=fun f x m y W h1 h2 h3 h4 h5 h6=>(N8 w0 b off n cap pk hn (y-x) f x m y W lr h1 h2 h3 h4 h5.rises h6.rises (h5.lower h6)).mono fun _ _ ⟨e1,g,e2,e3⟩=>⟨e1,g,e2,h5.merged (by omega) (by omega) h6 e2,e3⟩
 have H0:=qX h;clear h;go_in
 go_wp2_with fail;go_loopg [7,8] n (fun gk av bv wr=>∃(x:Nat)(g:Nat->Nat),av=.int .i64 x/\bv=.int .i64 ((x+20:Nat):Int)/\x<=n/\n-x<=gk/\Hid (∀ i,x<=i->g i=i)/\Hid (FJ (Aa pk) g 20 n x)/\Hid (Ap w0 b off n pk g wr))
 case atStart=>exact⟨0,fun i=>i,rfl,rfl,qR _,lr,fun i _=>rfl,FJ.start _ _ _,H0⟩
 case round=>
  clear H0;obtain⟨x,g,rfl,rfl,hxn,hgk,HId,HRo,H⟩:=hrel;obtain⟨y,hy⟩:=ex (x+20);have HY:=qX hy;rw[hy];by_cases hle:y<=n
  ·
   have hlez:(y:Int)<=(n:Int):=by omega
   have HC:=HIns.o g x y wr H.o (by omega) hle HId.o;have HC':=qX HC;obtain⟨z,hz⟩:=ex (y+20);have wy:(y:Int)+20=(z:Int):=by omega
   have HZ:=qX hz;clear hz;clear HC H hy;go_wp2_with fail;refine HC'.o.mono ?_
   rintro _ w1 ⟨rfl,g',hM,h1⟩;have H1:=qX h1;have HId':Hid (∀ i,y<=i->g' i=i):=fun i hi=>by rw[hM.1.out i (.inr hi)];exact HId.o i (by have:=HY.o;omega)
   have HRo':Hid (FJ (Aa pk) g' 20 n y):=by
    have e:=HY.o;show FJ _ _ _ _ _
    rw[<- e];refine HRo.o.on (fun i hi=>hM.1.out i (.inl hi)) ?_
    rw[show min (x+20) n=y by omega];exact CB.start (fun i h2 _=>HId.o i h2) hM
   clear h1 hM HC';go_wp2
   go_roundg (n-y)
   case measure=>have:=HY.o;omega
   case rel=>exact⟨y,g',rfl,by rw[HZ.o],hle,lr,HId',HRo',H1⟩
  have hlez:¬(y:Int)<=(n:Int):=by omega
  have HC:=HIns.o g x n wr H.o hxn lr HId.o;have HC':=qX HC;clear HC H hy;go_wp2_with fail;refine HC'.o.mono ?_
  rintro _ w1 ⟨rfl,g',hM,h1⟩;have H1:=qX h1;have HIn:Hid (CV (Aa pk) g' 20 n 0):=HRo.o.last (fun i hi=>hM.1.out i (.inl hi)) (by have:=HY.o;omega) (fun _=>CB.start (fun i h2 _=>HId.o i h2) hM);clear h1 hM HC' HRo HId HIns;go_wp2_with fail;obtain⟨gO,hgO⟩:∃ z,z=gk:=⟨_,rfl⟩
  subst hgO;go_loopg [6,7,8,9] n (fun gk2 sv av bv mv wr=>∃(B:Nat)(g:Nat->Nat),sv=.int .i64 B/\20<=B/\B<=2000/\n-B<=gk2/\Hid (CV (Aa pk) g B n 0)/\Hid (Ap w0 b off n pk g wr))
  case atStart=>exact⟨20,g',rfl,lr,by omega,by omega,HIn,H1⟩
  case round=>
   clear HIn H1;obtain⟨B,g,rfl,hB20,hB2,hgk2,HIn,H⟩:=hrel;by_cases hBn:B<n
   ·
    have hBz:(B:Int)<(n:Int):=by omega
    have wB:2*(B:Int)=((2*B:Nat):Int):=by omega
    obtain⟨C,hC⟩:=ex (2*B);have HCB:=qX hC;rw[hC]at wB;clear hC;go_wp2_with fail;obtain⟨gP,hgP⟩:∃ z,z=gk:=⟨_,rfl⟩
    subst hgP;obtain⟨W0,hW0⟩:∃ W,W=wr:=⟨_,rfl⟩
    subst hW0;go_loopg [7,8] n (fun gk3 av bv wr=>∃(x:Nat)(g:Nat->Nat),av=.int .i64 x/\bv=.int .i64 ((x+C:Nat):Int)/\x<=n/\n-x<=gk3/\Hid (CV (Aa pk) g B n x)/\Hid (FJ (Aa pk) g C n x)/\Hid (Ap w0 b off n pk g wr))
    case atStart=>exact⟨0,g,rfl,by rw[vC],qR _,lr,HIn,FJ.start _ _ _,H⟩
    case round=>
     clear H HIn;obtain⟨x,g,rfl,rfl,hxn,hgk3,HIn,HRo,H⟩:=hrel;obtain⟨y,hy⟩:=ex (x+C);obtain⟨m,hm⟩:=ex (x+B);have HY:Hid (x+C=y/\x+B=m/\m+B=y):=⟨hy,hm,by have:=HCB.o;omega⟩
     have wm:(x:Int)+(B:Int)=(m:Int):=by omega
     rw[hy];by_cases hle:y<=n
     ·
      have hlez:(y:Int)<=(n:Int):=by omega
      have o1:CB (Aa pk) g x m:=by
       have:=HIn.o.first (by have:=HCB.o;omega);rwa[show min (x+B) n=m by have:=HCB.o;omega]at this
      have o2:CB (Aa pk) g m y:=by
       have:=HIn.o.rest.first (by have:=HCB.o;omega);rwa[show min (x+B+B) n=y by have:=HCB.o;omega,hm]at this
      have HC:=HSym.o g x m y wr H.o (by have:=HCB.o;omega) (by have:=HCB.o;omega) hle o1 o2;have HC':=qX HC;obtain⟨z,hz⟩:=ex (y+C);have wy:(y:Int)+(C:Int)=(z:Int):=by omega
      have HZ:=qX hz;clear hz;clear HC H hy hm o1 o2;go_wp2_with fail;refine HC'.o.mono ?_
      rintro _ w2 ⟨rfl,g',hM,ho,h1⟩;have H1:=qX h1;have HIn':Hid (CV (Aa pk) g' B n y):=by
       have h2:=HIn.o.rest.rest;rw[show x+B+B=y by have:=HY.o;omega]at h2;exact h2.congr fun i hi=>hM.1.out i (.inr hi)
      have HRo':Hid (FJ (Aa pk) g' C n y):=by
       have e:=HY.o.1;show FJ _ _ _ _ _
       rw[<- e];refine HRo.o.on (fun i hi=>hM.1.out i (.inl hi)) ?_
       rw[show min (x+C) n=y by omega];exact ho
      clear h1 hM ho HC' HIn HRo;go_wp2
      go_roundg (n-y)
      case measure=>have:=HY.o;have:=HCB.o;omega
      case rel=>exact⟨y,g',rfl,by rw[HZ.o],hle,lr,HIn',HRo',H1⟩
     have hlez:¬(y:Int)<=(n:Int):=by omega
     have wC:(B:Int)*2=(C:Int):=by have:=HCB.o;omega
     by_cases hmn:m<n
     ·
      have hmz:(m:Int)<(n:Int):=by omega
      have o1:CB (Aa pk) g x m:=by
       have:=HIn.o.first (by have:=HCB.o;omega);rwa[show min (x+B) n=m by have:=HCB.o;omega]at this
      have o2:CB (Aa pk) g m n:=by
       have:=HIn.o.rest.first (by have:=HCB.o;omega);rwa[show min (x+B+B) n=n by have:=HCB.o;omega,hm]at this
      have HC:=HSym.o g x m n wr H.o (by have:=HCB.o;omega) hmn lr o1 o2;have HC':=qX HC;clear HC H hy hm o1 o2;go_wp2_with fail;refine HC'.o.mono ?_
      rintro _ w2 ⟨rfl,g',hM,ho,h1⟩;have H1:=qX h1;have HIn':Hid (CV (Aa pk) g' C n 0):=HRo.o.last (fun i hi=>hM.1.out i (.inl hi)) (by have:=HY.o;omega) (fun _=>ho);clear h1 hM ho HC' HIn HRo;go_wp2
      go_roundg (n-C)
      case measure=>have:=HCB.o;omega
      case rel=>exact⟨C,g',by go_num,by have:=HCB.o;omega,by have:=HCB.o;omega,lr,HIn',H1⟩
     have hmz:¬(m:Int)<(n:Int):=by omega
     have HIn':Hid (CV (Aa pk) g C n 0):=HRo.o.last (fun i _=>rfl) (by have:=HY.o;omega) (fun hx=>by
      have:=HIn.o.first hx;rwa [show min (x+B) n=n by have:=HY.o;omega] at this)
     clear hy hm HIn HRo;go_wp2
     go_roundg (n-C)
     case measure=>have:=HCB.o;omega
     case rel=>exact⟨C,g,by go_num,by have:=HCB.o;omega,by have:=HCB.o;omega,lr,HIn',H⟩
   have hBz:¬(B:Int)<(n:Int):=by omega
   have HO:=qX (HIn.o.order (by omega));clear HIn;go_wp2
   go_end0;exact⟨rfl,g,HO.o,H.o⟩
theorem RN (w0:World)(b h n cap:Nat)(z:Nat->Pk)(w:World)(H:Ap w0 b h n z (fun i=>i) w)(J:n<=1000):Calls Tryz.prog 128 #[.slice (some ⟨b,h,none⟩) n cap,.func (.func 129) #[] #[]] w fun e w'=>e=.returned (.tuple #[])/\∃ g,Be (Aa z) n ((List.range n).map g)/\Ap w0 b h n z g w':=by
 have K:=qX (aR w0 b h n cap z w H J);clear H;go_in
 go_wp2_with fail;refine K.o.mono ?_
 rintro _ N ⟨rfl,g,E,D⟩;have I:=qY E D;clear E D;go_wp2
 go_end0;exact⟨rfl,g,I.o⟩
def j6 (x:Sn):Bool:=decide (-1125899906842624<=x.beg/\x.beg<=1125899906842624 /\ -1125899906842624<=x.fin/\x.fin<=1125899906842624)
theorem Zt {x:Sn}(h:j6 x=true) : -1125899906842624<=x.beg/\x.beg<=1125899906842624 /\ -1125899906842624<=x.fin/\x.fin<=1125899906842624:=vM h
def Tn (l:List Sn):Prop:=∀(i:Nat) x,l[i]? = some x->j6 x=true
def Pe (ps:List Pk)(x:Sn):Int:=x.fin-Ar ps x.num.toNat
structure KM (w:World)(D n:Nat)(ps:List Pk)(l:List Sn)(k:Nat):Prop where
 cell:∀(i:Nat) x,i<k->l[i]? = some x->w.cell? ⟨D,i,none⟩=some (.int .i64 (Pe ps x))
 room:∀ i,i<n->∃ u,w.cell? ⟨D,i,none⟩=some u
 frozen:∀ i,w.frozen? ⟨D,i,none⟩=false
 lt:D<w.heap.size
theorem eF (w:World)(n:Nat)(t:TypeId)(ps:List Pk)(l:List Sn):KM (w.alloc (.cells (madeCells #[.int .i64 0] n) t)) w.heap.size n ps l 0:=by
 refine⟨fun i x z=>by omega,fun i h=>⟨.int .i64 0,?_⟩,fun i=>vQ w _ _ i,by simp⟩;rw[qO _ _ _ _ rfl];exact Gr _ _ _ h
theorem KM.later {w w':World}{D n:Nat}{ps:List Pk}{l:List Sn}{k:Nat}(h:KM w D n ps l k)(z:zW w w'):KM w' D n ps l k:=
 ⟨fun i x E H=>j7 z (h.cell i x E H),fun i E=>by obtain⟨u,I⟩:=h.room i E;exact⟨u,j7 z I⟩,fun i=>by rw[z.frozen (p:=⟨D,i,none⟩) h.lt];exact h.frozen i,qD h.lt z.size⟩
theorem KM.put {w:World}{z n:Nat}{ps:List Pk}{l:List Sn}{k:Nat}(h:KM w z n ps l k)(J:k<n)(x:Sn)(K:l[k]? = some x):KM (w.setCell ⟨z,k,none⟩ (.int .i64 (Pe ps x))) z n ps l (k+1):=by
 have E:(w.cell? ⟨z,k,none⟩).isSome=true:=by obtain⟨u,N⟩:=h.room k J;rw[N];rfl
 refine⟨fun i y I H=>?_,fun i I=>?_,fun i=>by rw[qK];exact h.frozen i,by simp[World.setCell];exact h.lt⟩
 ·
  by_cases e:k=i
  · subst e;obtain rfl:=Option.some.inj (K.symm.trans H);exact qT _ _ _ E
  rw[j9 _ _ _ _ (by intro D;cases D;exact e rfl)];exact h.cell i y (by omega) H
 by_cases e:k=i
 · subst e;exact⟨_,qT _ _ _ E⟩
 rw[j9 _ _ _ _ (by intro D;cases D;exact e rfl)];exact h.room i I
def SC (ps:List Pk)(l:List Sn)(z:Nat->Addr)(w:World)(e:Ending)(w':World):Prop:=
 zW w w' /\ ((∃ h,e=.returned (.tuple #[.slice (some ⟨h,0,none⟩) l.length l.length,.nilIface]) /\ KM w' h l.length ps l l.length /\ ∀ (i:Nat) x,l[i]? = some x -> named ps.length x=true) \/
  (∃ (j:Nat) (x:Sn) (F:Nat),l[j]? = some x /\ (∀ (i:Nat) y,i < j -> l[i]? = some y -> named ps.length y=true) /\ named ps.length x=false /\ e=.returned (.tuple #[.slice none 0 0,.iface 135 (.pointer (some ⟨F,0,none⟩))]) /\ w'.cell? ⟨F,0,none⟩=some (.int .i64 j) /\ w'.cell? ⟨F,1,none⟩=some (.iface 308 (.pointer (some (z 3))))))
theorem Xw (pa:oA)(pcap:Nat)(ps:List Pk)(a:oA)(cap:Nat)(l:List Sn)(w:World)(ad:Nat->Addr)(he:w.cell? ⟨1,0,none⟩=some (.iface 308 (.pointer (some (ad 3)))))(hp:Aw w pa ps)(hl:F9 w a l)(hn:l.length<=300)(hm:ps.length<=300)(ht:Tn l)
  (htp:∀(i:Nat) p,ps[i]? = some p -> -1125899906842624<=p.tick/\p.tick<=1125899906842624) :
  Calls Tryz.prog 81 #[.slice pa ps.length pcap,.slice a l.length cap] w fun e w'=>SC ps l ad w e w':=by
 have HP:=qY hp htp;have HL:=qY hl ht;have HE:=qX he;clear hp htp hl ht he;obtain⟨n,hnn⟩:=ex l.length;obtain⟨m,hmm⟩:=ex ps.length;have HN:=qY hnn hmm;rw[hnn]at hn ⊢;rw[hmm]at hm ⊢;clear hnn hmm;have hmk:∀ w':World,(Instr.makeSlice 27 (.int .i64 n) (.int .i64 n)).run Tryz.prog w'=.ok (.slice (some ⟨w'.heap.size,0,none⟩) n n) (w'.alloc (.cells (madeCells #[.int .i64 0] n) 3)):=fun w'=>by
  obtain⟨i0,hi,hz0,hz1,hz2⟩:=vL Tryz.infoInt;have:=yW (P:=Tryz.prog) w' 27 3 i0 (.int .i64 0) Tryz.underlying27 hi hz0 .i64 .i64 n n (by omega) (by omega) (by rw[hz2];omega) (by omega);simpa[hz1,Value.cells]using this
 have HS0:Hid (KM (w.alloc (.cells (madeCells #[.int .i64 0] n) 3)) w.heap.size n ps l 0/\zW w (w.alloc (.cells (madeCells #[.int .i64 0] n) 3))):=⟨eF w n _ ps l,ba⟩
 go_in
 go_wp2_with fail;obtain⟨D,hD⟩:=ex w.heap.size;have HD:=qX hD;rw[hD];clear hD hmk;go_loopg [14] n (fun gk i wr=>∃ k:Nat,gk+k=n/\i=.int .i64 k/\(∀(i:Nat) x,i<k->l[i]? = some x->named m x=true)/\KM wr D n ps l k/\zW w wr)
 case atStart=>exact⟨0,by omega,rfl,fun i x h=>by omega,by have:=HS0.o.1;rwa[HD.o]at this,HS0.o.2⟩
 case round=>
  obtain⟨k,hgk,rfl,hok,hdel,hb⟩:=hrel;have HB:=qZ hb hok hdel;by_cases hkn:k<n
  ·
   obtain⟨x,hx,-⟩:=Ab l k (by rw[HN.o.1];exact hkn);obtain⟨b,off,rfl,-,hc⟩:=HL.o.1.place (by rw[HN.o.1];omega);have c1:wr.cell? ⟨b,off+k*3,none⟩=some (.int .i64 x.num):=j7 hb (hc k _ hx).1;have c2:wr.cell? ⟨b,off+k*3+1,none⟩=some (.int .i64 x.beg):=j7 hb (hc k _ hx).2.1;have c3:wr.cell? ⟨b,off+k*3+2,none⟩=some (.int .i64 x.fin):=j7 hb (hc k _ hx).2.2;obtain⟨-,-,t3,t4⟩:=Zt (HL.o.2 k x hx);have HX:=qX hx;clear hc hx hok hdel;cases ht:named m x with
   | true=>
    obtain⟨s1,s2⟩:=XY ht;have s1':¬x.num<0:=by omega
    have s2':¬(m:Int)<=x.num:=by omega
    obtain⟨q,hq⟩:∃ q:Nat,x.num=q:=⟨x.num.toNat,by omega⟩
    have hqm:q<m:=by omega
    obtain⟨p,hp,-⟩:=Ab ps q (by rw[HN.o.2];exact hqm);obtain⟨b2,o2,rfl,-,hc2⟩:=HP.o.1.place (by rw[HN.o.2];omega);obtain⟨t1,t2⟩:=HP.o.2 q p hp;have HDl:Hid (Pe ps x=x.fin-p.tick):=by
     show _=_
     unfold Pe;rw[hq,yB,Av hp]
    have HT:=qX ht;rw[hq]at c1;have d1:(wr.alloc (.cells #[.int .i64 q,.int .i64 x.beg,.int .i64 x.fin] 61)).cell? ⟨b2,o2+q*3+2,none⟩=some (.int .i64 p.tick):=j7 ba (j7 hb (hc2 q _ hp).2.2);obtain⟨u0,hu0⟩:=HB.o.2.2.room k hkn;have d2:(wr.alloc (.cells #[.int .i64 q,.int .i64 x.beg,.int .i64 x.fin] 61)).cell? ⟨D,k,none⟩=some u0:=j7 ba hu0;have d3:(wr.alloc (.cells #[.int .i64 q,.int .i64 x.beg,.int .i64 x.fin] 61)).frozen? ⟨D,k,none⟩=false:=by
     rw[(ba:zW wr _).frozen (p:=⟨D,k,none⟩) HB.o.2.2.lt];exact HB.o.2.2.frozen k
    have hw:IntKind.i64.wrap (x.fin-p.tick)=x.fin-p.tick:=vY _ (by omega);clear hc2 hp ht s1 s2 hu0 hq hb;generalize x.beg=y at *;generalize p.tick=tk at *;go_wp2_with fail;have HEnd:Hid (KM ((wr.alloc (.cells #[.int .i64 q,.int .i64 y,.int .i64 x.fin] 61)).setCell ⟨D,k,none⟩ (.int .i64 (x.fin-tk))).drew D n ps l (k+1)/\zW w ((wr.alloc (.cells #[.int .i64 q,.int .i64 y,.int .i64 x.fin] 61)).setCell ⟨D,k,none⟩ (.int .i64 (x.fin-tk))).drew):=by
     have h1:=(HB.o.2.2.later (br.alloc lr (.cells #[.int .i64 q,.int .i64 y,.int .i64 x.fin] 61))).put hkn x HX.o;rw[HDl.o]at h1;exact⟨h1.later (qL br 1),qL ((HB.o.1.alloc HB.o.1.size _).setCell (by rw[HD.o];exact Nat.le_refl D) _) 1⟩
    go_region;go_wp2
    go_roundg (gk-1)
    case measure=>omega
    case rel=>
     refine⟨k+1,by omega,by go_num,fun i z hi hz=>?_,HEnd.o.1,HEnd.o.2⟩;rcases qC i k with h|h
     · exact HB.o.2.1 i z h hz
     obtain rfl:i=k:=by omega
     obtain rfl:=Option.some.inj (HX.o.symm.trans hz);exact HT.o
   | false=>
    have HEw:=j7 HB.o.1 HE.o;have HEa:=qX HEw;have hE1:(wr.alloc (.cells #[.int .i64 x.num,.int .i64 x.beg,.int .i64 x.fin] 61)).cell? ⟨1,0,none⟩=some (.iface 308 (.pointer (some (ad 3)))):=j7 ba HEw;have hcases:=Vb ht;have HT:=qX ht;clear ht HEw hb;have HEnd:Hid (SC ps l ad w (.returned (.tuple #[.slice none 0 0,.iface 135 (.pointer (some ⟨wr.heap.size+1,0,none⟩))])) ((wr.alloc (.cells #[.int .i64 x.num,.int .i64 x.beg,.int .i64 x.fin] 61)).alloc (.cells #[.int .i64 k,.iface 308 (.pointer (some (ad 3)))] 137)).drew):=by
     have hs:(wr.alloc (.cells #[.int .i64 x.num,.int .i64 x.beg,.int .i64 x.fin] 61)).heap.size=wr.heap.size+1:=by simp
     refine⟨qL ((HB.o.1.alloc HB.o.1.size _).alloc (by rw[hs];exact Nat.le_succ_of_le HB.o.1.size) _) 1,.inr ⟨k,x,wr.heap.size+1,HX.o,?_,?_,rfl,?_,?_⟩⟩
     · intro i y hi hy;rw[HN.o.2];exact HB.o.2.1 i y hi hy
     · rw[HN.o.2];exact HT.o
     · rw[World.cell?_drew,qO _ _ _ _ hs.symm];rfl
     rw[World.cell?_drew,qO _ _ _ _ hs.symm];rfl
    rcases hcases with s1|⟨s1,s2⟩
    ·
     go_wp2
     go_region;go_wp2
     go_ret2;exact HEnd.o
    go_wp2
    go_region;go_wp2
    go_ret2;exact HEnd.o
  clear hok hdel hb;go_wp2
  go_ret2;refine⟨HB.o.1,.inl ⟨D,by rw[HN.o.1];rfl,?_,fun i x hx=>?_⟩⟩
  ·
   obtain rfl:k=n:=by omega
   rw[HN.o.1];exact HB.o.2.2
  rw[HN.o.2];exact HB.o.2.1 i x (by have:=Af hx;have:=HN.o.1;omega) hx
end Go.Proofs.YtejlihcdfffafaaGreatDoor
