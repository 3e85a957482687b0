import Derived.Test.YtejlihcdfffafaaGreatDoorP24
set_option maxHeartbeats 8000000
set_option maxRecDepth 100000
namespace Go.Proofs.YtejlihcdfffafaaGreatDoor
open Go.RowKit
theorem SE (B g:Nat)(J:oA)(H:Nat)(E:Value)(ps:List Pk)(O:Nat->Value)(F:Nat->Nat->Prop)(D:Value)(d:Drr)(n:Nat)(w:World)(I:AC B g (.slice J ps.length H) E w O F D d (n+1))(aB:Aw w J ps)(a0:∀ ap,J=some ap->0<ps.length->ap.block<B)(a1:Al ps)(f k:Nat)(r:List Nat)(p:Pk)(Y:d.srv=some f)(N:f<8)(ar:d.qs f=k::r)(Q:ps[k]? = some p)(ad:d.cr f<=1000000)(ai:p.size<=d.cr f)(al:n<=1000)(aS:(d.qs f).length<=300)(W:B<=w.heap.size):Calls Tryz.prog 220 #[.pointer (some ⟨g,0,none⟩)] w fun e w'=>e=.returned (.int .i64 k)/\BO B g (.slice J ps.length H) E w w' F D (d.sent (Az ps) f k r) n:=by
 have aj:=Af Q;obtain⟨h,z,rfl,a7,av⟩:=aB.place (by omega);have aE:h<B:=a0 ⟨h,z,none⟩ rfl (by omega);have ac:∀ U,Below B w U->U.cell? ⟨h,z+k*3+1,none⟩=some (.int .i64 p.size):=fun U aw=>by
  rw[aw.cell (p:=⟨h,z+k*3+1,none⟩) aE];exact(av k p Q).2.1
 obtain⟨-,-,a5,-,-,-⟩:=A7 (a1.each _ p Q).1;have ao:=I.queue f N;rw[ar]at ao;obtain⟨an,ab,cap,am,a3,V,Z,-,s1,a4⟩:=ao.first;rw[ar,vH]at aS;have a2:=CP Q;by_cases K:r=[]
 ·
  subst K;have e:d.sent (Az ps) f k []={ d with qs:=AB d.qs f [],cr:=AB d.cr f 0,srv:=none }:=if_pos rfl;rw[e];by_cases aq:1<cap
  · exact Pw B g k h z H ps.length E O F D d n w I p.size ac (by omega) aj f Y N (by omega) ad ai al (by simp) W an ab cap am V Z aq (s1 aq)
  obtain⟨-,aN⟩:=a4 (by omega);exact Rz B g k h z H ps.length E O F D d n w I p.size ac (by omega) aj f Y N (by omega) ad ai al (by simp) W an ab cap am a3 V Z (by omega) aN
 have e:d.sent (Az ps) f k r={ d with qs:=AB d.qs f r,cr:=AB d.cr f (d.cr f-p.size) }:=by rw[<- a2];exact if_neg K
 rw[e];have a6:0<r.length:=yH.2 K;exact P5 B g k h z H ps.length E O F D d n w I p.size ac (by omega) aj f r Y N (by omega) ad ai al (by omega) W an ab cap am V Z (by omega) (s1 (by omega)) K
theorem BO.foot {B g:Nat}{D H:Value}{w w':World}{F:Nat->Nat->Prop}{h:Value}{d:Drr}{n:Nat}(I:BO B g D H w w' F h d n)(E:B<=w.heap.size)(z:∀ k,AZ g F h k->B<=k):Below B w w':=I.but.below E z
theorem BO.step {B g:Nat}{H Q:Value}{w U I:World}{F O:Nat->Nat->Prop}{E N:Value}{d2:Drr}{n2:Nat}(h:But (AZ g F E) w U)(J:∀ k,AZ g O N k->AZ g F E k\/w.heap.size<=k)(z:BO B g H Q U I O N d2 n2):BO B g H Q w I F E d2 n2:=by
 obtain⟨ad,ab,ai,ac,Y⟩:=z.at_;refine⟨⟨ad,ab,ai,ac,fun k Z=>?_⟩,?_⟩
 ·
  rcases Y k Z with D|D
  · exact J k D
  have:=h.size;exact .inr (by omega)
 refine⟨z.but.os.trans h.os,z.but.tape.trans h.tape,z.but.output.trans h.output,qI h.size z.but.size,fun j K V=>?_⟩;rw[z.but.block j (qD K h.size) (fun W=>?_)]
 · exact h.block j K V
 rcases J j W with D|D
 · exact V D
 omega
theorem MU {fl:Nat->Nat}{H E:Nat->Int}{M:Int}{d:Drr}(D:Dp fl H E M d)(I:∀ f,8<=f->d.qs f=[]):d.row.length<=8/\∀ f,f∈d.line->f<8:=by
 have z:∀ f,f∈d.line->f<8:=fun f J=>by
  rcases qC f 8 with h|h
  · exact h
  exact absurd (I f h) ((D.active f).1 J)
 have Q:=Un (fun _=>1) 1 8 d.line D.nodup z (fun _=>lr);have N:(d.line.map fun _=>1).sum=d.line.length:=by
  generalize d.line=l;induction l with
  | nil=>rfl
  | cons a r K=>simp only[yS,zE,vH,K];omega
 have O:d.row.length<=d.line.length:=by
  unfold Drr.line;cases d.srv <;> simp
 exact⟨by omega,z⟩
structure Xy (B g:Nat)(pv qv:Value)(ps:List Pk)(ns:List Int)(w wr:World)(F:Nat->Nat->Prop)(rv:Value)(n:Nat)(Q:Nat->List Nat)(x:Nat×Drr)(fu:Nat)(d:Drr):Prop where
 ok:Dp (Ag ps) (Az ps) (BI ns) 1500 d
 qs:d.qs=Q
 go:Drr.go (Az ps) (BI ns) fu d=some x
 end_:BO B g pv qv w wr F rv d (n+1)
theorem Sy {w w':World}{B:Nat}{a:oA}{xs:List Int}(K:AR w a xs)(J:∀ z,a=some z->z.block<B)(D:Below B w w'):AR w' a xs:=by
 rcases K with rfl|⟨b,h,rfl,N,E⟩
 · exact .inl rfl
 have I:b<B:=J ⟨b,h,none⟩ rfl;refine .inr ⟨b,h,rfl,qD N D.size,fun i x H=>?_⟩;rw[D.cell (p:=⟨b,h+i,none⟩) I];exact E i x H
theorem ZT (B g:Nat)(pa:oA)(pcap:Nat)(qa:oA)(qcap:Nat)(ps:List Pk)(ns:List Int)(vq:Nat->Value)(F:Nat->Nat->Prop)(rv:Value)(d0:Drr)(n:Nat)(w:World)(h:AC B g (.slice pa ps.length pcap) (.slice qa ns.length qcap) w vq F rv d0 (n+1))(hl:Aw w pa ps)(hpB:∀ ad,pa=some ad->0<ps.length->ad.block<B)(hq:AR w qa ns)(hqB:∀ ad,qa=some ad->ad.block<B)(ho:Al ps)(hns:DF 1 3000 ns)(hok:Dp (Ag ps) (Az ps) (BI ns) 1500 d0)(hfew:∀ f,8<=f->d0.qs f=[])(hq3:∀ f,(d0.qs f).length<=300/\∀ k,k∈d0.qs f->k<ps.length)(hn:n<=1000)(hB:B<=w.heap.size)(fu:Nat)(k:Nat)(e:Drr)(hgo:Drr.go (Az ps) (BI ns) fu d0=some (k,e)):Calls Tryz.prog 199 #[.pointer (some ⟨g,0,none⟩)] w fun e' w'=>e'=.returned (.int .i64 k)/\BO B g (.slice pa ps.length pcap) (.slice qa ns.length qcap) w w' F rv e n:=by
 obtain⟨i0,hi,hz0,hz1,hz2⟩:=vL Tryz.infoInt;have hqu:∀ f,1<=BI ns f:=fun f=>(Gf hns.each (by omega) f).1
 have HS0:Hid (Xy B g (.slice pa ps.length pcap) (.slice qa ns.length qcap) ps ns w w F rv n d0.qs (k,e) fu d0):=⟨hok,rfl,hgo,⟨vq,F,rv,h,fun k hk=>.inl hk⟩,But.refl _ _⟩
 have HB:Hid (B<=w.heap.size/\∀ k,AZ g F rv k->B<=k):=⟨hB,fun k hk=>(h.foot k hk).1⟩
 have HL:Hid (∀ W,Below B w W->Aw W pa ps/\AR W qa ns):=fun W hb=>⟨hl.bel hpB hb,Sy hq hqB hb⟩
 have HQ:Hid (Al ps/\DF 1 3000 ns/\(∀ f,1<=BI ns f)/\(∀ f,8<=f->d0.qs f=[])/\(∀ f,(d0.qs f).length<=300/\∀ k,k∈d0.qs f->k<ps.length)/\(∀ ad,pa=some ad->0<ps.length->ad.block<B)/\(∀ ad,qa=some ad->ad.block<B)):=⟨ho,hns,hqu,hfew,hq3,hpB,hqB⟩
 clear h hl hpB hq hqB ho hns hok hfew hq3 hB hgo hqu;go_in
 go_wp2_with fail;go_loopg [2] fu (fun gk r2 wr=>r2=.int .i64 0/\∃ d,Xy B g (.slice pa ps.length pcap) (.slice qa ns.length qcap) ps ns w wr F rv n d0.qs (k,e) gk d)
 case atStart=>exact⟨rfl,d0,HS0.o⟩
 case round=>
  obtain⟨rfl,d,hat⟩:=hrel;have HA:Hid (Xy B g (.slice pa ps.length pcap) (.slice qa ns.length qcap) ps ns w wr F rv n d0.qs (k,e) gk d):=hat;obtain⟨vq1,F1,rv1,hT1,hF1⟩:=hat.end_.at_;have HT1:Hid (AC B g (.slice pa ps.length pcap) (.slice qa ns.length qcap) wr vq1 F1 rv1 d (n+1)):=hT1;have HF1:Hid (∀ k,AZ g F1 rv1 k->AZ g F rv k\/w.heap.size<=k):=hF1;have HBr:Hid (Below B w wr):=hat.end_.foot HB.o.1 HB.o.2;have c19:=hT1.cells.cs;have hgo:=hat.go;have HW:Hid (B<=wr.heap.size):=qI HB.o.1 HBr.o.size;have hfew':∀ f,8<=f->d.qs f=[]:=fun f hf=>by rw[hat.qs];exact HQ.o.2.2.2.1 f hf
  have hrow:=MU hat.ok hfew';clear hat hT1 hF1 hfew';cases gk with
  | zero=>simp[Drr.go]at hgo
  | succ fu1=>
   cases hs:d.srv with
   | none=>
    rw[Drr.go,hs]at hgo;simp only at hgo;cases hr:d.row with
    | nil=>rw[hr]at hgo;cases hgo
    | cons f r=>
     rw[hr]at hgo;simp only at hgo;rw[hs]at c19;have c19':wr.cell? ⟨g,19,none⟩=some (.int .i64 (-1)):=c19;have hf8:f<8:=hrow.2 f (by unfold Drr.line;rw[hs];simp only;rw[hr];exact qA ..);have hcr:=HA.o.ok.cr_in HQ.o.2.2.1 f;have hqf:=(Gf HQ.o.2.1.each (by omega) f).2;have HSv:Hid (Calls Tryz.prog 218 #[.pointer (some ⟨g,0,none⟩)] wr fun e w'=>e=.returned (.tuple #[])/\BO B g (.slice pa ps.length pcap) (.slice qa ns.length qcap) wr w' F1 rv1 (d.turn (BI ns) f r) (n+1)):=Yw B g _ qa qcap ns vq1 F1 rv1 d (n+1) wr HT1.o (HL.o wr HBr.o).2 HQ.o.2.1 f r hr hf8 (HA.o.ok.low f) (by omega) hrow.1 HW.o HQ.o.2.2.2.2.2.2;have HOk:Hid (Dp (Ag ps) (Az ps) (BI ns) 1500 (d.turn (BI ns) f r)/\(d.turn (BI ns) f r).qs=d0.qs/\Drr.go (Az ps) (BI ns) fu1 (d.turn (BI ns) f r)=some (k,e)/\(d.turn (BI ns) f r).srv=some f):=⟨HA.o.ok.turn HQ.o.2.2.1 hs hr,HA.o.qs,hgo,rfl⟩
     obtain⟨dX,hdX⟩:=ex (d.turn (BI ns) f r);rw[hdX]at HSv HOk;clear hgo c19 hs hr hrow hcr hqf hdX;go_wp2_with fail;refine HSv.o.mono ?_
     rintro e1 X ⟨rfl,hE⟩;have HE:Hid (BO B g (.slice pa ps.length pcap) (.slice qa ns.length qcap) w X F rv dX (n+1)):=BO.step HA.o.end_.but HF1.o hE;have HFu:Hid (fu1<=fu1+1):=yU _;clear hE c19';obtain⟨vqX,FX,rvX,hTX,hFX⟩:=HE.o.at_;have HX:Hid (AC B g (.slice pa ps.length pcap) (.slice qa ns.length qcap) X vqX FX rvX dX (n+1)):=hTX;have HFX:Hid (∀ k,AZ g FX rvX k->AZ g F rv k\/w.heap.size<=k):=hFX;have HBX:Hid (Below B w X):=HE.o.foot HB.o.1 HB.o.2;clear hTX hFX;have hrowX:=MU HOk.o.1 (fun f hf=>by rw[HOk.o.2.1];exact HQ.o.2.2.2.1 f hf);have hlX:dX.line=f::dX.row:=by unfold Drr.line;rw[HOk.o.2.2.2]
     have hneX:=(HOk.o.1.active f).1 (by rw[hlX];exact qA ..);obtain⟨k1,r1,hk1⟩:∃ k1 r1,dX.qs f=k1::r1:=by
      cases hq:dX.qs f with
      | nil=>exact absurd hq hneX
      | cons a b=>exact⟨a,b,rfl⟩
     have HK1:Hid (dX.qs f=k1::r1):=hk1;have hk1l:k1<ps.length:=(HQ.o.2.2.2.2.1 f).2 k1 (by rw[<- HOk.o.2.1,hk1];exact qA ..);obtain⟨p1,hp1,-⟩:=Ab ps k1 hk1l;have HP1:Hid (ps[k1]? = some p1):=hp1;have hcrX:=HOk.o.1.cr_in HQ.o.2.2.1 f;have hqX:=(Gf HQ.o.2.1.each (by omega) f).2;have HCrX:Hid (dX.cr f<=1000000):=by show dX.cr f<=1000000;omega
     have HRl:Hid (dX.row.length<=8):=hrowX.1;obtain⟨b,hb⟩:=ex (decide (p1.size<=dX.cr f));have HCan:Hid (Calls Tryz.prog 219 #[.pointer (some ⟨g,0,none⟩)] X fun e w'=>e=.returned (.bool b)/\∃ m,w'=X.drewN m):=Vj B g pa pcap _ ps vqX FX rvX dX (n+1) X HX.o (HL.o X HBX.o).1 HQ.o.1.few f k1 r1 p1 HOk.o.2.2.2 hf8 hk1 hp1 b hb;have HBd:Hid (decide (p1.size<=dX.cr f)=b):=hb;clear hrowX hlX hneX hk1 hp1 hcrX hqX hb;go_wp2_with fail;refine HCan.o.mono ?_
     rintro e2 Y ⟨rfl,m,hY⟩;have hbY:zW X Y:=by rw[hY];exact qL br _
     have HY:Hid (AC B g (.slice pa ps.length pcap) (.slice qa ns.length qcap) Y vqX FX rvX dX (n+1)):=HX.o.later hbY;have HBY:Hid (Below B w Y/\B<=Y.heap.size):=⟨HBX.o.trans (hbY.mono (qI HB.o.1 HBX.o.size)),qI (qI HB.o.1 HBX.o.size) hbY.size⟩
     have HBut:Hid (But (AZ g F rv) w Y):=HE.o.but.trans (.ofBelow hbY);clear hY hbY;cases b with
     | true=>
      have hfit:p1.size<=dX.cr f:=vM HBd.o;have hxx:(k1,dX.sent (Az ps) f k1 r1)=(k,e):=by
       have hg:=HOk.o.2.2.1;cases fu1 with
       | zero=>simp[Drr.go]at hg
       | succ fu2=>
        rw[Drr.go,HOk.o.2.2.2]at hg;simp only[HK1.o,if_pos (show Az ps k1<=dX.cr f by rw[CP HP1.o];exact hfit)]at hg;exact Option.some.inj hg
      obtain⟨rfl,rfl⟩:=Prod.mk.inj hxx;have HTk:Hid (Calls Tryz.prog 220 #[.pointer (some ⟨g,0,none⟩)] Y fun e w'=>e=.returned (.int .i64 k1)/\BO B g (.slice pa ps.length pcap) (.slice qa ns.length qcap) Y w' FX rvX (dX.sent (Az ps) f k1 r1) n):=SE B g pa pcap _ ps vqX FX rvX dX n Y HY.o (HL.o Y HBY.o.1).1 HQ.o.2.2.2.2.2.1 HQ.o.1 f k1 r1 p1 HOk.o.2.2.2 hf8 HK1.o HP1.o HCrX.o hfit hn (by rw[HOk.o.2.1];exact(HQ.o.2.2.2.2.1 f).1) HBY.o.2;clear hfit hxx;go_wp2_with fail;refine HTk.o.mono ?_
      rintro e3 Z ⟨rfl,hZ⟩;have HZ:Hid (BO B g (.slice pa ps.length pcap) (.slice qa ns.length qcap) w Z F rv (dX.sent (Az ps) f k1 r1) n):=BO.step HBut.o HFX.o hZ;clear hZ;go_wp2
      go_ret;exact⟨rfl,HZ.o⟩
     | false=>
      have hbig:¬p1.size<=dX.cr f:=xE HBd.o;have HNx:Hid (∃ fu2,fu2<(fu1+1)/\Dp (Ag ps) (Az ps) (BI ns) 1500 (dX.back f)/\Drr.go (Az ps) (BI ns) fu2 (dX.back f)=some (k,e)):=by
       have hg:=HOk.o.2.2.1;have hok2:=HOk.o.1.back HOk.o.2.2.2 HK1.o (by rw[CP HP1.o];omega);cases fu1 with
       | zero=>simp[Drr.go]at hg
       | succ fu2=>
        rw[Drr.go,HOk.o.2.2.2]at hg;simp only[HK1.o,if_neg (show ¬Az ps k1<=dX.cr f by rw[CP HP1.o];exact hbig)]at hg;exact⟨fu2,by omega,hok2,hg⟩
      have c18:=HY.o.cells.cr_;have c19:Y.cell? ⟨g,19,none⟩=some (.int .i64 f):=by have:=HY.o.cells.cs;rw[HOk.o.2.2.2]at this;exact this
      have hb0:zW Y (Y.drew.alloc (.cells #[.int .i64 f] 3)):=br.drew.alloc lr _;have HTa:Hid (AC B g (.slice pa ps.length pcap) (.slice qa ns.length qcap) (Y.drew.alloc (.cells #[.int .i64 f] 3)) vqX FX rvX dX (n+1)):=HY.o.later hb0;have HNew:Hid (∀ j u,(ints [(f:Int)])[j]? = some u->(Y.drew.alloc (.cells #[.int .i64 f] 3)).cell? (Addr.add ⟨Y.heap.size,0,none⟩ j)=some u):=World.news_of_block (cs:=#[.int .i64 f]) (t:=3) (vZ Y.drew _);have HBs:Hid (B<=(Y.drew.alloc (.cells #[.int .i64 f] 3)).heap.size):=qI HBY.o.2 hb0.size;obtain⟨rl,hrle⟩:=ex dX.row.length;have HRe:Hid (dX.row.length=rl):=hrle;have hrl8:=HRl.o;rw[hrle]at hrl8;have c18a:(Y.alloc (.cells #[.int .i64 f] 3)).cell? ⟨g,18,none⟩=some rvX:=j7 ba c18;clear hb0 hrle hbig;go_wp2_with fail;go_region_law
       (first
        | (refine step_append_lies _ rfl _ _ 27 rfl B 3 i0 (.int .i64 0) 1 8 Tryz.underlying27 hi hz0 hz1 hz2 rfl (by decide) rvX rl (ints (Ai dX.row)) rfl (by have:=HTa.o.row;rwa [HRe.o] at this) ⟨Y.heap.size,0,none⟩ 1 1 (ints [(f:Int)]) rfl rfl HNew.o (D7 _) (by decide) (by unfold maxLen;omega) (by omega) HBs.o _ rfl ?_
           intro g5 cap5 w5 ho5 hg5 hat5 hlt5;have hbut:But (fun k=>rvX.ownBlock=some k) (Y.drew.alloc (.cells #[.int .i64 f] 3)) w5:=⟨hg5.os,hg5.tape,hg5.output,hg5.size,fun k hk hn=>hg5.block k hk (fun e=>hn e.symm)⟩
           have HT5:=HTa.o.cells.but hbut (fun e=>HTa.o.rowg e);have y1:=HT5.cr_;have y2:=HT5.free 18;have H5:Hid (w5.ownsRow B 3 1 (.slice (some ⟨g5,0,none⟩) (rl+1) cap5) (rl+1) (ints (Ai dX.row)++ints [(f:Int)])/\But (fun k=>rvX.ownBlock=some k) (Y.drew.alloc (.cells #[.int .i64 f] 3)) w5/\(rvX.ownBlock=some g5\/g5=(Y.drew.alloc (.cells #[.int .i64 f] 3)).heap.size)):=⟨ho5,hbut,hat5⟩
           clear ho5 hg5 hat5 hlt5 hbut HT5)
        | fail)
      all_goals
       have HNw:Hid (∀ k,(Value.slice (some ⟨g5,0,none⟩) (rl+1) cap5).ownBlock=some k->rvX.ownBlock=some k\/(Y.drew.alloc (.cells #[.int .i64 f] 3)).heap.size<=k):=fun j hj=>by
        have e:g5=j:=Option.some.inj hj;rcases H5.o.2.2 with h'|h'
        · exact .inl (by rw[<- e];exact h')
        exact .inr (by rw[<- e,h'];exact lr)
       have HT6:Hid (AC B g (.slice pa ps.length pcap) (.slice qa ns.length qcap) (w5.setCell ⟨g,18,none⟩ (.slice (some ⟨g5,0,none⟩) (rl+1) cap5)) vqX FX (.slice (some ⟨g5,0,none⟩) (rl+1) cap5) { dX with row:=dX.row++[f] } (n+1)):=HTa.o.setR H5.o.2.1 (by rw[qJ,DU,HRe.o];exact H5.o.1) HNw.o;have z1:=HT6.o.cells.cs;have z2:=HT6.o.cells.free 19;have HBt:Hid (But (AZ g FX rvX) Y (w5.setCell ⟨g,18,none⟩ (.slice (some ⟨g5,0,none⟩) (rl+1) cap5))):=((But.ofBelow (br.drew.alloc lr _)).trans (H5.o.2.1.mono fun j hj=>.inr (.inr hj))).trans ((F4 _ _ _ _).mono fun j hj=>.inl hj);clear y1 y2;go_wp2_with fail;obtain⟨fu2,hfu2,hok2,hgo2⟩:=HNx.o;go_roundg fu2
       case measure=>omega
       case rel=>
        refine⟨rfl,dX.back f,hok2,HOk.o.2.1,hgo2,BO.step HBut.o HFX.o ⟨⟨vqX,FX,_,HT6.o.setS none rfl,fun j hj=>?_⟩,HBt.o.trans ((F4 _ _ _ _).mono fun j hj=>.inl hj)⟩⟩;rcases Lt HNw.o hj with h'|h'
        · exact .inl h'
        exact .inr (qI (by simp) h')
   | some f=>
    rw[hs]at c19;have c19':wr.cell? ⟨g,19,none⟩=some (.int .i64 f):=c19;have hf8:f<8:=hrow.2 f (by unfold Drr.line;rw[hs];exact qA ..);have hfm:((f:Int) == -1)=false:=by simp
    have HOk:Hid (Dp (Ag ps) (Az ps) (BI ns) 1500 d/\d.qs=d0.qs/\Drr.go (Az ps) (BI ns) (fu1+1) d=some (k,e)/\d.srv=some f):=⟨HA.o.ok,HA.o.qs,hgo,hs⟩
    obtain⟨dX,hdX⟩:=ex d;obtain⟨X,hX⟩:=ex wr;have HE:Hid (BO B g (.slice pa ps.length pcap) (.slice qa ns.length qcap) w X F rv dX (n+1)):=by rw[<- hX,<- hdX];exact HA.o.end_
    rw[hdX]at HOk;rw[hX]at c19' ⊢;clear hgo c19 hs hrow hdX hX HA HT1 HF1 HBr HW;obtain⟨vqX,FX,rvX,hTX,hFX⟩:=HE.o.at_;have HX:Hid (AC B g (.slice pa ps.length pcap) (.slice qa ns.length qcap) X vqX FX rvX dX (n+1)):=hTX;have HFX:Hid (∀ k,AZ g FX rvX k->AZ g F rv k\/w.heap.size<=k):=hFX;have HBX:Hid (Below B w X):=HE.o.foot HB.o.1 HB.o.2;clear hTX hFX;have hrowX:=MU HOk.o.1 (fun f hf=>by rw[HOk.o.2.1];exact HQ.o.2.2.2.1 f hf);have hlX:dX.line=f::dX.row:=by unfold Drr.line;rw[HOk.o.2.2.2]
    have hneX:=(HOk.o.1.active f).1 (by rw[hlX];exact qA ..);obtain⟨k1,r1,hk1⟩:∃ k1 r1,dX.qs f=k1::r1:=by
     cases hq:dX.qs f with
     | nil=>exact absurd hq hneX
     | cons a b=>exact⟨a,b,rfl⟩
    have HK1:Hid (dX.qs f=k1::r1):=hk1;have hk1l:k1<ps.length:=(HQ.o.2.2.2.2.1 f).2 k1 (by rw[<- HOk.o.2.1,hk1];exact qA ..);obtain⟨p1,hp1,-⟩:=Ab ps k1 hk1l;have HP1:Hid (ps[k1]? = some p1):=hp1;have hcrX:=HOk.o.1.cr_in HQ.o.2.2.1 f;have hqX:=(Gf HQ.o.2.1.each (by omega) f).2;have HCrX:Hid (dX.cr f<=1000000):=by show dX.cr f<=1000000;omega
    have HRl:Hid (dX.row.length<=8):=hrowX.1;obtain⟨b,hb⟩:=ex (decide (p1.size<=dX.cr f));have HCan:Hid (Calls Tryz.prog 219 #[.pointer (some ⟨g,0,none⟩)] X fun e w'=>e=.returned (.bool b)/\∃ m,w'=X.drewN m):=Vj B g pa pcap _ ps vqX FX rvX dX (n+1) X HX.o (HL.o X HBX.o).1 HQ.o.1.few f k1 r1 p1 HOk.o.2.2.2 hf8 hk1 hp1 b hb;have HBd:Hid (decide (p1.size<=dX.cr f)=b):=hb;clear hrowX hlX hneX hk1 hp1 hcrX hqX hb;go_wp2_with fail;refine HCan.o.mono ?_
    rintro e2 Y ⟨rfl,m,hY⟩;have hbY:zW X Y:=by rw[hY];exact qL br _
    have HY:Hid (AC B g (.slice pa ps.length pcap) (.slice qa ns.length qcap) Y vqX FX rvX dX (n+1)):=HX.o.later hbY;have HBY:Hid (Below B w Y/\B<=Y.heap.size):=⟨HBX.o.trans (hbY.mono (qI HB.o.1 HBX.o.size)),qI (qI HB.o.1 HBX.o.size) hbY.size⟩
    have HBut:Hid (But (AZ g F rv) w Y):=HE.o.but.trans (.ofBelow hbY);clear hY hbY;cases b with
    | true=>
     have hfit:p1.size<=dX.cr f:=vM HBd.o;have hxx:(k1,dX.sent (Az ps) f k1 r1)=(k,e):=by
      have hg:=HOk.o.2.2.1;rw[Drr.go,HOk.o.2.2.2]at hg;simp only[HK1.o,if_pos (show Az ps k1<=dX.cr f by rw[CP HP1.o];exact hfit)]at hg;exact Option.some.inj hg
     obtain⟨rfl,rfl⟩:=Prod.mk.inj hxx;have HTk:Hid (Calls Tryz.prog 220 #[.pointer (some ⟨g,0,none⟩)] Y fun e w'=>e=.returned (.int .i64 k1)/\BO B g (.slice pa ps.length pcap) (.slice qa ns.length qcap) Y w' FX rvX (dX.sent (Az ps) f k1 r1) n):=SE B g pa pcap _ ps vqX FX rvX dX n Y HY.o (HL.o Y HBY.o.1).1 HQ.o.2.2.2.2.2.1 HQ.o.1 f k1 r1 p1 HOk.o.2.2.2 hf8 HK1.o HP1.o HCrX.o hfit hn (by rw[HOk.o.2.1];exact(HQ.o.2.2.2.2.1 f).1) HBY.o.2;clear hfit hxx;go_wp2_with fail;refine HTk.o.mono ?_
     rintro e3 Z ⟨rfl,hZ⟩;have HZ:Hid (BO B g (.slice pa ps.length pcap) (.slice qa ns.length qcap) w Z F rv (dX.sent (Az ps) f k1 r1) n):=BO.step HBut.o HFX.o hZ;clear hZ;go_wp2
     go_ret;exact⟨rfl,HZ.o⟩
    | false=>
     have hbig:¬p1.size<=dX.cr f:=xE HBd.o;have HNx:Hid (∃ fu2,fu2<(fu1+1)/\Dp (Ag ps) (Az ps) (BI ns) 1500 (dX.back f)/\Drr.go (Az ps) (BI ns) fu2 (dX.back f)=some (k,e)):=by
      have hg:=HOk.o.2.2.1;have hok2:=HOk.o.1.back HOk.o.2.2.2 HK1.o (by rw[CP HP1.o];omega);rw[Drr.go,HOk.o.2.2.2]at hg;simp only[HK1.o,if_neg (show ¬Az ps k1<=dX.cr f by rw[CP HP1.o];exact hbig)]at hg;exact⟨fu1,by omega,hok2,hg⟩
     have c18:=HY.o.cells.cr_;have c19:Y.cell? ⟨g,19,none⟩=some (.int .i64 f):=by have:=HY.o.cells.cs;rw[HOk.o.2.2.2]at this;exact this
     have hb0:zW Y (Y.drew.alloc (.cells #[.int .i64 f] 3)):=br.drew.alloc lr _;have HTa:Hid (AC B g (.slice pa ps.length pcap) (.slice qa ns.length qcap) (Y.drew.alloc (.cells #[.int .i64 f] 3)) vqX FX rvX dX (n+1)):=HY.o.later hb0;have HNew:Hid (∀ j u,(ints [(f:Int)])[j]? = some u->(Y.drew.alloc (.cells #[.int .i64 f] 3)).cell? (Addr.add ⟨Y.heap.size,0,none⟩ j)=some u):=World.news_of_block (cs:=#[.int .i64 f]) (t:=3) (vZ Y.drew _);have HBs:Hid (B<=(Y.drew.alloc (.cells #[.int .i64 f] 3)).heap.size):=qI HBY.o.2 hb0.size;obtain⟨rl,hrle⟩:=ex dX.row.length;have HRe:Hid (dX.row.length=rl):=hrle;have hrl8:=HRl.o;rw[hrle]at hrl8;have c18a:(Y.alloc (.cells #[.int .i64 f] 3)).cell? ⟨g,18,none⟩=some rvX:=j7 ba c18;clear hb0 hrle hbig;go_wp2_with fail;go_region_law
      (first
       | (refine step_append_lies _ rfl _ _ 27 rfl B 3 i0 (.int .i64 0) 1 8 Tryz.underlying27 hi hz0 hz1 hz2 rfl (by decide) rvX rl (ints (Ai dX.row)) rfl (by have:=HTa.o.row;rwa [HRe.o] at this) ⟨Y.heap.size,0,none⟩ 1 1 (ints [(f:Int)]) rfl rfl HNew.o (D7 _) (by decide) (by unfold maxLen;omega) (by omega) HBs.o _ rfl ?_
          intro g5 cap5 w5 ho5 hg5 hat5 hlt5;have hbut:But (fun k=>rvX.ownBlock=some k) (Y.drew.alloc (.cells #[.int .i64 f] 3)) w5:=⟨hg5.os,hg5.tape,hg5.output,hg5.size,fun k hk hn=>hg5.block k hk (fun e=>hn e.symm)⟩
          have HT5:=HTa.o.cells.but hbut (fun e=>HTa.o.rowg e);have y1:=HT5.cr_;have y2:=HT5.free 18;have H5:Hid (w5.ownsRow B 3 1 (.slice (some ⟨g5,0,none⟩) (rl+1) cap5) (rl+1) (ints (Ai dX.row)++ints [(f:Int)])/\But (fun k=>rvX.ownBlock=some k) (Y.drew.alloc (.cells #[.int .i64 f] 3)) w5/\(rvX.ownBlock=some g5\/g5=(Y.drew.alloc (.cells #[.int .i64 f] 3)).heap.size)):=⟨ho5,hbut,hat5⟩
          clear ho5 hg5 hat5 hlt5 hbut HT5)
       | fail)
     all_goals
      have HNw:Hid (∀ k,(Value.slice (some ⟨g5,0,none⟩) (rl+1) cap5).ownBlock=some k->rvX.ownBlock=some k\/(Y.drew.alloc (.cells #[.int .i64 f] 3)).heap.size<=k):=fun j hj=>by
       have e:g5=j:=Option.some.inj hj;rcases H5.o.2.2 with h'|h'
       · exact .inl (by rw[<- e];exact h')
       exact .inr (by rw[<- e,h'];exact lr)
      have HT6:Hid (AC B g (.slice pa ps.length pcap) (.slice qa ns.length qcap) (w5.setCell ⟨g,18,none⟩ (.slice (some ⟨g5,0,none⟩) (rl+1) cap5)) vqX FX (.slice (some ⟨g5,0,none⟩) (rl+1) cap5) { dX with row:=dX.row++[f] } (n+1)):=HTa.o.setR H5.o.2.1 (by rw[qJ,DU,HRe.o];exact H5.o.1) HNw.o;have z1:=HT6.o.cells.cs;have z2:=HT6.o.cells.free 19;have HBt:Hid (But (AZ g FX rvX) Y (w5.setCell ⟨g,18,none⟩ (.slice (some ⟨g5,0,none⟩) (rl+1) cap5))):=((But.ofBelow (br.drew.alloc lr _)).trans (H5.o.2.1.mono fun j hj=>.inr (.inr hj))).trans ((F4 _ _ _ _).mono fun j hj=>.inl hj);clear y1 y2;go_wp2_with fail;obtain⟨fu2,hfu2,hok2,hgo2⟩:=HNx.o;go_roundg fu2
      case measure=>omega
      case rel=>
       refine⟨rfl,dX.back f,hok2,HOk.o.2.1,hgo2,BO.step HBut.o HFX.o ⟨⟨vqX,FX,_,HT6.o.setS none rfl,fun j hj=>?_⟩,HBt.o.trans ((F4 _ _ _ _).mono fun j hj=>.inl hj)⟩⟩;rcases Lt HNw.o hj with h'|h'
       · exact .inl h'
       exact .inr (qI (by simp) h')
end Go.Proofs.YtejlihcdfffafaaGreatDoor
