import Derived.Test.YtaoikkhlnhfkfaaGreatDoorU00
import Derived.Test.YtaoikkhlnhfkfaaGreatDoorU38
set_option maxHeartbeats 8000000
set_option maxRecDepth 100000
set_option linter.defProp false
set_option linter.unusedSimpArgs false
set_option linter.unusedVariables false
namespace Go.Proofs.YtaoikkhlnhfkfaaGreatDoor
open Option renaming some->A,none->sA
open RowKit renaming Below->vl,Hid->sE
open Proofs.Tryz renaming prog->sr
open Go.RowKit
variable {B g:Nat}{O I:Vl}{w w':M}{F:Nat ->Nat ->Prop}{d:Ð}
def XA B g(aa:oA) O(I:Vl) ps(Y:Nat->Vl) F(G:Vl) d n(w:M)(h:AU B g (.s aa ps.length O) I w Y F G d (n+1))(a0:AL w aa ps)(a2:∀ad,aa=A ad->0<ps.length->ad.block<B)(aW:Ar ps) f k(r:lN) p(am:d.i=A f)(V:f<8)(ax:d.a f=k::r)(U:ps[k]? = A p)(av:d.cr f<=1000000)(al:p.h<=d.cr f)(an:n<=1000)(a1:(d.a f).length<=300)(aq:B<=w.heap.size):Ë 161 #[.pp g 0] w λe w'=>e=.r (.q (k:Int))/\Cj B g (.s aa ps.length O) I w w' F G (d.j (Bg ps) f k r) n:=by
 let ac:=Ap U;obtain⟨E,off,rfl,a5,a4⟩:=a0.h N;let aE:E<B:=a2 (C E off) J N;let X:∀W,vl B w W->W.cell? (C E (off+k*3+1))=A (.q p.h):=λW aG=>by
  rw[aG.cell (p:=(C E (off+k*3+1))) aE];exact(a4 k p U).2.1
 obtain⟨-,-,a6,-,-,-⟩:=Bw (aW.d _ p U).1;let aB:=h.b f V;rw[ax]at aB;obtain⟨R,W,cap,ao,aL,S,T,-,aC,aI⟩:=aB.first;rw[ax,Ċ]at a1;let aN:=D7 U;by_cases Z:r=[]
 .
  subst Z;let e:d.j (Bg ps) f k []={d with a:=A8 d.a f [],cr:=A8 d.cr f 0,i:=sA}:=Æ J;rw[e];by_cases aw:1<cap
  . exact U0 B g k E off O ps.length I Y F G d n w h p.h X N ac f am V N av al an sm aq R W cap ao S T aw (aC aw)
  obtain⟨-,a3⟩:=aI N;exact Xf B g k E off O ps.length I Y F G d n w h p.h X N ac f am V N av al an sm aq R W cap ao aL S T N a3
 let e:d.j (Bg ps) f k r={d with a:=A8 d.a f r,cr:=A8 d.cr f (d.cr f-p.h)}:=by rw[<-aN];exact Ä Z
 rw[e];let a7:0<r.length:=k9.2 Z;exact U2 B g k E off O ps.length I Y F G d n w h p.h X N ac f r am V N av al an N aq R W cap ao S T N (aC N) Z
def Cj.a{E:Vl}{n}(h:Cj B g O I w w' F E d n)(G:B<=w.heap.size)(U:∀k,Bj g F E k->B<=k):=h.r.d G U
def Cj.u{w1 w2:M}{aa}{V ab:Vl}{E ai}(G:Ç (Bj g F V) w w1)(Y:∀k,Bj g aa ab k->Bj g F V k\/w.heap.size<=k)(h:Cj B g O I w1 w2 aa ab E ai):Cj B g O I w w2 F V E ai:=by
 obtain⟨Z,W,X,U,j⟩:=h.e;refine⟨⟨Z,W,X,U,λk X=>?_⟩,?_⟩
 .
  obtain U|U:=j k X
  . exact Y k U
  have:=G.h;exact .inr N
 refine⟨h.r.x.trans G.x,h.r.p.trans G.p,h.r.i.trans G.i,rX G.h h.r.h,λj Z X=>?_⟩;rw[h.r.block j (rZ Z G.h) (λW=>?_)]
 . exact G.block j Z X
 obtain U|U:=Y j W
 . exact X U
 omega
def QT{fl U I se}(h:DN fl U I se d)(Y:∀f,8<=f->d.a f=[]):d.row.length<=8/\∀f,f∈d.g->f<8:=by
 let G:∀f,f∈d.g->f<8:=λf O=>by
  obtain E|E:=nR f 8
  . exact E
  exact absurd (Y f E) ((h.a f).1 O)
 let a:=Ze (λ_=>1) 1 8 d.g h.b G (λ_=>lr);let Z:(d.g.map λ_=>1).sum=d.g.length:=by
  generalize d.g=l;induction l with
  |nil=>rfl
  |cons a r V=>simp only[jN,j4,Ċ,V];omega
 let a:d.row.length<=d.g.length:=by
  unfold Ð.g;cases d.i<;>simp
 exact⟨N,G⟩
structure lC (B g:Nat)(pv qv:Vl)(ps:List Pk)(ns:lZ)(w wr:M)(F:Nat->Nat->Prop)(rv:Vl)(n:Nat)(Q:Nat->lN)(x:Nat×Ð)(fu:Nat)(d:Ð):Prop where
 y:DN (Aj ps) (Bg ps) (Cb ns) 1500 d
 a:d.a=Q
 h:Ð.h (Bg ps) (Cb ns) fu d=A x
 l:Cj B g pv qv w wr F rv d (n+1)
def XX{a:oA}{xs:lZ}(h:Bc w a xs)(I:∀ad,a=A ad->ad.block<B)(E:vl B w w'):Bc w' a xs:=by
 obtain rfl|⟨b,off,rfl,G,U⟩:=h
 . exact .inl J
 let O:b<B:=I (C b off) J;refine .inr ⟨b,off,J,rZ G E.size,λi x V=>?_⟩;rw[E.cell (p:=(C b (off+i))) O];exact U i x V
def nA{q:Prop}(h:q:=by
 have c18:=HY.o.cells.k;have c19:Y.cell? ⟨g,19,none⟩=some (.int .i64 f):=by have:=HY.o.cells.d;rw[HOk.o.2.2.2]at this;exact this
 have hb0:zW Y (Y.drew.alloc (.cells #[.int .i64 f] 3)):=br.drew.alloc lr _;have HTa:Hid (AU B g (.slice pa ps.length pcap) (.slice qa ns.length qcap) (Y.drew.alloc (.cells #[.int .i64 f] 3)) vqX FX rvX dX (n+1)):=HY.o.later hb0;have HNew:Hid (∀j u,(É [(f:Int)])[j]? = some u->(Y.drew.alloc (.cells #[.int .i64 f] 3)).cell? (Addr.add ⟨Y.heap.size,0,none⟩ j)=some u):=World.news_of_block (cs:=#[.int .i64 f]) (t:=3) (ř Y.drew _);have HBs:Hid (B<=(Y.drew.alloc (.cells #[.int .i64 f] 3)).heap.size):=rX HBY.o.2 hb0.size;obtain⟨rl,hrle⟩:=ex dX.row.length;have HRe:Hid (dX.row.length=rl):=hrle;have hrl8:=HRl.o;rw[hrle]at hrl8;have c18a:(Y.alloc (.cells #[.int .i64 f] 3)).cell? ⟨g,18,none⟩=some rvX:=jf ba c18;clear hb0 hrle hbig;go_wp2_with fail;go_region_law
  (first
   | (refine step_append_lies _ rfl _ _ 23 rfl B 3 i0 (.int .i64 0) 1 8 Tryz.underlying23 hi hz0 hz1 hz2 rfl (by decide) rvX rl (É (Au dX.row)) rfl (by have:=HTa.o.row;rwa[HRe.o]at this) ⟨Y.heap.size,0,none⟩ 1 1 (É [(f:Int)]) rfl rfl HNew.o (Ff _) (by decide) (by unfold maxLen;omega) (by omega) HBs.o _ rfl ?_
      intro g5 cap5 w5 ho5 hg5 hat5 hlt5;have hbut:Ç (λk=>rvX.ownBlock=some k) (Y.drew.alloc (.cells #[.int .i64 f] 3)) w5:=⟨hg5.os,hg5.tape,hg5.output,hg5.size,λk hk hn=>hg5.block k hk (λe=>hn e.symm)⟩
      have HT5:=HTa.o.cells.r hbut (λe=>HTa.o.e e);have y1:=HT5.k;have y2:=HT5.h 18;have H5:Hid (w5.ownsRow B 3 1 (.slice (some ⟨g5,0,none⟩) (rl+1) cap5) (rl+1) (É (Au dX.row)++É [(f:Int)])/\Ç (λk=>rvX.ownBlock=some k) (Y.drew.alloc (.cells #[.int .i64 f] 3)) w5/\(rvX.ownBlock=some g5\/g5=(Y.drew.alloc (.cells #[.int .i64 f] 3)).heap.size)):=⟨ho5,hbut,hat5⟩
      clear ho5 hg5 hat5 hlt5 hbut HT5)
   |fail)
 all_goals
  have HNw:Hid (∀k,(Value.slice (some ⟨g5,0,none⟩) (rl+1) cap5).ownBlock=some k->rvX.ownBlock=some k\/(Y.drew.alloc (.cells #[.int .i64 f] 3)).heap.size<=k):=λj hj=>by
   have e:g5=j:=Ö hj;obtain h'|h':=H5.o.2.2
   . exact .inl (by rw[<-e];exact h')
   exact .inr (by rw[<-e,h'];exact lr)
  have HT6:Hid (AU B g (.slice pa ps.length pcap) (.slice qa ns.length qcap) (w5.setCell ⟨g,18,none⟩ (.slice (some ⟨g5,0,none⟩) (rl+1) cap5)) vqX FX (.slice (some ⟨g5,0,none⟩) (rl+1) cap5) {dX with row:=dX.row++[f]} (n+1)):=HTa.o.j H5.o.2.1 (by rw[ý,FJ,HRe.o];exact H5.o.1) HNw.o;have z1:=HT6.o.cells.d;have z2:=HT6.o.cells.h 19;have HBt:Hid (Ç (Bj g FX rvX) Y (w5.setCell ⟨g,18,none⟩ (.slice (some ⟨g5,0,none⟩) (rl+1) cap5))):=((Ç.e (br.drew.alloc lr _)).G (H5.o.2.1.l λj hj=>.inr (.inr hj))).G ((Ia _ _ _ _).l λj hj=>.inl hj);clear y1 y2;go_wp2_with fail;obtain⟨fu2,hfu2,hok2,hgo2⟩:=HNx.o;go_roundg fu2
  case measure=>omega
  case rel=>
   refine⟨rfl,dX.l f,hok2,HOk.o.2.1,hgo2,Cj.u HBut.o HFX.o ⟨⟨vqX,FX,_,HT6.o.s none rfl,λj hj=>?_⟩,HBt.o.G ((Ia _ _ _ _).l λj hj=>.inl hj)⟩⟩;obtain h'|h':=OI HNw.o hj
   . exact .inl h'
   exact .inr (rX (by simp) h')):q:=h
def n5{q:Prop}(h:q:=by
 obtain⟨rfl,rfl⟩:=Prod.mk.inj hxx;have HTk:Hid (Ë 161 #[.pointer (some ⟨g,0,none⟩)] Y λe w'=>e=.returned (.int .i64 k1)/\Cj B g (.slice pa ps.length pcap) (.slice qa ns.length qcap) Y w' FX rvX (dX.j (Bg ps) f k1 r1) n):=XA B g pa pcap _ ps vqX FX rvX dX n Y HY.o (HL.o Y HBY.o.1).1 HQ.o.2.2.2.2.2.1 HQ.o.1 f k1 r1 p1 HOk.o.2.2.2 hf8 HK1.o HP1.o HCrX.o hfit hn (by rw[HOk.o.2.1];exact(HQ.o.2.2.2.2.1 f).1) HBY.o.2;clear hfit hxx;go_wp2_with fail;refine HTk.o.mono ?_
 rintro e3 Z⟨rfl,hZ⟩;have HZ:Hid (Cj B g (.slice pa ps.length pcap) (.slice qa ns.length qcap) w Z F rv (dX.j (Bg ps) f k1 r1) n):=Cj.u HBut.o HFX.o hZ;clear hZ;go_wp2
 go_ret;exact⟨rfl,HZ.o⟩):q:=h
def o5{q:Prop}(h:q:=by
 rw[Ð.h,HOk.o.2.2.2]at hg;simp only[HK1.o,Æ (show Bg ps k1<=dX.cr f by rw[D7 HP1.o];exact hfit)]at hg;exact Ö hg):q:=h
def qP B g(pa:oA) pcap(qa:oA) qcap ps ns vq F rv d0 n w(h:AU B g (.slice pa ps.length pcap) (.slice qa ns.length qcap) w vq F rv d0 (n+1))(hl:AL w pa ps)(hpB:∀ad,pa=A ad->0<ps.length->ad.block<B)(hq:Bc w qa ns)(hqB:∀ad,qa=A ad->ad.block<B)(ho:Ar ps)(hns:Ef 1 3000 ns)(hok:DN (Aj ps) (Bg ps) (Cb ns) 1500 d0)(hfew:∀f,8<=f->d0.a f=[])(hq3:∀f,(d0.a f).length<=300/\∀k,k∈d0.a f->k<ps.length)(hn:n<=1000)(hB:B<=w.heap.size) fu k e(hgo:Ð.h (Bg ps) (Cb ns) fu d0=A (k,e)):Calls sr 147 #[.pointer (A ⟨g,0,sA⟩)] w λe' w'=>e'=.returned (.int .i64 k)/\Cj B g (.slice pa ps.length pcap) (.slice qa ns.length qcap) w w' F rv e n:=by
 obtain⟨i0,hi,hz0,hz1,hz2⟩:=ó Tryz.b;have hqu:∀f,1<=Cb ns f:=λf=>(J2 hns.d (by omega) f).1
 have HS0:sE (lC B g (.slice pa ps.length pcap) (.slice qa ns.length qcap) ps ns w w F rv n d0.a (k,e) fu d0):=⟨hok,J,hgo,⟨vq,F,rv,h,λk hk=>.inl hk⟩,Ç.I _ _⟩
 have HB:sE (B<=w.heap.size/\∀k,Bj g F rv k->B<=k):=⟨hB,λk hk=>(h.a k hk).1⟩
 have HL:sE (∀W,vl B w W->AL W pa ps/\Bc W qa ns):=λW hb=>⟨hl.a hpB hb,XX hq hqB hb⟩
 have HQ:sE (Ar ps/\Ef 1 3000 ns/\(∀f,1<=Cb ns f)/\(∀f,8<=f->d0.a f=[])/\(∀f,(d0.a f).length<=300/\∀k,k∈d0.a f->k<ps.length)/\(∀ad,pa=A ad->0<ps.length->ad.block<B)/\(∀ad,qa=A ad->ad.block<B)):=⟨ho,hns,hqu,hfew,hq3,hpB,hqB⟩
 clear h hl hpB hq hqB ho hns hok hfew hq3 hB hgo hqu;go_in
 go_wp2_with fail;go_loopg[2] fu (λgk r2 wr=>r2=.int .i64 0/\∃d,lC B g (.slice pa ps.length pcap) (.slice qa ns.length qcap) ps ns w wr F rv n d0.a (k,e) gk d)
 case atStart=>exact⟨J,d0,HS0.o⟩
 case round=>
  obtain⟨rfl,d,hat⟩:=hrel;have HA:sE (lC B g (.slice pa ps.length pcap) (.slice qa ns.length qcap) ps ns w wr F rv n d0.a (k,e) gk d):=hat;obtain⟨vq1,F1,rv1,hT1,hF1⟩:=hat.l.e;have HT1:sE (AU B g (.slice pa ps.length pcap) (.slice qa ns.length qcap) wr vq1 F1 rv1 d (n+1)):=hT1;have HF1:sE (∀k,Bj g F1 rv1 k->Bj g F rv k\/w.heap.size<=k):=hF1;have HBr:sE (vl B w wr):=hat.l.a HB.o.1 HB.o.2;have c19:=hT1.cells.d;have hgo:=hat.h;have HW:sE (B<=wr.heap.size):=rX HB.o.1 HBr.o.size;have hfew':∀f,8<=f->d.a f=[]:=λf hf=>by rw[hat.a];exact HQ.o.2.2.2.1 f hf
  have hrow:=QT hat.y hfew';clear hat hT1 hF1 hfew';cases gk with
  |zero=>simp[Ð.h]at hgo
  |succ fu1=>
   cases hs:d.i with
   |none=>
    rw[Ð.h,hs]at hgo;simp only at hgo;cases hr:d.row with
    |nil=>rw[hr]at hgo;cases hgo
    |cons f r=>
     rw[hr]at hgo;simp only at hgo;rw[hs]at c19;have c19':wr.cell? ⟨g,19,sA⟩=A (.int .i64 (-1)):=c19;have hf8:f<8:=hrow.2 f (by unfold Ð.g;rw[hs];simp only;rw[hr];exact ï ..);have hcr:=HA.o.y.i HQ.o.2.2.1 f;have hqf:=(J2 HQ.o.2.1.d (by omega) f).2;have HSv:sE (Ë 159 #[.pointer (A ⟨g,0,sA⟩)] wr λe w'=>e=.returned (.tuple #[])/\Cj B g (.slice pa ps.length pcap) (.slice qa ns.length qcap) wr w' F1 rv1 (d.p (Cb ns) f r) (n+1)):=kI B g _ qa qcap ns vq1 F1 rv1 d (n+1) wr HT1.o (HL.o wr HBr.o).2 HQ.o.2.1 f r hr hf8 (HA.o.y.u f) (by omega) hrow.1 HW.o HQ.o.2.2.2.2.2.2;have HOk:sE (DN (Aj ps) (Bg ps) (Cb ns) 1500 (d.p (Cb ns) f r)/\(d.p (Cb ns) f r).a=d0.a/\Ð.h (Bg ps) (Cb ns) fu1 (d.p (Cb ns) f r)=A (k,e)/\(d.p (Cb ns) f r).i=A f):=⟨HA.o.y.p HQ.o.2.2.1 hs hr,HA.o.a,hgo,J⟩
     obtain⟨dX,hdX⟩:=ex (d.p (Cb ns) f r);rw[hdX]at HSv HOk;clear hgo c19 hs hr hrow hcr hqf hdX;go_wp2_with fail;refine HSv.o.mono ?_
     rintro e1 X⟨rfl,hE⟩;have HE:sE (Cj B g (.slice pa ps.length pcap) (.slice qa ns.length qcap) w X F rv dX (n+1)):=Cj.u HA.o.l.r HF1.o hE;have HFu:sE (fu1<=fu1+1):=œ _;clear hE c19';obtain⟨vqX,FX,rvX,hTX,hFX⟩:=HE.o.e;have HX:sE (AU B g (.slice pa ps.length pcap) (.slice qa ns.length qcap) X vqX FX rvX dX (n+1)):=hTX;have HFX:sE (∀k,Bj g FX rvX k->Bj g F rv k\/w.heap.size<=k):=hFX;have HBX:sE (vl B w X):=HE.o.a HB.o.1 HB.o.2;clear hTX hFX;have hrowX:=QT HOk.o.1 (λf hf=>by rw[HOk.o.2.1];exact HQ.o.2.2.2.1 f hf);have hlX:dX.g=f::dX.row:=by unfold Ð.g;rw[HOk.o.2.2.2]
     have hneX:=(HOk.o.1.a f).1 (by rw[hlX];exact ï ..);obtain⟨k1,r1,hk1⟩:∃k1 r1,dX.a f=k1::r1:=by
      cases hq:dX.a f with
      |nil=>exact absurd hq hneX
      |cons a b=>exact⟨a,b,J⟩
     have HK1:sE (dX.a f=k1::r1):=hk1;have hk1l:k1<ps.length:=(HQ.o.2.2.2.2.1 f).2 k1 (by rw[<-HOk.o.2.1,hk1];exact ï ..);obtain⟨p1,hp1,-⟩:=Ao ps k1 hk1l;have HP1:sE (ps[k1]? = A p1):=hp1;have hcrX:=HOk.o.1.i HQ.o.2.2.1 f;have hqX:=(J2 HQ.o.2.1.d (by omega) f).2;have HCrX:sE (dX.cr f<=1000000):=by show dX.cr f<=1000000;omega
     have HRl:sE (dX.row.length<=8):=hrowX.1;obtain⟨b,hb⟩:=ex (decide (p1.h<=dX.cr f));have HCan:sE (Ë 160 #[.pointer (A ⟨g,0,sA⟩)] X λe w'=>e=.returned (.bool b)/\∃m,w'=X.drewN m):=bY B g pa pcap _ ps vqX FX rvX dX (n+1) X HX.o (HL.o X HBX.o).1 HQ.o.1.j f k1 r1 p1 HOk.o.2.2.2 hf8 hk1 hp1 b hb;have HBd:sE (decide (p1.h<=dX.cr f)=b):=hb;clear hrowX hlX hneX hk1 hp1 hcrX hqX hb;go_wp2_with fail;refine HCan.o.mono ?_
     rintro e2 Y⟨rfl,m,hY⟩;have hbY:zW X Y:=by rw[hY];exact ì br _
     have HY:sE (AU B g (.slice pa ps.length pcap) (.slice qa ns.length qcap) Y vqX FX rvX dX (n+1)):=HX.o.later hbY;have HBY:sE (vl B w Y/\B<=Y.heap.size):=⟨HBX.o.trans (hbY.mono (rX HB.o.1 HBX.o.size)),rX (rX HB.o.1 HBX.o.size) hbY.size⟩
     have HBut:sE (Ç (Bj g F rv) w Y):=HE.o.r.G (.e hbY);clear hY hbY;cases b with
     |true=>
      have hfit:p1.h<=dX.cr f:=Θ HBd.o;have hxx:(k1,dX.j (Bg ps) f k1 r1)=(k,e):=by
       have hg:=HOk.o.2.2.1;cases fu1 with
       |zero=>simp[Ð.h]at hg
       |succ fu2=>
        exact o5
      exact n5
     |false=>
      have hbig:¬p1.h<=dX.cr f:=j7 HBd.o;have HNx:sE (∃fu2,fu2<(fu1+1)/\DN (Aj ps) (Bg ps) (Cb ns) 1500 (dX.l f)/\Ð.h (Bg ps) (Cb ns) fu2 (dX.l f)=A (k,e)):=by
       have hg:=HOk.o.2.2.1;have hok2:=HOk.o.1.l HOk.o.2.2.2 HK1.o (by rw[D7 HP1.o];omega);cases fu1 with
       |zero=>simp[Ð.h]at hg
       |succ fu2=>
        rw[Ð.h,HOk.o.2.2.2]at hg;simp only[HK1.o,Ä (show ¬Bg ps k1<=dX.cr f by rw[D7 HP1.o];exact hbig)]at hg;exact⟨fu2,by omega,hok2,hg⟩
      exact nA
   |some f=>
    rw[hs]at c19;have c19':wr.cell? ⟨g,19,sA⟩=A (.int .i64 f):=c19;have hf8:f<8:=hrow.2 f (by unfold Ð.g;rw[hs];exact ï ..);have hfm:((f:Int)==-1)=false:=by simp
    have HOk:sE (DN (Aj ps) (Bg ps) (Cb ns) 1500 d/\d.a=d0.a/\Ð.h (Bg ps) (Cb ns) (fu1+1) d=A (k,e)/\d.i=A f):=⟨HA.o.y,HA.o.a,hgo,hs⟩
    obtain⟨dX,hdX⟩:=ex d;obtain⟨X,hX⟩:=ex wr;have HE:sE (Cj B g (.slice pa ps.length pcap) (.slice qa ns.length qcap) w X F rv dX (n+1)):=by rw[<-hX,<-hdX];exact HA.o.l
    rw[hdX]at HOk;rw[hX]at c19'⊢;clear hgo c19 hs hrow hdX hX HA HT1 HF1 HBr HW;obtain⟨vqX,FX,rvX,hTX,hFX⟩:=HE.o.e;have HX:sE (AU B g (.slice pa ps.length pcap) (.slice qa ns.length qcap) X vqX FX rvX dX (n+1)):=hTX;have HFX:sE (∀k,Bj g FX rvX k->Bj g F rv k\/w.heap.size<=k):=hFX;have HBX:sE (vl B w X):=HE.o.a HB.o.1 HB.o.2;clear hTX hFX;have hrowX:=QT HOk.o.1 (λf hf=>by rw[HOk.o.2.1];exact HQ.o.2.2.2.1 f hf);have hlX:dX.g=f::dX.row:=by unfold Ð.g;rw[HOk.o.2.2.2]
    have hneX:=(HOk.o.1.a f).1 (by rw[hlX];exact ï ..);obtain⟨k1,r1,hk1⟩:∃k1 r1,dX.a f=k1::r1:=by
     cases hq:dX.a f with
     |nil=>exact absurd hq hneX
     |cons a b=>exact⟨a,b,J⟩
    have HK1:sE (dX.a f=k1::r1):=hk1;have hk1l:k1<ps.length:=(HQ.o.2.2.2.2.1 f).2 k1 (by rw[<-HOk.o.2.1,hk1];exact ï ..);obtain⟨p1,hp1,-⟩:=Ao ps k1 hk1l;have HP1:sE (ps[k1]? = A p1):=hp1;have hcrX:=HOk.o.1.i HQ.o.2.2.1 f;have hqX:=(J2 HQ.o.2.1.d (by omega) f).2;have HCrX:sE (dX.cr f<=1000000):=by show dX.cr f<=1000000;omega
    have HRl:sE (dX.row.length<=8):=hrowX.1;obtain⟨b,hb⟩:=ex (decide (p1.h<=dX.cr f));have HCan:sE (Ë 160 #[.pointer (A ⟨g,0,sA⟩)] X λe w'=>e=.returned (.bool b)/\∃m,w'=X.drewN m):=bY B g pa pcap _ ps vqX FX rvX dX (n+1) X HX.o (HL.o X HBX.o).1 HQ.o.1.j f k1 r1 p1 HOk.o.2.2.2 hf8 hk1 hp1 b hb;have HBd:sE (decide (p1.h<=dX.cr f)=b):=hb;clear hrowX hlX hneX hk1 hp1 hcrX hqX hb;go_wp2_with fail;refine HCan.o.mono ?_
    rintro e2 Y⟨rfl,m,hY⟩;have hbY:zW X Y:=by rw[hY];exact ì br _
    have HY:sE (AU B g (.slice pa ps.length pcap) (.slice qa ns.length qcap) Y vqX FX rvX dX (n+1)):=HX.o.later hbY;have HBY:sE (vl B w Y/\B<=Y.heap.size):=⟨HBX.o.trans (hbY.mono (rX HB.o.1 HBX.o.size)),rX (rX HB.o.1 HBX.o.size) hbY.size⟩
    have HBut:sE (Ç (Bj g F rv) w Y):=HE.o.r.G (.e hbY);clear hY hbY;cases b with
    |true=>
     have hfit:p1.h<=dX.cr f:=Θ HBd.o;have hxx:(k1,dX.j (Bg ps) f k1 r1)=(k,e):=by
      have hg:=HOk.o.2.2.1;exact o5
     exact n5
    |false=>
     have hbig:¬p1.h<=dX.cr f:=j7 HBd.o;have HNx:sE (∃fu2,fu2<(fu1+1)/\DN (Aj ps) (Bg ps) (Cb ns) 1500 (dX.l f)/\Ð.h (Bg ps) (Cb ns) fu2 (dX.l f)=A (k,e)):=by
      have hg:=HOk.o.2.2.1;have hok2:=HOk.o.1.l HOk.o.2.2.2 HK1.o (by rw[D7 HP1.o];omega);rw[Ð.h,HOk.o.2.2.2]at hg;simp only[HK1.o,Ä (show ¬Bg ps k1<=dX.cr f by rw[D7 HP1.o];exact hbig)]at hg;exact⟨fu1,by omega,hok2,hg⟩
     exact nA
variable {D:Nat ->Prop}{q:TQ}{w:M}{k:Nat}{p:Pk}
def Ny (g:Nat):Vl:=.agg #[.func (.func 146) #[.pp g 0] #[],.func (.func 147) #[.pp g 0] #[],.func (.func 148) #[.pp g 0] #[]]
section
variable (B:Nat)(W0:World)(g:Nat)(pa:Option Addr)(pcap:Nat)(qa:Option Addr)(qcap:Nat)(ps:List Pk)(ns:List Int)
structure Nr:Prop where
 b:AL W0 pa ps
 i:Bc W0 qa ns
 a:∀ad,pa=A ad->0<ps.length->ad.block<B
 e:∀ad,qa=A ad->ad.block<B
 y:Ar ps
 h:Ef 1 3000 ns
end
section
variable {B:Nat}{W0:World}{g:Nat}{pa:Option Addr}{pcap:Nat}{qa:Option Addr}{qcap:Nat}{ps:List Pk}{ns:List Int}
def j6 (E:Nr B W0 pa qa ps ns)(h:Cy B W0 g (.s pa ps.length pcap) (.s qa ns.length qcap) w D q)(G:Np ps ns 1500 q)(ax:q.n<=300)(U:ps[k]? = A p):Ë 146 #[.pp g 0,.q (k:Int)] w λe w'=>e=.r (.t #[])/\Bh (Cy B W0 g (.s pa ps.length pcap) (.s qa ns.length qcap)) w w' D ((BF ps ns).e q k):=by
 obtain⟨X,F,S,R,Q⟩:=h.parts;let T:=E.b.a E.a h.b;let V:=TZ E.y k;let W:p.b=((Aj ps k:Nat):Int):=by
  rw[G8 U];have:=Bw (E.y.d _ p U).1;omega
 let P:(q.d.a (Aj ps k)).length<=300:=by
  have:=Y0 q.d.a 8 V;have:=G.b;omega
 by_cases O:q.d.a (Aj ps k)=[]
 .
  refine (TE B g pa pcap _ ps X F S q.d q.n w R T E.y.j k (Aj ps k) p U W V O ((by
   let an:∀f,f∈q.d.g->f<8:=λf am=>by
    obtain Y|Y:=nR f 8
    . exact Y
    exact absurd (G.j f Y) ((G.l.a f).1 am)
   let av:=Ze (λ_=>1) 1 8 q.d.g G.l.b an (λ_=>lr);let aq:(q.d.g.map λ_=>1).sum=q.d.g.length:=by
    generalize q.d.g=l;induction l with
    |nil=>rfl
    |cons a r ao=>simp only[jN,j4,Ċ,ao];omega
   let aw:q.d.row.length<=q.d.g.length:=by
    unfold Ð.g;cases q.d.i<;>simp
   omega)) N h.t).mono ?_
  rintro e w'⟨rfl,Z⟩;let I:Aj ps k ∉ q.d.g:=λI=>(G.l.a _).1 I O
  let a:((BF ps ns).e q k).d={q.d with a:=A8 q.d.a (Aj ps k) (q.d.a (Aj ps k)++[k]),row:=q.d.row++[Aj ps k]}:=by
   show q.d.e (Aj ps) k=_
   unfold Ð.e;rw[Ä I]
  exact⟨J,Cj.h h Q (by rw[a];exact Z)⟩
 refine(Uy B g pa pcap _ ps X F S q.d q.n w R T E.y.j k (Aj ps k) p U W V O P N h.t).mono ?_
 rintro e w'⟨rfl,Z⟩;let I:Aj ps k∈q.d.g:=(G.l.a _).2 O;let a:((BF ps ns).e q k).d={q.d with a:=A8 q.d.a (Aj ps k) (q.d.a (Aj ps k)++[k])}:=by
  show q.d.e (Aj ps) k=_
  unfold Ð.e;rw[Æ I]
 exact⟨J,Cj.h h Q (by rw[a];exact Z)⟩
def kF (E:Nr B W0 pa qa ps ns)(h:Cy B W0 g (.s pa ps.length pcap) (.s qa ns.length qcap) w D q)(G:Np ps ns 1500 q)(ac:0<q.n)(al:q.n<=300)(ab:∀f,(q.d.a f).length<=300/\∀k,k∈q.d.a f->k<ps.length):Ë 147 #[.pp g 0] w λe w'=>e=.r (.q ((BF ps ns).pick q:Nat))/\Bh (Cy B W0 g (.s pa ps.length pcap) (.s qa ns.length qcap)) w w' D ((BF ps ns).h q):=by
 obtain⟨O,F,V,I,T⟩:=h.parts;let U:∀f,1<=Cb ns f:=λf=>(J2 E.h.d N f).1
 obtain⟨k,e,X,Z,W,-⟩:=G.i U ac;obtain⟨n,Y⟩:∃n,q.n=n+1:=⟨q.n-1,N⟩
 rw[Y]at I;refine(qP B g pa pcap qa qcap ps ns O F V q.d n w I (E.b.a E.a h.b) E.a (XX E.i E.e h.b) E.e E.y E.h G.l G.j ab N h.t (Yk ps q.d) k e X).mono ?_
 rintro e' w'⟨rfl,O⟩;rw[Z,W];exact⟨J,Cj.h h T (by rw[show q.n-1=n by omega];exact O)⟩
def Wv{O I:Vl}(h:Cy B W0 g O I w D q):Calls sr 209 #[Ny g] w λe w'=>e=.r (.q (q.n:Int))/\Bh (Cy B W0 g O I) w w' D q:=by
 have E:=qX h;clear h;unfold Ny;go_in
 go_wp2_with fail;refine(qg B W0 g O I D q _ (E.o.alloc _)).mono ?_
 rintro e Z⟨rfl,rfl⟩;go_wp2
 go_ret;exact⟨J,E.o.u ba⟩
def Xl (Z:Nr B W0 pa qa ps ns)(h:Cy B W0 g (.s pa ps.length pcap) (.s qa ns.length qcap) w D q)(E:Np ps ns 1500 q)(O:0<q.n)(ac:q.n<=300)(I:∀f,(q.d.a f).length<=300/\∀k,k∈q.d.a f->k<ps.length):Calls sr 208 #[Ny g] w λe w'=>e=.r (.q ((BF ps ns).pick q:Nat))/\Bh (Cy B W0 g (.s pa ps.length pcap) (.s qa ns.length qcap)) w w' D ((BF ps ns).h q):=by
 have V:sE (∀w',Cy B W0 g (.s pa ps.length pcap) (.s qa ns.length qcap) w' D q->Ë 147 #[.pp g 0] w' λe G=>e=.r (.q ((BF ps ns).pick q:Nat))/\Bh (Cy B W0 g (.s pa ps.length pcap) (.s qa ns.length qcap)) w' G D ((BF ps ns).h q)):=λw' U=>kF Z U E O ac I
 have Y:=qX h;clear h E I O;unfold Ny;go_in
 go_wp2_with fail;refine(V.o _ (Y.o.alloc _)).mono ?_
 rintro e U⟨rfl,G⟩;have V:sE (Bh (Cy B W0 g (.s pa ps.length pcap) (.s qa ns.length qcap)) w U D ((BF ps ns).h q)):=G.a ba;clear G;go_wp2
 go_ret;exact⟨J,V.o⟩
def WW (Y:Nr B W0 pa qa ps ns)(h:Cy B W0 g (.s pa ps.length pcap) (.s qa ns.length qcap) w D q)(G:Np ps ns 1500 q)(ab:q.n<=300)(E:ps[k]? = A p):Calls sr 207 #[Ny g,.q (k:Int)] w λe w'=>e=.r (.t #[])/\Bh (Cy B W0 g (.s pa ps.length pcap) (.s qa ns.length qcap)) w w' D ((BF ps ns).e q k):=by
 have I:sE (∀w',Cy B W0 g (.s pa ps.length pcap) (.s qa ns.length qcap) w' D q->Ë 146 #[.pp g 0,.q (k:Int)] w' λe Z=>e=.r (.t #[])/\Bh (Cy B W0 g (.s pa ps.length pcap) (.s qa ns.length qcap)) w' Z D ((BF ps ns).e q k)):=λw' O=>j6 Y O G ab E
 have V:=qX h;clear h G E;unfold Ny;go_in
 go_wp2_with fail;refine(I.o _ (V.o.alloc _)).mono ?_
 rintro e O⟨rfl,I⟩;have U:sE (Bh (Cy B W0 g (.s pa ps.length pcap) (.s qa ns.length qcap)) w O D ((BF ps ns).e q k)):=I.a ba;clear I;go_wp2
 go_end0;exact⟨J,U.o⟩
end
def qA (w:M)(O I:Vl)(t:tI):AU w.heap.size w.heap.size O I (w.alloc (.c #[O,I,.sn,.sn,.sn,.sn,.sn,.sn,.sn,.sn,.q 0,.q 0,.q 0,.q 0,.q 0,.q 0,.q 0,.q 0,.sn,.q (-1),.q 0] t)) (λ_=>.s sA 0 0) (λ_ _=>False) (.sn) EM.d 0:=by
 let E:∀i,(w.alloc (.c #[O,I,.sn,.sn,.sn,.sn,.sn,.sn,.sn,.sn,.q 0,.q 0,.q 0,.q 0,.q 0,.q 0,.q 0,.q 0,.sn,.q (-1),.q 0] t)).cell? (C w.z i)=(#[O,I,.sn,.sn,.sn,.sn,.sn,.sn,.sn,.sn,.q 0,.q 0,.q 0,.q 0,.q 0,.q 0,.q 0,.q 0,.sn,.q (-1),.q 0]:Array Vl)[i]?:=λi=>Ŏ _ _ _ _ J
 refine⟨⟨E 0,E 1,λf G=>?_,λf G=>?_,E 18,E 19,E 20,λi=>jB w _ _ i⟩,λf G=>BG.nil ..,Ĉ ..,λf G=>⟨id,λ_ h=>h.elim,λ_ _ _ h=>h.elim⟩,(λh=>by cases h),lr⟩
 .
  match f,G with
  |0,_=>exact E 2
  |1,_=>exact E 3
  |2,_=>exact E 4
  |3,_=>exact E 5
  |4,_=>exact E 6
  |5,_=>exact E 7
  |6,_=>exact E 8
  |7,_=>exact E 9
  |f+8,h=>omega
 match f,G with
 |0,_=>exact E 10
 |1,_=>exact E 11
 |2,_=>exact E 12
 |3,_=>exact E 13
 |4,_=>exact E 14
 |5,_=>exact E 15
 |6,_=>exact E 16
 |7,_=>exact E 17
 |f+8,h=>omega
def fF (U:oA) O E(I:oA) V G(w:M):Calls sr 118 #[.s U O E,.s I V G] w λe w'=>e=.r (.f 225 (Ny w.heap.size))/\Cy w.heap.size w w.heap.size (.s U O E) (.s I V G) w' (λk=>k=w.heap.size) EM/\zW w w':=by
 unfold Ny;go_in
 go_wp2
 go_ret;let Y:=(bC w.z w).alloc lr (.c #[.s U O E,.s I V G,.sn,.sn,.sn,.sn,.sn,.sn,.sn,.sn,.q 0,.q 0,.q 0,.q 0,.q 0,.q 0,.q 0,.q 0,.sn,.q (-1),.q 0] 232);exact⟨J,⟨Y,_,_,_,qA w ..,λk=>⟨λh=>.inl h,λh=>by
  obtain h|⟨_,_,h⟩|h:=h
  . exact h
  . exact h.elim
  cases h⟩⟩,Y⟩
def d9 x(w:M)(h:1<=x/\x<=3000):Calls sr 117 #[.q x] w λe w'=>e=.r (.bool true)/\w'=w:=by
 obtain⟨E,G⟩:=h;go_in
 go_wp2
 go_ret;exact⟨J,J⟩
def jG x(w:M)(h:¬(1<=x/\x<=3000)):Calls sr 117 #[.q x] w λe w'=>e=.r (.bool false)/\w'=w:=by
 by_cases E:1<=x
 .
  have I:¬x<=3000:=λG=>h ⟨E,G⟩
  clear h;go_in
  go_wp2
  go_ret;exact⟨J,J⟩
 clear h;go_in
 go_wp2
 go_ret;exact⟨J,J⟩
def N9 (a:oA) cap(G:lZ)(w:M)(ad:Nat->Addr)(aa:Bc w a G)(Z:G.length=8) j(ap:j<=8)(O:∀(i) y,i<j->G[i]? = A y->1<=y/\y<=3000)(R:Vl)
  (h:(j=8/\R=.n)\/(R=.f 255 (.p (A (ad 1)))/\w.cell? (C 1 0)=A (.f 255 (.p (A (ad 1))))/\∃x,G[j]? = A x/\¬(1<=x/\x<=3000))):
  Calls sr 116 #[.s a 8 cap,.func (.func 117) #[] #[]] w λe w'=>e=.r R/\w'=w:=by
 have I:=qX O;have X:=qX h;obtain⟨b,off,rfl,-,V⟩:=aa.h N;have Y:=qX V;have U:=qX Z;clear O h aa V Z;go_in
 go_wp2_with fail;go_loopw[13] (λi b=>∃k:Nat,k<=j/\i=.q k/\b=w)(λi _=>8-(intOf i).toNat)
 case atStart=>exact⟨0,uD _,J,J⟩
 case round=>
  obtain⟨k,b,rfl,rfl⟩:=hrel;by_cases V:k<j
  .
   obtain⟨x,E,-⟩:=Ao G k (by rw[U.o];omega);have b:=I.o k x V E;have I:=Y.o k x E;clear E;go_wp2_with fail;refine(d9 x _ b).mono ?_
   rintro e V⟨rfl,rfl⟩;go_wp2
   go_roundw
   case rel=>exact⟨k+1,N,by go_num,sk⟩
   case measure=>simp[intOf];omega
  obtain rfl:k=j:=N;obtain⟨rfl,rfl⟩|⟨rfl,b,x,E,b⟩:=X.o
  .
   go_wp2
   go_ret;exact⟨J,J⟩
  have I:=Y.o k x E;have I:k<8:=by
   rw[<-U.o];obtain I|I:=nR k G.length
   . exact I
   simp[ą I]at E
  clear E;go_wp2_with fail;refine(jG x _ b).mono ?_
  rintro e V⟨rfl,rfl⟩;go_wp2
  go_ret;exact⟨J,J⟩
def TI (a:oA) cap(E:lZ)(w:M) ad(I:MR w ad)(U:Bc w a E) c(h:BK 1 3000 E c)(Z:0<c):Ë 116 #[.s a E.length cap,.func (.func 117) #[] #[]] w λe w'=>e=.r (Ha ad c)/\w'=w:=by
 obtain⟨rfl,G⟩|⟨rfl,j,G,⟨x,O,Y⟩,V⟩|⟨rfl,-⟩:=h
 . exact GR a E.length cap _ w ad G I.2
 . rw[G];exact N9 a cap E w ad U G j (by have:=Ap O;omega) V _ (.inr ⟨J,I.1,x,O,Y⟩)
 omega
def KF (per:Int)(ps:List Pk)(E:lZ)(B:Nat)(w:M)(v:Vl)(w':M):=∃l,Dz w' w.heap.size v l/\ES per ps E l/\vl B w w'
def Y1 (a:oA) cap ps per(Z:oA) ac(I:lZ) B(U:M) g ai(w:M)(G:Nr B U a Z ps I)(ap:1<=per)(al:per<=1000)(Y:Cy B U g (.s a ps.length cap) (.s Z I.length ac) w ai EM):Ë 110 #[.s a ps.length cap,.q per,.f 225 (Ny g)] w λe w'=>∃v,e=.r v/\KF per ps I B w v w':=by
 let V:∀f,1<=Cb I f:=λf=>(J2 G.h.d N f).1
 let k:=IR (per:=per) (ps:=ps) G.y V;let f:∀s,Â (BF ps I) per ps EM s->s.q.n<=300:=λs E=>by
  let p:=E.b k;let X:=E.a;have:=G.y.j;have:(BF ps I).rest s.q=s.q.n:=rfl;omega
 refine(VE (BF ps I) (Cy B U g (.s a ps.length cap) (.s Z I.length ac)) per ps EM B _ _ _ (wD B U g ..) k G.y ap al ?_ ?_ ?_ a cap w (G.b.a G.a Y.b) Y.t G.a ai Y).mono ?_
 . intro w D s p E k O;exact WW G O (KS G.y V E) (f s E) k
 .
  intro w D s E k O;exact Xl G O (KS G.y V E) k (f s E) (λf=>by
   obtain⟨k,p⟩:=Yi G.y V E f;exact⟨k,λk f=>by have:=(p k f).1;have:=E.a;omega⟩)
 . intro w D s E O;rw[Px _ (λ_=>J)];exact Wv O
 rintro e w'⟨s,v,rfl,E,X,p,f,k⟩;exact⟨v,J,s.p,f,⟨s,E,X,p,J⟩,k⟩
def eX (a:oA) cap ps per(I:oA) U(G:lZ)(w:M)(aa:AL w a ps)(ab:Bc w I G)(Z:Ar ps)(aj:1<=per)(ac:per<=1000)(O:Ef 1 3000 G):Calls sr 67 #[.s a ps.length cap,.q per,.s I G.length U] w λe w'=>∃v,e=.r (.t #[v,.n])/\KF per ps G w.heap.size w v w':=by
 have X:sE (∀W,zW w W->qW 109 #[.s a ps.length cap,.q per] W .n):=λW E=>DW a cap ps per W (aa.d E) Z aj ac
 have T:sE (∀W,zW w W ->Ë 116 #[.s I G.length U,.func (.func 117) #[] #[]] W λe w'=>e=.returned .n/\w'=W):=λW E=>by
   rw[O.len];exact N9 I U G W (λ_=>(C 0 0)) ((ab.d E)) O.len 8 lr (λi y _ b=>O.d i y b) _ (.inl ⟨J,J⟩)
 have y:sE (∀W V,zW w W ->Cy W.z W W.z (.s a ps.length cap) (.s I G.length U) V (λk=>k=W.z) EM ->zW W V ->
   Ë 110 #[.s a ps.length cap,.q per,.f 225 (Ny W.z)] V λe w'=>∃v,e=.r v/\KF per ps G w.z w v w'):=λW V E l Y=>by
  let b:=aa.d E;let k:=ab.d E;refine(Y1 a cap ps per I U G W.z W W.z _ V ⟨b,k,b.i,λb i=>?_,Z,O⟩ aj ac l).mono ?_
  .
   obtain⟨b,off,e,b,-⟩:=k.h (by rw[O.len];omega);rw[e]at i;cases i
   exact b
  rintro e w'⟨v,rfl,l,b,k,i⟩;exact⟨v,J,l,BA b (rX E.size Y.size),k,(E.tr Y).trans (i.mono E.size)⟩
 clear aa ab Z O;generalize b:ps.length=n at*;generalize i:G.length=m at*;clear b i;go_in
 go_wp2_with fail;refine(X.o _ br).mono ?_
 rintro e b⟨rfl,E⟩;have b:=qX E;clear E;go_wp2_with fail;refine(T.o _ b.o).mono ?_
 rintro e k⟨rfl,rfl⟩;go_wp2_with fail;refine(fF a n cap I m U k).mono ?_
 rintro e l⟨rfl,i,Y⟩;have m:=qX (y.o k l b.o i Y);clear i Y;go_wp2_with fail;refine m.o.mono ?_
 rintro e b⟨v,rfl,b⟩;have i:=qX b;clear b;go_wp2
 go_ret2;exact⟨v,J,i.o⟩
def Wq{R:tI->Vl->M->Prop}(a:oA) n cap per(G:oA) m I(w:M)(h:Ë 109 #[.s a n cap,.q per] w λe w'=>∃ty v,e=.r (.f ty v)/\R ty v w'):Calls sr 67 #[.s a n cap,.q per,.s G m I] w λe w'=>∃ty v,e=.r (.t #[.sn,.f ty v])/\R ty v w':=by
 have U:=qX h;clear h;go_in
 go_wp2_with fail;refine U.o.mono ?_
 rintro e E⟨ty,v,rfl,E⟩;have O:=qX E;clear E;go_wp2
 go_ret2;exact⟨ty,v,J,O.o⟩
def Wx{R:tI->Vl->M->Prop}(a:oA) n cap per(E:oA) m G(w:M)(h:Ë 109 #[.s a n cap,.q per] w λe w'=>e=.returned .n/\zW w w')
  (I:∀W,zW w W->Ë 116 #[.s E m G,.func (.func 117) #[] #[]] W λe w'=>∃ty v,e=.r (.f ty v)/\R ty v w'):
  Calls sr 67 #[.s a n cap,.q per,.s E m G] w λe w'=>∃ty v,e=.r (.t #[.sn,.f ty v])/\R ty v w':=by
 have O:=qX h;have Z:=qX I;clear h I;go_in
 go_wp2_with fail;refine O.o.mono ?_
 rintro e O⟨rfl,U⟩;have V:=qX U;clear U;go_wp2_with fail;refine(Z.o _ V.o).mono ?_
 rintro e O⟨ty,v,rfl,O⟩;have Y:=qX O;clear O;go_wp2
 go_ret2;exact⟨ty,v,J,Y.o⟩
end Go.Proofs.YtaoikkhlnhfkfaaGreatDoor
