import Derived.Test.YtaoikkhlnhfkfaaGreatDoorU00
import Derived.Test.YtaoikkhlnhfkfaaGreatDoorU45
set_option maxHeartbeats 1000000
set_option maxRecDepth 100000
set_option linter.defProp false
set_option linter.unusedSimpArgs false
set_option linter.unusedVariables false
namespace Go.Proofs.YtaoikkhlnhfkfaaGreatDoor
open Go renaming maxLen->s7,madeCells->sC
open RowKit renaming Hid->sE,Below->vl
open Option renaming some->A,none->sA
open Go.RowKit
def pU (cs:Nat->lI)(k:Nat)(per:Int)(I:lZ)(ps:List Pk)(w:M)(e:Ending)(w':M):=
 zW w w'/\((∃i:Nat,Bz cs ps i/\(∀j,j<i ->¬Bz cs ps j)/\e=.r (.t #[.sn,.sn,.agg #[.q 4,.q (i:Int)]]))\/
  ((∀i,¬Bz cs ps i)/\∃E G qs l,e=.r (.t #[E,G,.agg #[.q 0,.q (-1)]])/\CF w' w.heap.size E qs/\Dz w' w.heap.size G l/\JU cs k per I ps qs l))
def nW{q:Prop}(h:q:=by
  go_wp2_with fail
  go_loopg[16] q (λgk rv wr=>∃r',gk+r'=q/\rv=.int .i64 r'/\DJ w W3 wr D i (ED a (A9 ps f i) XL r')/\Ç (λb=>b=D) WX wr)
  case atStart=>exact⟨0,by omega,rfl,HXf.o,Ç.I _ _⟩
  case round=>
   obtain⟨r',hr',rfl,hfa,hbut⟩:=hrel
   have HJ:Hid (DJ w W3 wr D i (ED a (A9 ps f i) XL r')/\Ç (λb=>b=D) WX wr):=⟨hfa,hbut⟩
   clear hfa hbut
   by_cases hrq:r'<q
   .
    obtain⟨i0,hi0,-⟩:=Ao (A9 ps f i) r' (by rw[<-HO.o.1,HQ.o.1];exact hrq)
    obtain⟨pq,hpq,-⟩:=Ao XL r' (by rw[HXs.o.2];exact hrq)
    obtain⟨ng,rfl,hng1,hng2,hnc⟩:=HXn.o r' i0 hi0
    obtain⟨ob,oo,rfl,hobl,hoc⟩:=HXo.o.1.h (by rw[HXs.o.2];omega)
    have hDf:=HO.o.2.2.2.2.2
    have hobD:ob≠D:=by
     have:WF.heap.size<=ob:=HXo.o.2 _ rfl
     omega
    have e1:wr.cell? ⟨ng,r',none⟩=some (.int .i64 i0):=by
     rw[HJ.o.2.E (p:=⟨ng,r',none⟩) hng2 (by show ¬ng=D;omega)];exact hnc
    have e2:wr.cell? ⟨ob,oo+r'*3+2,none⟩=some (.int .i64 pq.a):=by
     rw[HJ.o.2.E (p:=⟨ob,oo+r'*3+2,none⟩) hobl hobD];exact(hoc r' pq hpq).2.2
    have hi0n:i0<i:=(HO.o.2.1 r' i0 hi0).1
    have hi0n':(i0:Int)<(i:Int):=by omega
    have e3:=HJ.o.1.e.E i0 hi0n
    have e4:=HJ.o.1.e.s i0
    have hfe:ED a (A9 ps f i) XL (r' +1)=A8 (ED a (A9 ps f i) XL r') i0 pq.a:=by simp[ED,List.getD,hi0,AQ hpq]
    have HPut:Hid (DJ w W3 (wr.setCell ⟨D,i0,none⟩ (.int .i64 pq.a)).drew D i (ED a (A9 ps f i) XL (r' +1))/\Ç (λb=>b=D) WX (wr.setCell ⟨D,i0,none⟩ (.int .i64 pq.a)).drew):=⟨by rw[hfe];exact HJ.o.1.K hi0n pq.a,(Ç.g (S:=λb=>b=D) HJ.o.2 (p:=⟨D,i0,none⟩) rfl _).drew⟩
    obtain⟨tk,htk⟩:=ex pq.a
    rw[htk]at e2 HPut
    obtain⟨od,hod⟩:=ex (ED a (A9 ps f i) XL r' i0)
    rw[hod]at e3
    clear hi0 hpq hng1 hng2 hnc hobl hoc hDf hobD hfe htk hod
    go_wp2
    go_region
    go_wp2
    go_roundg (gk-1)
    case measure=>omega
    case rel=>exact⟨r' +1,by omega,by go_num,HPut.o.1,HPut.o.2⟩
   obtain rfl:r'=q:=by omega
   have HDn:Hid (BL (Bf cs) ps (f+1) z (ED a (A9 ps f i) XL r')):=by
    have hL:A9 ps f ps.length=A9 ps f i:=by rw[HN.o.1]
    refine HR.o.1.b HL.o.2.1 HXs.o.1 (λr1 i1 h1=>?_) (λi1 h1=>?_)
    .
     rw[hL]at h1
     exact Yo HO.o.2.2.2.1 h1 r' (by rw[<-HO.o.1,HQ.o.1];exact lr) (by have:=Ap h1;rw[<-HO.o.1,HQ.o.1]at this;exact this)
    rw[hL]at h1
    exact Va h1 r' (by rw[<-HO.o.1,HQ.o.1];exact lr)
   go_wp2
   go_roundg (G1-1)
   case measure=>omega
   case rel=>exact⟨f+1,by omega,by go_num,z,_,rfl,HDn.o,HJ.o.1⟩):q:=h
def n7{q:Prop}(h:q:=by
 go_wp2_with (first
  |(at_builtin;refine BC _ rfl _ _ rfl BB (.sn) [] ((Aq ps a L).take k) (sa ob oo) k ocap HTk.o.1 rfl rfl (Ĉ _ _ _ _) HTk.o.2.1 HTk.o.2.2 HTl.o.1 HBB.o ?_;rintro v7 w7⟨ho7,hb7⟩;have H7:Hid (CF w7 BB v7 ((Aq ps a L).take k)/\Below BB V6 w7/\BB<=w7.heap.size):=⟨by simpa using ho7,hb7,rX HBB.o hb7.size⟩;obtain⟨x7,y7,z7⟩:=HQc.o w7 hb7;have H8:Hid (CF (w7.alloc (.cells #[.q x0,.q x1,.q t] 68)) BB v7 ((Aq ps a L).take k)/\AL (w7.alloc (.cells #[.q x0,.q x1,.q t] 68)) (sa w7.heap.size 0) [⟨x0,x1,t⟩]/\Below BB V6 (w7.alloc (.cells #[.q x0,.q x1,.q t] 68))/\BB<=(w7.alloc (.cells #[.q x0,.q x1,.q t] 68)).heap.size):=⟨H7.o.1.later ba,Ox w7 x0 x1 t,H7.o.2.1.alloc H7.o.2.2 _,rX H7.o.2.2 (by simp)⟩;clear ho7 hb7)
  |(at_builtin;refine BC _ rfl _ _ rfl BB v7 ((Aq ps a L).take k) [⟨x0,x1,t⟩] (sa w7.heap.size 0) 1 1 rfl rfl rfl H8.o.1 H8.o.2.1 (λh=>by cases h) HTl.o.2.1 H8.o.2.2.2 ?_;rintro v9 w9⟨ho9,hb9⟩;have H9:Hid (CF w9 BB v9 (((Aq ps a L).take k)++[⟨x0,x1,t⟩])/\Below BB V6 w9/\BB<=w9.heap.size):=⟨ho9,H8.o.2.2.1.trans hb9,rX H8.o.2.2.2 hb9.size⟩;clear ho9 hb9)
  |(at_builtin;go_must (refine BC _ rfl _ _ rfl BB v9 (((Aq ps a L).take k)++[⟨x0,x1,t⟩]) ((Aq ps a L).drop k) (sa ob (oo+k*3)) (i - k) (ocap - k) HDr.o.1 rfl rfl H9.o.1 (HDr.o.2.1 w9 H9.o.2.1) HDr.o.2.2 HTl.o.2.2 H9.o.2.2 ?_;rintro vA wA⟨hoA,hbA⟩;have HA:Hid (CF wA W4.heap.size vA (Aq ps a (L.take k++i::L.drop k))/\zW W4 wA):=⟨by rw[<-HGp.o k];exact CF.l hoA HBB4.o.1,HBB4.o.2.trans ((H9.o.2.1.trans hbA).mono HBB4.o.1)⟩;clear hoA hbA)))
 go_roundg (G4-1)
 case measure=>omega
 case rel=>exact⟨i+1,by omega,by go_num,_,HPut.o,HA.o.1,λh=>by omega,HA.o.2⟩):q:=h
def ox{q:Prop}(h:q:=by
 have h1:=HTk.o.1;have h2:((Aq ps a L).drop k).length=i-k:=by rw[ld,HLen.o]
 refine⟨?_,?_,?_⟩
 . rw[h1];simp;omega
 . rw[h1];simp;omega
 rw[ý,h1,h2];simp;omega):q:=h
def m7{q:Prop}(h:q:=by
 show _/\_
 rw[<-hBB,<-hV6];exact⟨HV5.o.2.1,ì HV5.o.1 _⟩):q:=h
def nt{q:Prop}(h:q:=by
 go_roundg (G4-1)
 case measure=>omega
 case rel=>exact⟨i+1,by omega,by go_num,_,HPut.o,HA.o.1,λh=>by omega,HA.o.2⟩):q:=h
def mB{q:Prop}(h:q:=by
 show BB<=V6.heap.size
 rw[<-hV6,<-hBB];exact lr):q:=h
def O0 (ca:oA) ccap(cs:List lI)(kb:bA) per(na:oA) ncap(ns:lZ)(pa:oA) pcap ps(w:M)(hcl:EW w ca cs)(hnl:Bc w na ns)(hnr:ns.length<=1000)(hpl:AL w pa ps)(hpc:ps.length<=pcap)(hpm:pcap<=s7)(ho:Ar ps)(hg:M5 cs (Ê kb.toList) per ns):Calls Tryz.prog 11 #[.agg #[.s ca cs.length ccap,.st kb,.q per,.s na ns.length ncap],.s pa ps.length pcap] w λe w'=>pU (Bf cs) (Ê kb.toList) per ns ps w e w':=by
 have HG:sE (∀W,zW w W->Ë 10 #[.agg #[.s ca cs.length ccap,.st kb,.q per,.s na ns.length ncap]] W λe w'=>SY 0 (-1) W e w'):=λW hb=>GM ca ccap cs kb per na ncap ns W 0 (-1) (hcl.d hb) (by rw[hg.len];omega) (hnl.d hb) hnr (.inr (.inr ⟨hg.len,hg.a,J,.inr ⟨hg.d.1,hg.d.2,.inr ⟨hg.e.1,hg.e.2,0,hg.j,J⟩⟩⟩))
 have HPf:sE (∀W,zW w W->qW 27 #[.s pa ps.length pcap] W (.agg #[.q 0,.q (-1)])):=λW hb=>Ya pa pcap ps W (hpl.d hb) hpc hpm 0 (-1) (.inr (.inr ⟨ho,J,J⟩))
 have HLk:sE (∀W qa qcap qs,zW w W->AL W qa qs->Ar qs->Ë 29 #[.agg #[.s ca cs.length ccap,.st kb,.q per,.s na ns.length ncap],.s qa qs.length qcap] W λe w'=>Z8 (Ê kb.toList) per qs ns W e w'):=λW qa qcap qs hb hq hoq=>ZI (.s ca cs.length ccap) kb per na ncap ns qa qcap qs W hg.d.1 (hnl.d hb) hg.j hq hoq hg.e.1 hg.e.2 ⟨_,_,_,J⟩
 have HL:=qV hpl ho hcl hg.a;have hfew:=ho.j;obtain⟨k,hk⟩:=ex (Ê kb.toList);obtain⟨m,hm⟩:=ex cs.length;obtain⟨r,hr⟩:=ex ns.length;obtain⟨n,hn⟩:=ex ps.length;have HN:=qY hn hg.len;have hm8:m=8:=by rw[<-hm];exact hg.len
 rw[hk]at HLk;rw[hm,hr]at HG HLk;rw[hn]at HPf hfew;rw[hk,hm,hr,hn];have hmk:∀w':M,(Instr.makeSlice 23 (.q n) (.q n)).run Tryz.prog w'=.ok (.sl w'.heap.size 0 n n) (w'.alloc (.c (sC #[.q 0] n) 3)):=λw'=>by
  obtain⟨i0,hi,hz0,hz1,hz2⟩:=ó Tryz.b;have:=Ŭ (P:=Tryz.prog) w' 23 3 i0 (.q 0) Tryz.underlying23 hi hz0 .i64 .i64 n n (by omega) (by omega) (by rw[hz2];omega) (by omega);simpa[hz1,Value.cells]using this
 have hb1:zW w ((w.alloc (.c #[.s ca m ccap,.st kb,.q per,.s na r ncap] 25)).alloc (.c #[.q 0,.q 0] 39)):=ba.alloc (by simp) _;have hs1:(w.alloc (.c #[.s ca m ccap,.st kb,.q per,.s na r ncap] 25)).heap.size=w.heap.size+1:=by simp
 have hga:CE ((w.alloc (.c #[.s ca m ccap,.st kb,.q per,.s na r ncap] 25)).alloc (.c #[.q 0,.q 0] 39)) w.heap.size (.s ca m ccap) kb per (.s na r ncap):=(EA w (.s ca m ccap) kb per (.s na r ncap) 25).later ba;have h2a:ļ ((w.alloc (.c #[.s ca m ccap,.st kb,.q per,.s na r ncap] 25)).alloc (.c #[.q 0,.q 0] 39)) (w.heap.size+1) (.q 0) (.q 0):=by
  have:=MP (w.alloc (.c #[.s ca m ccap,.st kb,.q per,.s na r ncap] 25)) (.q 0) (.q 0) 39;rwa[hs1]at this
 obtain⟨V,hV⟩:=ex ((w.alloc (.c #[.s ca m ccap,.st kb,.q per,.s na r ncap] 25)).alloc (.c #[.q 0,.q 0] 39));rw[hV]at hb1 hga h2a;have HV:=qZ hb1 h2a hga;obtain⟨x0,x1,x2,x3⟩:=hga;clear hcl hnl hpl hpc hpm ho hg hk hm hr hn hb1 h2a hs1;have HM8:=qX hm8;clear hm8;go_in
 go_wp2_with fail;refine(HG.o _ HV.o.1).mono ?_
 rintro e w2⟨rfl,hb2⟩;have hb3:zW V (w2.alloc (.c #[.q 0,.q (-1)] 39)):=hb2.alloc hb2.size _;have HB3:sE (zW w (w2.alloc (.c #[.q 0,.q (-1)] 39))/\ļ (w2.alloc (.c #[.q 0,.q (-1)] 39)) (w.heap.size+1) (.q 0) (.q 0)/\ļ (w2.alloc (.c #[.q 0,.q (-1)] 39)) w2.heap.size (.q 0) (.q (-1))/\w.heap.size+1<w2.heap.size/\CE (w2.alloc (.c #[.q 0,.q (-1)] 39)) w.heap.size (.s ca m ccap) kb per (.s na r ncap)):=⟨HV.o.1.tr hb3,HV.o.2.1.later hb3,MP w2 _ _ _,rZ (BZ HV.o.2.1.e) hb2.size,HV.o.2.2.later hb3⟩
 clear hb2 hb3 x0 x1 x2 x3;go_wp2_with fail;refine(HPf.o _ HB3.o.1).mono ?_
 rintro e w4⟨rfl,hb4⟩;obtain⟨F,hF⟩:=ex w2.heap.size;rw[hF]at HB3⊢;have hF1:=HB3.o.2.2.2.1;have hz:=HB3.o.2.1.later hb4;have hf:=HB3.o.2.2.1.later hb4;have hgt:=HB3.o.2.2.2.2.later hb4;have hb4w:=HB3.o.1.tr hb4;have hb5:zW w ((w4.setCell (C F 0) (.q 0)).setCell (C F 1) (.q (-1))):=(hb4w.setCell (p:=(C F 0)) (by show w.heap.size<=F;omega) _).setCell (p:=(C F 1)) (by show w.heap.size<=F;omega) _;have hz5:=hz.d (Nat.ne_of_gt hF1) (.q 0) (.q (-1));have hf5:=hf.Q (.q 0) (.q (-1));have hg5:CE ((w4.setCell (C F 0) (.q 0)).setCell (C F 1) (.q (-1))) w.heap.size (.s ca m ccap) kb per (.s na r ncap):=by
  have ne:∀(o o':Nat),((C F o):Addr)≠(C w.heap.size o'):=λo o' e=>by injection e with e1;omega
  refine⟨?_,?_,?_,?_⟩
  . rw[sF _ _ _ _ (ne 1 0),sF _ _ _ _ (ne 0 0)];exact hgt.e
  . rw[sF _ _ _ _ (ne 1 1),sF _ _ _ _ (ne 0 1)];exact hgt.a
  . rw[sF _ _ _ _ (ne 1 2),sF _ _ _ _ (ne 0 2)];exact hgt.k
  rw[sF _ _ _ _ (ne 1 3),sF _ _ _ _ (ne 0 3)];exact hgt.l
 obtain⟨y0,y1,yf0,yf1⟩:=hf;obtain⟨V3,hV3⟩:=ex ((w4.setCell (C F 0) (.q 0)).setCell (C F 1) (.q (-1)));rw[hV3]at hb5 hz5 hf5 hg5;have hb6:zW V3 (V3.alloc (.c (sC #[.q 0] n) 3)):=ba;have hF3:=BZ hf5.e;have HS:sE (DJ w (V3.alloc (.c (sC #[.q 0] n) 3)) (V3.alloc (.c (sC #[.q 0] n) 3)) V3.heap.size n (λ_=>0)/\CE (V3.alloc (.c (sC #[.q 0] n) 3)) w.heap.size (.s ca m ccap) kb per (.s na r ncap)/\ļ (V3.alloc (.c (sC #[.q 0] n) 3)) (w.heap.size+1) (.q 0) (.q 0)/\ļ (V3.alloc (.c (sC #[.q 0] n) 3)) F (.q 0) (.q (-1))/\F<V3.heap.size/\w.heap.size+1<F):=⟨⟨Ç.I _ _,LX V3 n _,hb5.tr hb6,hb5.size⟩,hg5.later hb6,hz5.later hb6,hf5.later hb6,hF3,hF1⟩
 obtain⟨f0,f1,-,-⟩:=hf5;clear hb4 hz hgt hb4w hb5 hz5 hg5 hb6 hF3 hF;go_wp2_with fail;obtain⟨D,hD⟩:=ex V3.heap.size;obtain⟨W3,hW3⟩:=ex (V3.alloc (.c (sC #[.q 0] n) 3));rw[hD,hW3]at HS;rw[hD,hW3];clear hmk f0 f1 y0 y1 yf0 yf1 hD hW3 hV3 HB3 HV HG HPf hF1;go_loopg[8,10] 8 (λgk nv fv wr=>∃f:Nat,gk+f=8/\fv=.q f/\∃z a,nv=.q z/\BL (Bf cs) ps f z a/\DJ w W3 wr D n a)
 case atStart=>exact⟨0,J,J,-1,_,J,Ot _,HS.o.1⟩
 case round=>
  obtain⟨f,hf8,rfl,z,a,rfl,hfd,hfa⟩:=hrel;have HR:=qY hfd hfa;have HZ:sE (z= -1\/∃i:Nat,z=i/\i<n):=by
   have:=hfd.range;rwa[HN.o.1]at this
  clear hfd hfa;by_cases hf:f<8
  .
   obtain⟨WF,hWF⟩:∃W,W=wr:=⟨_,J⟩
   subst hWF;obtain⟨G1,hG1⟩:∃G1,G1=gk:=⟨_,J⟩
   subst hG1;have hf38:decide ((f:Int)<8)=true:=by simpa using (show(f:Int)<8 by omega)
   go_wp2_with fail;go_loopg[11,12,13] n (λgk v1 v2 iv wr=>∃i:Nat,gk+i=n/\iv=.q i/\ă wr WF.heap.size v1 v2 (Bv ps f i) (Au (A9 ps f i))/\zW WF wr)
   case atStart=>exact⟨0,by omega,J,gW _ _,br⟩
   case round=>
    obtain⟨i,hi,rfl,hbo,hb⟩:=hrel;have HI:=qY hbo hb;clear hbo hb;by_cases hin:i<n
    .
     obtain⟨p,hp,-⟩:=Ao ps i (by rw[HN.o.1];exact hin);obtain⟨pb,po,rfl,-,hpc⟩:=HL.o.1.h (by rw[HN.o.1];omega);have HBw:=qX (HR.o.2.g.tr HI.o.2);have d0:=jf HBw.o (hpc i p hp).1;have d1:=jf HBw.o (hpc i p hp).2.1;have d2:=jf HBw.o (hpc i p hp).2.2;have hfl:=TP HL.o.2.1 hp f;have hos:=PR (ps:=ps) (f:=f) hp;have hns:=MG (ps:=ps) f i;have HP:sE (p=⟨p.b,p.h,p.a⟩):=rfl;obtain⟨x0,hx0⟩:=ex p.b;obtain⟨x1,hx1⟩:=ex p.h;obtain⟨x2,hx2⟩:=ex p.a;rw[hx0]at d0 hfl hos HP;rw[hx1]at d1 HP;rw[hx2]at d2 HP;clear hpc hp hx0 hx1 hx2;by_cases hxf:x0=(f:Int)
     .
      rw[Æ hxf]at hos;rw[Æ (hfl.1 hxf)]at hns;have HOs:sE (Bv ps f (i+1)=Bv ps f i++[⟨x0,x1,x2⟩]/\A9 ps f (i+1)=A9 ps f i++[i]):=⟨by rw[<-HP.o];exact hos,hns⟩
      have hxf':(x0==(f:Int))=true:=by simpa using hxf
      have hlen1:(Bv ps f i).length<=300/\(Au (A9 ps f i)).length<=300:=by
       have h1:=(Sd HL.o.2.1 f i (by rw[HN.o.1];omega)).2.2;have h2:=(Fz HL.o.2.1 f i (by rw[HN.o.1];omega)).1;rw[AJ];omega
      have HLen:sE ((Bv ps f i).length<=1000/\(Au (A9 ps f i)).length<=1000):=⟨by omega,by omega⟩
      have HA:sE (ă (wr.alloc (.c #[.q x0,.q x1,.q x2] 68)) WF.heap.size u11 u12 (Bv ps f i) (Au (A9 ps f i))/\AL (wr.alloc (.c #[.q x0,.q x1,.q x2] 68)) (sa wr.heap.size 0) [⟨x0,x1,x2⟩]/\WF.heap.size<=(wr.alloc (.c #[.q x0,.q x1,.q x2] 68)).heap.size/\zW WF (wr.alloc (.c #[.q x0,.q x1,.q x2] 68))):=by
       have h1:zW wr (wr.alloc (.c #[.q x0,.q x1,.q x2] 68)):=ba;refine⟨HI.o.1.later h1,.inr ⟨wr.heap.size,0,J,by simp,λj q hj=>?_⟩,rX HI.o.2.size h1.size,HI.o.2.tr h1⟩;cases j with
       |zero=>
        obtain rfl:=Ö hj;exact⟨by simp,by simp,by simp⟩
       |succ j=>simp at hj
      clear hos hns hfl hxf hlen1;go_wp2_with (first
       |(at_builtin;refine UY _ J _ _ J WF.heap.size u11 u12 (Bv ps f i) (Au (A9 ps f i)) ⟨x0,x1,x2⟩ (C wr.heap.size 0) J J HA.o.1 HA.o.2.1 HLen.o.1 HA.o.2.2.1 ?_;rintro v5 w5⟨hbo5,hb5⟩;have H5:sE (ă w5 WF.heap.size v5 u12 (Bv ps f i++[⟨x0,x1,x2⟩]) (Au (A9 ps f i))/\zW WF w5):=⟨hbo5,HA.o.2.2.2.trans hb5⟩;have H6:sE (ă (w5.alloc (.cells #[.q (i:Int)] 3)) WF.heap.size v5 u12 (Bv ps f i++[⟨x0,x1,x2⟩]) (Au (A9 ps f i))/\(w5.alloc (.cells #[.q (i:Int)] 3)).cell? (C w5.heap.size 0)=A (.q (i:Int))/\WF.heap.size<=(w5.alloc (.cells #[.q (i:Int)] 3)).heap.size/\zW WF (w5.alloc (.cells #[.q (i:Int)] 3))):=⟨hbo5.later ba,by simp,by have:=H5.o.2.size;simp;omega,H5.o.2.alloc H5.o.2.size _⟩;clear hbo5 hb5)
       |(at_builtin;go_must (refine Ng _ J _ _ J WF.heap.size v5 u12 (Bv ps f i++[⟨x0,x1,x2⟩]) (Au (A9 ps f i)) (i:Int) (C w5.heap.size 0) J J H6.o.1 H6.o.2.1 HLen.o.2 H6.o.2.2.1 ?_;rintro v7 w7⟨hbo7,hb7⟩;have H7:sE (ă w7 WF.heap.size v5 v7 (Bv ps f (i+1)) (Au (A9 ps f (i+1)))/\zW WF w7):=⟨by rw[HOs.o.1,HOs.o.2,SQ];exact hbo7,H6.o.2.2.2.trans hb7⟩;clear hbo7 hb7)))
      go_roundg (gk-1)
      case measure=>omega
      case rel=>exact⟨i+1,by omega,by go_num,H7.o.1,H7.o.2⟩
     rw[Ä hxf]at hos;rw[Ä (λh=>hxf (hfl.2 h))]at hns;have HOs:=qY hos hns;have hxf':(x0==(f:Int))=false:=by simpa using hxf
     clear hos hns hfl hxf;go_wp2
     go_roundg (gk-1)
     case measure=>omega
     case rel=>exact⟨i+1,by omega,by go_num,by rw[HOs.o.1,HOs.o.2];exact HI.o.1,HI.o.2⟩
    obtain rfl:i=n:=by omega
    obtain⟨oa,ocap,rfl,hol,hom,hoL,hoB,hoN⟩:=CF.open HI.o.1.h;have hnum:=HI.o.1.j;obtain⟨nb',ncap',rfl,hnl1,hnl2,hnL⟩:=fQ hnum;have hnB:∀g,(Value.slice nb' (Au (A9 ps f i)).length ncap').ownBlock=A g->WF.heap.size<=g:=λg hg=>(AC hnum hg).1
    have hown:=Fz HL.o.2.1 f i (by rw[HN.o.1];exact lr);have hownok:=(Sd HL.o.2.1 f i (by rw[HN.o.1];exact lr)).1;have hrise:=Yc (ps:=ps) f i;have hfm:f<m:=by have:=HM8.o;omega
    obtain⟨ls,hls,-⟩:=Ao cs f (by rw[HN.o.2];exact hf);obtain⟨b,coff,rfl,-,hcc⟩:=HL.o.2.2.1.h (by rw[HN.o.2];omega);obtain⟨la,lcap,cj,hlies,hlc,hlm,-⟩:=hcc f ls hls;have HBw:=qX (HR.o.2.g.tr HI.o.2);have cj':=jf HBw.o cj;have hDne:w.heap.size≠D:=by have:=HS.o.2.2.2.2;omega
    have g0:=jf HI.o.2 (HR.o.2.E HS.o.2.1.e hDne);have hcur:=K4 hls;have hokc:=HL.o.2.2.2 f ls hf hls;have HFa:=qX (HR.o.2.later HI.o.2);have hDW:=HR.o.2.e.G;have HO:sE ((Bv ps f i).length=(A9 ps f i).length/\(∀(r' i':Nat),(A9 ps f i)[r']? = A i'->i'<i/\Aj ps i'=f/\Km ps i'=r'/\(Bv ps f i)[r']? = ps[i']?)/\Ar (Bv ps f i)/\(A9 ps f i).Pairwise (·<·)/\Bf cs f=ls/\D<WF.heap.size):=⟨hown.1,hown.2,hownok,hrise,hcur,hDW⟩
    have HNl:sE (∀(r' i':Nat),(A9 ps f i)[r']? = A i'->∃g,nb'=A (C g 0)/\WF.heap.size<=g/\g<wr.heap.size/\wr.cell? (C g r')=A (.q (i':Int))):=λr' i' hr'=>by
     have hnum2:=hnum;obtain⟨h1,⟨e,h0⟩|⟨g,cap,cur,e,hB,hgl,r⟩⟩:=hnum
     . rw[AJ]at h0;have:=Ap hr';omega
     injection e with e1 e2 e
     subst e1;refine⟨g,J,hB,ī hgl,?_⟩;have hh:wr.ownsRow WF.heap.size 3 1 (.sl g 0 (Au (A9 ps f i)).length ncap') (Au (A9 ps f i)).length (É (Au (A9 ps f i))):=hnum2;rw[hh.cellAt r' (by have:=Ap hr';rw[AJ];omega)];exact Jn (M4 hr')
    have HOl:=qZ hoL hoB hoN;have HSh:sE (Bq ls->Ë 28 #[.s la ls.length lcap,.s oa (Bv ps f i).length ocap] wr λe w'=>PT ls (Bv ps f i) wr e w'):=λhk=>dH la lcap ls oa ocap (Bv ps f i) wr (hlies.d HBw.o) hk hoL hownok
    have hq300:=hownok.j;have hnl3:(Au (A9 ps f i)).length=(Bv ps f i).length:=by rw[AJ];exact hown.1.symm
    rw[hnl3];have hll:ls.length<=9223372036854775807:=rX hlc (rX hlm (by unfold s7;omega));obtain⟨q,hq⟩:=ex ((Bv ps f i).length);obtain⟨ll,hlle⟩:=ex ls.length;have HQ:=qY hq hlle;rw[hq]at hq300 hol HSh⊢;rw[hlle]at cj' HSh hll;clear hom hoL hoB hoN hnum hnl1 hnl2 hnL hnB hown hownok hrise hls hcc cj hlies hlc hlm hDne hcur hDW hnl3 hq hlle;by_cases hl0:ll=0
    .
     subst hl0;have hnil:ls=[]:=Ğ.1 HQ.o.2;have HXs:sE (Dy (Bf cs) ps f=A (Bv ps f i)/\(Bv ps f i).length=q):=⟨by
      unfold Dy;rw[HO.o.2.2.2.2.1,Æ hnil,HN.o.1],HQ.o.1⟩
     have HXf:=qX HFa.o;have HXo:=qY HOl.o.1 HOl.o.2.1;have HXn:=qX HNl.o;obtain⟨WX,hWX⟩:∃W,W=wr:=⟨_,J⟩
     subst hWX;clear hnil hokc HSh;obtain⟨XL,hXL⟩:∃l,l=Bv ps f i:=⟨_,J⟩
     rw[<-hXL]at HXs HXo;clear hXL;exact nW
    have hokc':Bq ls:=by
     obtain h|h:=hokc
     . have:=HQ.o.2;rw[h]at this;exact absurd this.symm hl0
     exact h
    have HSh':=qX (HSh.o hokc');have HNe:sE (Bf cs f≠[]):=by
     show Bf cs f≠[]
     rw[HO.o.2.2.2.2.1];intro h;have:=HQ.o.2;rw[h]at this;exact hl0 this.symm
    have HSl:sE (∀s,shape ls (Bv ps f i)=A s->s.p.length=q):=λs hs=>by
     rw[(I4 hokc' _ s HO.o.2.2.1 hs).len,HQ.o.1]
    clear hokc hokc' HSh;go_wp2_with fail;refine HSh'.o.mono ?_
    rintro e w6⟨hb6,⟨s,v,hsh,rfl,hov⟩|⟨j,p,s,hj1,hj2,hj3,rfl⟩⟩
    .
     obtain⟨xa,xcap,rfl,hx1,hx2,hxL,hxB,hxN⟩:=CF.open hov;have HXs:sE (Dy (Bf cs) ps f=A s.p/\s.p.length=q):=⟨by
      unfold Dy;rw[Ä HNe.o,HO.o.2.2.2.2.1,HN.o.1,hsh];rfl,HSl.o s hsh⟩
     have HXf:=qX (HFa.o.later hb6);have HXo:sE (AL w6 xa s.p/\(∀ad,xa=A ad->WF.heap.size<=ad.block)):=⟨hxL,λad had=>rX HI.o.2.size (hxB ad had)⟩
     have HXn:sE (∀(r' i':Nat),(A9 ps f i)[r']? = A i'->∃g,nb'=A (C g 0)/\WF.heap.size<=g/\g<w6.heap.size/\w6.cell? (C g r')=A (.q (i':Int))):=λr' i' hr'=>by
      obtain⟨g,h1,h2,h3,h4⟩:=HNl.o r' i' hr';exact⟨g,h1,h2,rZ h3 hb6.size,jf hb6 h4⟩
     have hxlen:=HXs.o.2;rw[hxlen]at hx1⊢;clear hsh hov hx2 hxL hxB hxN hb6 hxlen;obtain⟨XL,hXL⟩:∃l,l=s.p:=⟨_,J⟩
     rw[<-hXL]at HXs HXo;clear hXL;obtain⟨WX,hWX⟩:∃W,W=w6:=⟨_,J⟩
     subst hWX;exact nW
    have hjl:=Ap hj1;obtain⟨i0,hi0,-⟩:=Ao (A9 ps f i) j (by rw[<-HO.o.1];exact hjl);obtain⟨ng,rfl,hng1,hng2,hnc⟩:=HNl.o j i0 hi0;have hnv:=XG (cs:=Bf cs) HL.o.2.1 (f:=f) HNe.o (r:=j) (i:=i0) (p:=p) (s:=s) (by rw[HN.o.1];exact hi0) (by rw[HN.o.1];exact hj1) (by rw[HO.o.2.2.2.2.1,HN.o.1];exact hj2) hj3;have HSt:sE (∀a',BL (Bf cs) ps (f+1) (if z<0\/(i0:Int)<z then(i0:Int)else z) a'):=λa'=>HR.o.1.stuck HL.o.2.1 hnv.1 hnv.2
    have e1:=jf hb6 hnc;have HF6:=qX (HFa.o.later hb6);have hjq:j<q:=by rw[HQ.o.1]at hjl;exact hjl
    clear hj1 hj2 hj3 hjl hi0 hng1 hng2 hnc hnv hb6;obtain rfl|⟨i1,rfl,hi1⟩:=HZ.o
    .
     go_wp2
     go_roundg (G1-1)
     case measure=>omega
     case rel=>exact⟨f+1,by omega,by go_num,_,a,rfl,by have:=HSt.o a;rwa[Æ (.inl (by omega))]at this,HF6.o⟩
    by_cases hlt:i0<i1
    .
     have hlt':decide ((i0:Int)<(i1:Int))=true:=by simpa using hlt
     go_wp2
     go_roundg (G1-1)
     case measure=>omega
     case rel=>exact⟨f+1,by omega,by go_num,_,a,rfl,by have:=HSt.o a;rwa[Æ (.inr (by omega))]at this,HF6.o⟩
    have hlt':decide ((i0:Int)<(i1:Int))=false:=by simpa using hlt
    go_wp2
    go_roundg (G1-1)
    case measure=>omega
    case rel=>exact⟨f+1,by omega,by go_num,_,a,rfl,by have:=HSt.o a;rwa[Ä (by omega)]at this,HF6.o⟩
  obtain rfl:f=8:=by omega
  have hzne:w.heap.size+1≠D:=by have:=HS.o.2.2.2.2;omega
  have hFne:F≠D:=by have:=HS.o.2.2.2.2;omega
  have hwne:w.heap.size≠D:=by have:=HS.o.2.2.2.2;omega
  obtain⟨rfl,hsh,hno⟩|⟨i0,rfl,hnv,hfirst⟩:=HR.o.1.g HL.o.2.1
  rotate_left
  . have HE:=qY hnv hfirst;have z0:=HR.o.2.E HS.o.2.2.1.e hzne;have z1:=HR.o.2.E HS.o.2.2.1.a hzne;have zf0:=(HR.o.2.s HS.o.2.2.1.e hzne).trans HS.o.2.2.1.f0;have zf1:=(HR.o.2.s HS.o.2.2.1.a hzne).trans HS.o.2.2.1.f1;have HBe:=qX HR.o.2.g;clear hnv hfirst hzne hFne hwne;go_wp2_with fail;exact Ę (v:=.t #[.sn,.sn,.agg #[.q 4,.q (i0:Int)]]) (by simp[results,Tryz.results11,go_sem,z0,z1]) rfl ⟨(HBe.o.setCell (p:=(C (w.heap.size+1) 0)) (œ _) _).setCell (p:=(C (w.heap.size+1) 1)) (œ _) _,.inl ⟨i0,HE.o.1,HE.o.2,J⟩⟩
  have HSh:=qY hsh hno;have HW4:sE (CE wr w.heap.size (.s ca m ccap) kb per (.s na r ncap)/\ļ wr (w.heap.size+1) (.q 0) (.q 0)/\ļ wr F (.q 0) (.q (-1))/\ER wr D n a/\zW w wr):=⟨⟨HR.o.2.E HS.o.2.1.e hwne,HR.o.2.E HS.o.2.1.a hwne,HR.o.2.E HS.o.2.1.k hwne,HR.o.2.E HS.o.2.1.l hwne⟩,⟨HR.o.2.E HS.o.2.2.1.e hzne,HR.o.2.E HS.o.2.2.1.a hzne,(HR.o.2.s HS.o.2.2.1.e hzne).trans HS.o.2.2.1.f0,(HR.o.2.s HS.o.2.2.1.a hzne).trans HS.o.2.2.1.f1⟩,⟨HR.o.2.E HS.o.2.2.2.1.e hFne,HR.o.2.E HS.o.2.2.2.1.a hFne,(HR.o.2.s HS.o.2.2.2.1.e hFne).trans HS.o.2.2.2.1.f0,(HR.o.2.s HS.o.2.2.2.1.a hFne).trans HS.o.2.2.2.1.f1⟩,HR.o.2.e,HR.o.2.g⟩
  obtain⟨W4,hW4⟩:∃W,W=wr:=⟨_,J⟩
  subst hW4;clear hsh hno hzne hFne hwne;go_wp2_with fail;go_loopg[17,18] n (λgk ov iv wr=>∃i:Nat,gk+i=n/\iv=.q i/\∃L,BD a i L/\CF wr W4.heap.size ov (Aq ps a L)/\(i=0->ov=.sn)/\zW W4 wr)
  case atStart=>exact⟨0,by omega,J,[],BD.c a,Ĉ _ _ _ _,λ_=>J,br⟩
  case round=>
   obtain⟨i,hi,rfl,L,hL,hown,hnil,hb⟩:=hrel;have HI:=qZ hL hown hb;have HBw:=qX (HW4.o.2.2.2.2.tr hb);have hLl:=hL.length;by_cases hin:i<n
   .
    obtain⟨p,hp,-⟩:=Ao ps i (by rw[HN.o.1];exact hin);obtain⟨pb,po,rfl,-,hpc⟩:=HL.o.1.h (by rw[HN.o.1];omega);have d0:=jf HBw.o (hpc i p hp).1;have d1:=jf HBw.o (hpc i p hp).2.1;have d2:=jf HBw.o (hpc i p hp).2.2;have d3:=jf hb (HW4.o.2.2.2.1.E i hin);have hput k i{p}:=@ic p ps a L k i;obtain⟨x0,hx0⟩:=ex p.b;obtain⟨x1,hx1⟩:=ex p.h;obtain⟨x2,hx2⟩:=ex p.a;obtain⟨t,ht⟩:=ex (a i);have HGp:sE (∀k,(Aq ps a L).take k++[(⟨x0,x1,t⟩:Pk)]++(Aq ps a L).drop k=Aq ps a (L.take k++i::L.drop k)):=λk=>by
     have:=hput k i hp;rwa[hx0,hx1,ht]at this
    rw[hx0]at d0;rw[hx1]at d1;rw[hx2]at d2;rw[ht]at d3;have HT:=qX ht;obtain⟨WR,hWR⟩:∃W,W=wr:=⟨_,J⟩
    subst hWR;obtain⟨G4,hG4⟩:∃G,G=gk:=⟨_,J⟩
    subst hG4;have hbV:zW WR (WR.alloc (.c #[.q x0,.q x1,.q t] 68)):=ba;have HQc0:sE (∀m' W,vl (WR.alloc (.c #[.q x0,.q x1,.q t] 68)).heap.size ((WR.alloc (.c #[.q x0,.q x1,.q t] 68)).drewN m') W->W.cell? (C WR.heap.size 0)=A (.q x0)/\W.cell? (C WR.heap.size 1)=A (.q x1)/\W.cell? (C WR.heap.size 2)=A (.q t)):=λm' W hW=>⟨jf (w:=(WR.alloc (.c #[.q x0,.q x1,.q t] 68)).drewN m') hW (by simp),jf (w:=(WR.alloc (.c #[.q x0,.q x1,.q t] 68)).drewN m') hW (by simp),jf (w:=(WR.alloc (.c #[.q x0,.q x1,.q t] 68)).drewN m') hW (by simp)⟩
    have HV5:sE (zW W4 (WR.alloc (.c #[.q x0,.q x1,.q t] 68))/\W4.heap.size<=(WR.alloc (.c #[.q x0,.q x1,.q t] 68)).heap.size/\zW WR (WR.alloc (.c #[.q x0,.q x1,.q t] 68))):=⟨hb.tr hbV,rX hb.size hbV.size,hbV⟩
    have d4:(WR.alloc (.c #[.q x0,.q x1,.q x2] 68)).cell? (C D i)=A (.q t):=jf ba d3;have q2:(WR.alloc (.c #[.q x0,.q x1,.q t] 68)).cell? (C WR.heap.size 2)=A (.q t):=by simp
    clear hp hpc hx0 hx1 hx2 ht hput hL hb hbV;by_cases hi0:i=0
    .
     obtain rfl:L=[]:=Ğ.1 (by omega);obtain rfl:=hnil hi0;have HI0:=qX hi0;have HPut:sE (BD a (i+1) (([]:lN).take 0++i::([]:lN).drop 0)):=HI.o.1.K (k:=0) (λx y h=>absurd h (İ _)) (λx y _ h=>by simp at h);clear hown hLl hnil hi0;go_wp2_with fail;go_loopg[20] 0 (λgk kv wr=>kv=.q 0/\wr=(WR.alloc (.c #[.q x0,.q x1,.q t] 68)))
     case atStart=>exact⟨J,J⟩
     case round=>
      obtain⟨rfl,hwr⟩:=hrel;subst hwr;go_wp2
      go_quiet (fail);obtain⟨V6,hV6⟩:=ex ((WR.alloc (.c #[.q x0,.q x1,.q t] 68)).drewN nq);obtain⟨BB,hBB⟩:=ex ((WR.alloc (.c #[.q x0,.q x1,.q t] 68)).heap.size);have HBB:sE (BB<=V6.heap.size):=by
       exact mB
      have HQc:sE (∀W,vl BB V6 W->W.cell? (C WR.heap.size 0)=A (.q x0)/\W.cell? (C WR.heap.size 1)=A (.q x1)/\W.cell? (C WR.heap.size 2)=A (.q t)):=λW hW=>by
       rw[<-hBB,<-hV6]at hW;exact HQc0.o _ W hW
      have HBB4:sE (W4.heap.size<=BB/\zW W4 V6):=by
       exact m7
      have HTk:sE (((Aq ps a []).take 0).length=0/\AL V6 sA ((Aq ps a []).take 0)/\((sA:oA)=sA->(Aq ps a []).take 0=[]/\0=0)):=⟨J,.inl J,λ_=>⟨J,J⟩⟩
      have HDr:sE (((Aq ps a []).drop 0).length=0/\(∀W,vl BB V6 W->AL W sA ((Aq ps a []).drop 0))/\((sA:oA)=sA->(Aq ps a []).drop 0=[]/\0=0)):=⟨J,λ_ _=>.inl J,λ_=>⟨J,J⟩⟩
      have HTl:sE (([]:List Pk).length+((Aq ps a []).take 0).length<=1000/\((Aq ps a []).take 0).length+ [(⟨x0,x1,t⟩:Pk)].length<=1000/\((Aq ps a []).take 0++[(⟨x0,x1,t⟩:Pk)]).length+((Aq ps a []).drop 0).length<=1000):=⟨by simp,by simp,by simp[Aq]⟩
      rw[hV6];clear hV6 hBB;go_wp2_with (first
       |(at_builtin;refine BC _ J _ _ J BB (.sn) [] ((Aq ps a []).take 0) sA 0 0 HTk.o.1 J J (Ĉ _ _ _ _) HTk.o.2.1 HTk.o.2.2 HTl.o.1 HBB.o ?_;rintro v7 w7⟨ho7,hb7⟩;have H7:sE (CF w7 BB v7 ((Aq ps a []).take 0)/\vl BB V6 w7/\BB<=w7.heap.size):=⟨by simpa using ho7,hb7,rX HBB.o hb7.size⟩;obtain⟨x7,y7,z7⟩:=HQc.o w7 hb7;have H8:sE (CF (w7.alloc (.cells #[.q x0,.q x1,.q t] 68)) BB v7 ((Aq ps a []).take 0)/\AL (w7.alloc (.cells #[.q x0,.q x1,.q t] 68)) (sa w7.heap.size 0) [⟨x0,x1,t⟩]/\vl BB V6 (w7.alloc (.cells #[.q x0,.q x1,.q t] 68))/\BB<=(w7.alloc (.cells #[.q x0,.q x1,.q t] 68)).heap.size):=⟨H7.o.1.later ba,Ox w7 x0 x1 t,H7.o.2.1.alloc H7.o.2.2 _,rX H7.o.2.2 (by simp)⟩;clear ho7 hb7)
       |(at_builtin;refine BC _ J _ _ J BB v7 ((Aq ps a []).take 0) [⟨x0,x1,t⟩] (sa w7.heap.size 0) 1 1 J J J H8.o.1 H8.o.2.1 (λh=>by cases h) HTl.o.2.1 H8.o.2.2.2 ?_;rintro v9 w9⟨ho9,hb9⟩;have H9:sE (CF w9 BB v9 (((Aq ps a []).take 0)++[⟨x0,x1,t⟩])/\vl BB V6 w9/\BB<=w9.heap.size):=⟨ho9,H8.o.2.2.1.trans hb9,rX H8.o.2.2.2 hb9.size⟩;clear ho9 hb9)
       |(at_builtin;go_must (refine BC _ J _ _ J BB v9 (((Aq ps a []).take 0)++[⟨x0,x1,t⟩]) ((Aq ps a []).drop 0) sA 0 0 HDr.o.1 J J H9.o.1 (HDr.o.2.1 w9 H9.o.2.1) HDr.o.2.2 HTl.o.2.2 H9.o.2.2 ?_;rintro vA wA⟨hoA,hbA⟩;have HA:sE (CF wA W4.heap.size vA (Aq ps a (([]:lN).take 0++i::([]:lN).drop 0))/\zW W4 wA):=⟨by rw[<-HGp.o 0];exact CF.l hoA HBB4.o.1,HBB4.o.2.trans ((H9.o.2.1.trans hbA).mono HBB4.o.1)⟩;clear hoA hbA)))
      exact nt
    obtain⟨oa,ocap,rfl,hoc1,hoc2,hoL,hoB,-⟩:=CF.open hown;have hlen:(Aq ps a L).length=i:=by rw[Aq,lx];exact hLl
    obtain⟨ob,oo,rfl,hobl,hocc⟩:=hoL.h (by rw[hlen];omega);have HLen:=qX hlen;have HGn:sE (∀m' W,vl (WR.alloc (.c #[.q x0,.q x1,.q t] 68)).heap.size ((WR.alloc (.c #[.q x0,.q x1,.q t] 68)).drewN m') W->AL W (sa ob oo) (Aq ps a L)):=λm' W hW=>hoL.d (HV5.o.2.2.trans ((ì br m':vl (WR.alloc (.c #[.q x0,.q x1,.q t] 68)).heap.size (WR.alloc (.c #[.q x0,.q x1,.q t] 68)) ((WR.alloc (.c #[.q x0,.q x1,.q t] 68)).drewN m')).trans hW|>.mono HV5.o.2.2.size))
    have HCy:sE (∀(k y:Nat),0<k->L[k-1]? = A y->∀m',((WR.alloc (.c #[.q x0,.q x1,.q t] 68)).drewN m').cell? (C ob (oo+(k-1)*3+2))=A (.q (a y))):=λk y hk0 hy m'=>by
     have hg:(Aq ps a L)[k-1]? = A (I7 ps a y):=by rw[Aq,τ,hy];rfl
     have hyi:=(HI.o.1.d y).1 (ĵ hy);obtain⟨py,hpy,-⟩:=Ao ps y (by rw[HN.o.1];omega);have hc:=(hocc (k-1) _ hg).2.2;rw[FN hpy]at hc;exact jf (w:=WR) (ì HV5.o.2.2 m') hc
    rw[hlen]at hoc1⊢;unfold s7 at hoc2;clear hown hnil hoL hoB hobl hocc hlen;go_wp2_with fail;go_loopg[20] i (λgk kv wr=>∃k:Nat,gk=k/\k<=i/\kv=.q k/\(∀(x y:Nat),k<=x->L[x]? = A y->t<a y)/\∃m',wr=(WR.alloc (.c #[.q x0,.q x1,.q t] 68)).drewN m')
    case atStart=>exact⟨i,J,lr,J,λx y h1 h2=>by have:=Ap h2;omega,0,J⟩
    case round=>
     obtain⟨k,hgk,hki,rfl,hhi,m',hwr⟩:=hrel;have HHi:=qX hhi;have HWr:=qX hwr;have q2':wr.cell? (C WR.heap.size 2)=A (.q t):=by rw[hwr];exact q2
     clear hhi;by_cases hk0:0<k
     .
      obtain⟨y,hy,-⟩:=Ao L (k-1) (by omega);have cy:wr.cell? (C ob (oo+(k-1)*3+2))=A (.q (a y)):=by rw[hwr];exact HCy.o k y hk0 hy m'
      have HY:=qX hy;have dk:decide ((0:Int)<(k:Int))=true:=by simpa using hk0
      obtain⟨ty,hty⟩:=ex (a y);rw[hty]at cy;have HTy:=qX hty;clear hy hty hwr;by_cases hlt:t<ty
      .
       have dl:decide (t<ty)=true:=by simpa using hlt
       have HHi':sE (∀(x z:Nat),k-1<=x->L[x]? = A z->t<a z):=λx z h1 h2=>by
        obtain h|h:=nR x k
        .
         obtain rfl:x=k-1:=by omega
         obtain rfl:=Ö (HY.o.symm.trans h2);rw[HTy.o];exact hlt
        exact HHi.o x z h h2
       clear hlt;go_wp2
       go_quiet (fail);go_wp2
       go_roundg (gk-1)
       case measure=>omega
       case rel=>exact⟨k-1,by omega,by omega,by go_num,HHi'.o,m' +nq,by rw[HWr.o,ν]⟩
      have dl:decide (t<ty)=false:=by simpa using hlt
      have HLow:sE (∀(x z:Nat),x<k->L[x]? = A z->a z<=t):=λx z h1 h2=>nY HI.o.1 HY.o (by rw[HTy.o];omega) x z (by omega) h2
      clear hlt;go_wp2
      go_quiet (fail);have hW6:wr.drewN nq=(WR.alloc (.c #[.q x0,.q x1,.q t] 68)).drewN (m' +nq):=by rw[HWr.o,ν]
      rw[hW6];clear hW6 dk dl cy;have HPut:=qX (HI.o.1.K (k:=k) (λx y h1 h2=>by rw[HT.o];exact HLow.o x y h1 h2) (λx y h1 h2=>by rw[HT.o];exact HHi.o x y h1 h2));obtain⟨V6,hV6⟩:=ex ((WR.alloc (.c #[.q x0,.q x1,.q t] 68)).drewN (m' +nq));obtain⟨BB,hBB⟩:=ex ((WR.alloc (.c #[.q x0,.q x1,.q t] 68)).heap.size);have HBB:sE (BB<=V6.heap.size):=by
       exact mB
      have HQc:sE (∀W,vl BB V6 W->W.cell? (C WR.heap.size 0)=A (.q x0)/\W.cell? (C WR.heap.size 1)=A (.q x1)/\W.cell? (C WR.heap.size 2)=A (.q t)):=λW hW=>by
       rw[<-hBB,<-hV6]at hW;exact HQc0.o _ W hW
      have HBB4:sE (W4.heap.size<=BB/\zW W4 V6):=by
       exact m7
      have HLP:sE (∀W,vl BB V6 W->AL W (sa ob oo) (Aq ps a L)):=λW hW=>by
       rw[<-hBB,<-hV6]at hW;exact HGn.o _ W hW
      have HTk:sE (((Aq ps a L).take k).length=k/\AL V6 (sa ob oo) ((Aq ps a L).take k)/\((A (C ob oo):oA)=sA->(Aq ps a L).take k=[]/\ocap=0)):=⟨by rw[Ε,HLen.o];omega,V7 (HLP.o V6 br) k,λh=>by cases h⟩
      have HTl:sE (([]:List Pk).length+((Aq ps a L).take k).length<=1000/\((Aq ps a L).take k).length+ [(⟨x0,x1,t⟩:Pk)].length<=1000/\((Aq ps a L).take k++[(⟨x0,x1,t⟩:Pk)]).length+((Aq ps a L).drop k).length<=1000):=by
       exact ox
      rw[hV6];by_cases hkc:k=ocap
      .
       subst hkc;obtain rfl:i=k:=by omega
       have HDr:sE (((Aq ps a L).drop i).length=0/\(∀W,vl BB V6 W->AL W (sa ob oo) ((Aq ps a L).drop i))/\((A (C ob oo):oA)=sA->(Aq ps a L).drop i=[]/\0=0)):=⟨by rw[ld,HLen.o];omega,λ_ _=>.inl (List.drop_eq_nil_of_le (by rw[HLen.o];omega)),λh=>by cases h⟩
       clear hV6 hBB;go_wp2_with (first
        |(at_builtin;refine BC _ J _ _ J BB (.sn) [] ((Aq ps a L).take i) (sa ob oo) i i HTk.o.1 J J (Ĉ _ _ _ _) HTk.o.2.1 HTk.o.2.2 HTl.o.1 HBB.o ?_;rintro v7 w7⟨ho7,hb7⟩;have H7:sE (CF w7 BB v7 ((Aq ps a L).take i)/\vl BB V6 w7/\BB<=w7.heap.size):=⟨by simpa using ho7,hb7,rX HBB.o hb7.size⟩;obtain⟨x7,y7,z7⟩:=HQc.o w7 hb7;have H8:sE (CF (w7.alloc (.cells #[.q x0,.q x1,.q t] 68)) BB v7 ((Aq ps a L).take i)/\AL (w7.alloc (.cells #[.q x0,.q x1,.q t] 68)) (sa w7.heap.size 0) [⟨x0,x1,t⟩]/\vl BB V6 (w7.alloc (.cells #[.q x0,.q x1,.q t] 68))/\BB<=(w7.alloc (.cells #[.q x0,.q x1,.q t] 68)).heap.size):=⟨H7.o.1.later ba,Ox w7 x0 x1 t,H7.o.2.1.alloc H7.o.2.2 _,rX H7.o.2.2 (by simp)⟩;clear ho7 hb7)
        |(at_builtin;refine BC _ J _ _ J BB v7 ((Aq ps a L).take i) [⟨x0,x1,t⟩] (sa w7.heap.size 0) 1 1 J J J H8.o.1 H8.o.2.1 (λh=>by cases h) HTl.o.2.1 H8.o.2.2.2 ?_;rintro v9 w9⟨ho9,hb9⟩;have H9:sE (CF w9 BB v9 (((Aq ps a L).take i)++[⟨x0,x1,t⟩])/\vl BB V6 w9/\BB<=w9.heap.size):=⟨ho9,H8.o.2.2.1.trans hb9,rX H8.o.2.2.2 hb9.size⟩;clear ho9 hb9)
        |(at_builtin;go_must (refine BC _ J _ _ J BB v9 (((Aq ps a L).take i)++[⟨x0,x1,t⟩]) ((Aq ps a L).drop i) (sa ob oo) 0 0 HDr.o.1 J J H9.o.1 (HDr.o.2.1 w9 H9.o.2.1) HDr.o.2.2 HTl.o.2.2 H9.o.2.2 ?_;rintro vA wA⟨hoA,hbA⟩;have HA:sE (CF wA W4.heap.size vA (Aq ps a (L.take i++i::L.drop i))/\zW W4 wA):=⟨by rw[<-HGp.o i];exact CF.l hoA HBB4.o.1,HBB4.o.2.trans ((H9.o.2.1.trans hbA).mono HBB4.o.1)⟩;clear hoA hbA)))
       exact nt
      have hkc':k<ocap:=by omega
      have HDr:sE (((Aq ps a L).drop k).length=i-k/\(∀W,vl BB V6 W->AL W (sa ob (oo+k*3)) ((Aq ps a L).drop k))/\((A (C ob (oo+k*3)):oA)=sA->(Aq ps a L).drop k=[]/\ocap-k=0)):=⟨by rw[ld,HLen.o],λW hW=>(HLP.o W hW).drop k,λh=>by cases h⟩
      clear hV6 hBB hkc;exact n7
     have dk:decide ((0:Int)<(k:Int))=false:=by simpa using (show ¬(0:Int)<(k:Int)by omega)
     have dk':decide (0<k)=false:=by simpa using hk0
     have HLow:sE (∀(x z:Nat),x<k->L[x]? = A z->a z<=t):=λx z h1 h2=>by omega
     clear hwr;go_wp2
     go_quiet (fail);have hW6:wr.drewN nq=(WR.alloc (.c #[.q x0,.q x1,.q t] 68)).drewN (m' +nq):=by rw[HWr.o,ν]
     rw[hW6];clear hW6 dk dk';have HPut:=qX (HI.o.1.K (k:=k) (λx y h1 h2=>by rw[HT.o];exact HLow.o x y h1 h2) (λx y h1 h2=>by rw[HT.o];exact HHi.o x y h1 h2));obtain⟨V6,hV6⟩:=ex ((WR.alloc (.c #[.q x0,.q x1,.q t] 68)).drewN (m' +nq));obtain⟨BB,hBB⟩:=ex ((WR.alloc (.c #[.q x0,.q x1,.q t] 68)).heap.size);have HBB:sE (BB<=V6.heap.size):=by
      exact mB
     have HQc:sE (∀W,vl BB V6 W->W.cell? (C WR.heap.size 0)=A (.q x0)/\W.cell? (C WR.heap.size 1)=A (.q x1)/\W.cell? (C WR.heap.size 2)=A (.q t)):=λW hW=>by
      rw[<-hBB,<-hV6]at hW;exact HQc0.o _ W hW
     have HBB4:sE (W4.heap.size<=BB/\zW W4 V6):=by
      exact m7
     have HLP:sE (∀W,vl BB V6 W->AL W (sa ob oo) (Aq ps a L)):=λW hW=>by
      rw[<-hBB,<-hV6]at hW;exact HGn.o _ W hW
     have HTk:sE (((Aq ps a L).take k).length=k/\AL V6 (sa ob oo) ((Aq ps a L).take k)/\((A (C ob oo):oA)=sA->(Aq ps a L).take k=[]/\ocap=0)):=⟨by rw[Ε,HLen.o];omega,V7 (HLP.o V6 br) k,λh=>by cases h⟩
     have HTl:sE (([]:List Pk).length+((Aq ps a L).take k).length<=1000/\((Aq ps a L).take k).length+ [(⟨x0,x1,t⟩:Pk)].length<=1000/\((Aq ps a L).take k++[(⟨x0,x1,t⟩:Pk)]).length+((Aq ps a L).drop k).length<=1000):=by
      exact ox
     rw[hV6];have hkc':k<ocap:=by omega
     have HDr:sE (((Aq ps a L).drop k).length=i-k/\(∀W,vl BB V6 W->AL W (sa ob (oo+k*3)) ((Aq ps a L).drop k))/\((A (C ob (oo+k*3)):oA)=sA->(Aq ps a L).drop k=[]/\ocap-k=0)):=⟨by rw[ld,HLen.o],λW hW=>(HLP.o W hW).drop k,λh=>by cases h⟩
     clear hV6 hBB;exact n7
   obtain rfl:i=n:=by omega
   obtain⟨oa,ocap,rfl,hoc1,hoc2,hoL,hoB,-⟩:=CF.open hown;have hok:=HSh.o.1.y HL.o.2.1 HL.o.2.2.2.y (L:=L) (by rw[HN.o.1];exact hL);have HLc:=qX (HLk.o wr oa ocap (Aq ps a L) HBw.o hoL hok);obtain⟨g0,g1,g2,g3⟩:=HW4.o.1.later hb;have HRes:=qZ (HW4.o.2.1.later hb) (HW4.o.2.2.1.later hb) (BZ HW4.o.2.1.e);have HOw:=qX hown;have HLI:sE (BD a ps.length L):=by rw[HN.o.1];exact hL
   obtain⟨ql,hql⟩:=ex ((Aq ps a L).length);rw[hql]at HLc HOw⊢;clear hL hown hnil hb hoc1 hoc2 hoL hoB hok hLl hql;go_wp2_with fail;refine HLc.o.mono ?_
   rintro e w5⟨v,l,rfl,hv,hls,hb5⟩;obtain⟨z0,z1,zf0,zf1⟩:=HRes.o.1.later hb5;obtain⟨f0,f1,ff0,ff1⟩:=HRes.o.2.1.later hb5;have HE:=qV (HOw.o.later hb5) (BA hv HI.o.2.2.size) hls (HBw.o.tr hb5);have HKeep:sE (∀{e' sz n':Nat}{v':Vl}{xs:List Vl}(u1 u2:Vl),w5.ownsRow W4.heap.size e' sz v' n' xs->(((w5.setCell (C (w.heap.size+1) 0) u1).setCell (C (w.heap.size+1) 1) u2).drew).ownsRow w.heap.size e' sz v' n' xs):=λ{e' sz n' v' xs} u1 u2 h=>by
    refine BA (Ai h λg hg _=>?_) (rX (œ _) (ŕ HRes.o.2.2));have hgB:=(AC h hg).1;have hne:g≠w.heap.size+1:=by have:=HRes.o.2.2;omega
    exact(Below.heap_setCell _ _ _ _ hne).trans (Below.heap_setCell _ _ _ _ hne)
   clear hv hls hb5 ff0 ff1 g0 g1 g2 g3;go_wp2
   go_region;go_wp2_with fail;exact Ę (v:=.t #[.s oa ql ocap,v,.agg #[.q 0,.q (-1)]]) (by simp[results,Tryz.results11,go_sem,z0,z1]) rfl ⟨ì ((HE.o.2.2.2.setCell (p:=(C (w.heap.size+1) 0)) (œ _) _).setCell (p:=(C (w.heap.size+1) 1)) (œ _) _) 1,.inr ⟨HSh.o.2,_,_,_,_,J,HKeep.o _ _ HE.o.1,HKeep.o _ _ HE.o.2.1,a,L,HSh.o.1,HLI.o,J,HE.o.2.2.1⟩⟩
end Go.Proofs.YtaoikkhlnhfkfaaGreatDoor
