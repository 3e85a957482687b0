import Derived.Test.YtejlihcdfffafaaGreatDoorP28
set_option maxHeartbeats 1000000
set_option maxRecDepth 100000
namespace Go.Proofs.YtejlihcdfffafaaGreatDoor
open Go.RowKit
def jP (cs:Nat->lI)(k:Nat)(per:Int)(ns:List Int)(ps:List Pk)(w:World)(e:Ending)(w':World):Prop:=
 zW w w' /\ ((∃ i:Nat,Bg cs ps i /\ (∀ j,j < i -> ¬ Bg cs ps j) /\ e=.returned (.tuple #[.slice none 0 0,.slice none 0 0,.agg #[.int .i64 4,.int .i64 (i:Int)]])) \/
  ((∀ i,¬ Bg cs ps i) /\ ∃ h z qs l,e=.returned (.tuple #[h,z,.agg #[.int .i64 0,.int .i64 (-1)]]) /\ BD w' w.heap.size h qs /\ DX w' w.heap.size z l /\ Cy cs k per ns ps qs l))
theorem Ma (ca:oA)(ccap:Nat)(cs:List lI)(kb:ByteArray)(per:Int)(na:oA)(ncap:Nat)(ns:List Int)(pa:oA)(pcap:Nat)(ps:List Pk)(w:World)(hcl:Hf w ca cs)(hnl:AR w na ns)(hnr:ns.length<=1000)(hpl:Aw w pa ps)(hpc:ps.length<=pcap)(hpm:pcap<=maxLen)(ho:Al ps)(hg:GA cs (kindOf kb.toList) per ns):Calls Tryz.prog 19 #[.agg #[.slice ca cs.length ccap,.string kb,.int .i64 per,.slice na ns.length ncap],.slice pa ps.length pcap] w fun e w'=>jP (Ae cs) (kindOf kb.toList) per ns ps w e w':=by
 have HG:Hid (∀ W,zW w W->Calls Tryz.prog 24 #[.agg #[.slice ca cs.length ccap,.string kb,.int .i64 per,.slice na ns.length ncap]] W fun e w'=>OH 0 (-1) W e w'):=fun W hb=>Fv ca ccap cs kb per na ncap ns W 0 (-1) (hcl.below hb) (by rw[hg.len];omega) (hnl.below hb) hnr (.inr (.inr ⟨hg.len,hg.curves,rfl,.inr ⟨hg.kind.1,hg.kind.2,.inr ⟨hg.per.1,hg.per.2,0,hg.nums,rfl⟩⟩⟩))
 have HPf:Hid (∀ W,zW w W->qW 14 #[.slice pa ps.length pcap] W (.agg #[.int .i64 0,.int .i64 (-1)])):=fun W hb=>Nz pa pcap ps W (hpl.below hb) hpc hpm 0 (-1) (.inr (.inr ⟨ho,rfl,rfl⟩))
 have HLk:Hid (∀ W qa qcap qs,zW w W->Aw W qa qs->Al qs->Calls Tryz.prog 31 #[.agg #[.slice ca cs.length ccap,.string kb,.int .i64 per,.slice na ns.length ncap],.slice qa qs.length qcap] W fun e w'=>UD (kindOf kb.toList) per qs ns W e w'):=fun W qa qcap qs hb hq hoq=>TE (.slice ca cs.length ccap) kb per na ncap ns qa qcap qs W hg.kind.1 (hnl.below hb) hg.nums hq hoq hg.per.1 hg.per.2 ⟨_,_,_,rfl⟩
 have HL:=qV hpl ho hcl hg.curves;have hfew:=ho.few;obtain⟨k,hk⟩:=ex (kindOf kb.toList);obtain⟨m,hm⟩:=ex cs.length;obtain⟨r,hr⟩:=ex ns.length;obtain⟨n,hn⟩:=ex ps.length;have HN:=qY hn hg.len;have hm8:m=8:=by rw[<- hm];exact hg.len
 rw[hk]at HLk;rw[hm,hr]at HG HLk;rw[hn]at HPf hfew;rw[hk,hm,hr,hn];have hmk:∀ w':World,(Instr.makeSlice 27 (.int .i64 n) (.int .i64 n)).run Tryz.prog w'=.ok (.slice (some ⟨w'.heap.size,0,none⟩) n n) (w'.alloc (.cells (madeCells #[.int .i64 0] n) 3)):=fun w'=>by
  obtain⟨i0,hi,hz0,hz1,hz2⟩:=vL Tryz.infoInt;have:=yW (P:=Tryz.prog) w' 27 3 i0 (.int .i64 0) Tryz.underlying27 hi hz0 .i64 .i64 n n (by omega) (by omega) (by rw[hz2];omega) (by omega);simpa[hz1,Value.cells]using this
 have hb1:zW w ((w.alloc (.cells #[.slice ca m ccap,.string kb,.int .i64 per,.slice na r ncap] 41)).alloc (.cells #[.int .i64 0,.int .i64 0] 52)):=ba.alloc (by simp) _;have hs1:(w.alloc (.cells #[.slice ca m ccap,.string kb,.int .i64 per,.slice na r ncap] 41)).heap.size=w.heap.size+1:=by simp
 have hga:CS ((w.alloc (.cells #[.slice ca m ccap,.string kb,.int .i64 per,.slice na r ncap] 41)).alloc (.cells #[.int .i64 0,.int .i64 0] 52)) w.heap.size (.slice ca m ccap) kb per (.slice na r ncap):=(Dk w (.slice ca m ccap) kb per (.slice na r ncap) 41).later ba;have h2a:At2 ((w.alloc (.cells #[.slice ca m ccap,.string kb,.int .i64 per,.slice na r ncap] 41)).alloc (.cells #[.int .i64 0,.int .i64 0] 52)) (w.heap.size+1) (.int .i64 0) (.int .i64 0):=by
  have:=JQ (w.alloc (.cells #[.slice ca m ccap,.string kb,.int .i64 per,.slice na r ncap] 41)) (.int .i64 0) (.int .i64 0) 52;rwa[hs1]at this
 obtain⟨V,hV⟩:=ex ((w.alloc (.cells #[.slice ca m ccap,.string kb,.int .i64 per,.slice na r ncap] 41)).alloc (.cells #[.int .i64 0,.int .i64 0] 52));rw[hV]at hb1 hga h2a;have HV:=qZ hb1 h2a hga;obtain⟨x0,x1,x2,x3⟩:=hga;clear hcl hnl hpl hpc hpm ho hg hk hm hr hn hb1 h2a hs1;have HM8:=qX hm8;clear hm8;go_in
 go_wp2_with fail;refine(HG.o _ HV.o.1).mono ?_
 rintro e w2 ⟨rfl,hb2⟩;have hb3:zW V (w2.alloc (.cells #[.int .i64 0,.int .i64 (-1)] 52)):=hb2.alloc hb2.size _;have HB3:Hid (zW w (w2.alloc (.cells #[.int .i64 0,.int .i64 (-1)] 52))/\At2 (w2.alloc (.cells #[.int .i64 0,.int .i64 (-1)] 52)) (w.heap.size+1) (.int .i64 0) (.int .i64 0)/\At2 (w2.alloc (.cells #[.int .i64 0,.int .i64 (-1)] 52)) w2.heap.size (.int .i64 0) (.int .i64 (-1))/\w.heap.size+1<w2.heap.size/\CS (w2.alloc (.cells #[.int .i64 0,.int .i64 (-1)] 52)) w.heap.size (.slice ca m ccap) kb per (.slice na r ncap)):=⟨HV.o.1.tr hb3,HV.o.2.1.later hb3,JQ w2 _ _ _,qD (Cg HV.o.2.1.c0) hb2.size,HV.o.2.2.later hb3⟩
 clear hb2 hb3 x0 x1 x2 x3;go_wp2_with fail;refine(HPf.o _ HB3.o.1).mono ?_
 rintro e w4 ⟨rfl,hb4⟩;obtain⟨F,hF⟩:=ex w2.heap.size;rw[hF]at HB3 ⊢;have hF1:=HB3.o.2.2.2.1;have hz:=HB3.o.2.1.later hb4;have hf:=HB3.o.2.2.1.later hb4;have hgt:=HB3.o.2.2.2.2.later hb4;have hb4w:=HB3.o.1.tr hb4;have hb5:zW w ((w4.setCell ⟨F,0,none⟩ (.int .i64 0)).setCell ⟨F,1,none⟩ (.int .i64 (-1))):=(hb4w.setCell (p:=⟨F,0,none⟩) (by show w.heap.size<=F;omega) _).setCell (p:=⟨F,1,none⟩) (by show w.heap.size<=F;omega) _;have hz5:=hz.other (Nat.ne_of_gt hF1) (.int .i64 0) (.int .i64 (-1));have hf5:=hf.set (.int .i64 0) (.int .i64 (-1));have hg5:CS ((w4.setCell ⟨F,0,none⟩ (.int .i64 0)).setCell ⟨F,1,none⟩ (.int .i64 (-1))) w.heap.size (.slice ca m ccap) kb per (.slice na r ncap):=by
  have ne:∀(o o':Nat),(⟨F,o,none⟩:Addr)≠⟨w.heap.size,o',none⟩:=fun o o' e=>by injection e with e1;omega
  refine⟨?_,?_,?_,?_⟩
  · rw[j9 _ _ _ _ (ne 1 0),j9 _ _ _ _ (ne 0 0)];exact hgt.c0
  · rw[j9 _ _ _ _ (ne 1 1),j9 _ _ _ _ (ne 0 1)];exact hgt.c1
  · rw[j9 _ _ _ _ (ne 1 2),j9 _ _ _ _ (ne 0 2)];exact hgt.c2
  rw[j9 _ _ _ _ (ne 1 3),j9 _ _ _ _ (ne 0 3)];exact hgt.c3
 obtain⟨y0,y1,yf0,yf1⟩:=hf;obtain⟨V3,hV3⟩:=ex ((w4.setCell ⟨F,0,none⟩ (.int .i64 0)).setCell ⟨F,1,none⟩ (.int .i64 (-1)));rw[hV3]at hb5 hz5 hf5 hg5;have hb6:zW V3 (V3.alloc (.cells (madeCells #[.int .i64 0] n) 3)):=ba;have hF3:=Cg hf5.c0;have HS:Hid (Di w (V3.alloc (.cells (madeCells #[.int .i64 0] n) 3)) (V3.alloc (.cells (madeCells #[.int .i64 0] n) 3)) V3.heap.size n (fun _=>0)/\CS (V3.alloc (.cells (madeCells #[.int .i64 0] n) 3)) w.heap.size (.slice ca m ccap) kb per (.slice na r ncap)/\At2 (V3.alloc (.cells (madeCells #[.int .i64 0] n) 3)) (w.heap.size+1) (.int .i64 0) (.int .i64 0)/\At2 (V3.alloc (.cells (madeCells #[.int .i64 0] n) 3)) F (.int .i64 0) (.int .i64 (-1))/\F<V3.heap.size/\w.heap.size+1<F):=⟨⟨But.refl _ _,Jr V3 n _,hb5.tr hb6,hb5.size⟩,hg5.later hb6,hz5.later hb6,hf5.later hb6,hF3,hF1⟩
 obtain⟨f0,f1,-,-⟩:=hf5;clear hb4 hz hgt hb4w hb5 hz5 hg5 hb6 hF3 hF;go_wp2_with fail;obtain⟨D,hD⟩:=ex V3.heap.size;obtain⟨W3,hW3⟩:=ex (V3.alloc (.cells (madeCells #[.int .i64 0] n) 3));rw[hD,hW3]at HS;rw[hD,hW3];clear hmk f0 f1 y0 y1 yf0 yf1 hD hW3 hV3 HB3 HV HG HPf hF1;go_loopg [8,10] 8 (fun gk nv fv wr=>∃ f:Nat,gk+f=8/\fv=.int .i64 f/\∃ z a,nv=.int .i64 z/\Bw (Ae cs) ps f z a/\Di w W3 wr D n a)
 case atStart=>exact⟨0,rfl,rfl,-1,_,rfl,KU _,HS.o.1⟩
 case round=>
  obtain⟨f,hf8,rfl,z,a,rfl,hfd,hfa⟩:=hrel;have HR:=qY hfd hfa;have HZ:Hid (z = -1\/∃ i:Nat,z=i/\i<n):=by
   have:=hfd.range;rwa[HN.o.1]at this
  clear hfd hfa;by_cases hf:f<8
  ·
   obtain⟨WF,hWF⟩:∃ W,W=wr:=⟨_,rfl⟩
   subst hWF;obtain⟨G1,hG1⟩:∃ G1,G1=gk:=⟨_,rfl⟩
   subst hG1;have hf38:decide ((f:Int)<8)=true:=by simpa using (show(f:Int)<8 by omega)
   go_wp2_with fail;go_loopg [11,12,13] n (fun gk v1 v2 iv wr=>∃ i:Nat,gk+i=n/\iv=.int .i64 i/\Both wr WF.heap.size v1 v2 (Bi ps f i) (Ai (AO ps f i))/\zW WF wr)
   case atStart=>exact⟨0,by omega,rfl,Vd _ _,br⟩
   case round=>
    obtain⟨i,hi,rfl,hbo,hb⟩:=hrel;have HI:=qY hbo hb;clear hbo hb;by_cases hin:i<n
    ·
     obtain⟨p,hp,-⟩:=Ab ps i (by rw[HN.o.1];exact hin);obtain⟨pb,po,rfl,-,hpc⟩:=HL.o.1.place (by rw[HN.o.1];omega);have HBw:=qX (HR.o.2.all.tr HI.o.2);have d0:=j7 HBw.o (hpc i p hp).1;have d1:=j7 HBw.o (hpc i p hp).2.1;have d2:=j7 HBw.o (hpc i p hp).2.2;have hfl:=Pf HL.o.2.1 hp f;have hos:=ML (ps:=ps) (f:=f) hp;have hns:=Kb (ps:=ps) f i;have HP:Hid (p=⟨p.flow,p.size,p.tick⟩):=rfl;obtain⟨x0,hx0⟩:=ex p.flow;obtain⟨x1,hx1⟩:=ex p.size;obtain⟨x2,hx2⟩:=ex p.tick;rw[hx0]at d0 hfl hos HP;rw[hx1]at d1 HP;rw[hx2]at d2 HP;clear hpc hp hx0 hx1 hx2;by_cases hxf:x0=(f:Int)
     ·
      rw[if_pos hxf]at hos;rw[if_pos (hfl.1 hxf)]at hns;have HOs:Hid (Bi ps f (i+1)=Bi ps f i++[⟨x0,x1,x2⟩]/\AO ps f (i+1)=AO ps f i++[i]):=⟨by rw[<- HP.o];exact hos,hns⟩
      have hxf':(x0==(f:Int))=true:=by simpa using hxf
      have hlen1:(Bi ps f i).length<=300/\(Ai (AO ps f i)).length<=300:=by
       have h1:=(N7 HL.o.2.1 f i (by rw[HN.o.1];omega)).2.2;have h2:=(Es HL.o.2.1 f i (by rw[HN.o.1];omega)).1;rw[Am];omega
      have HLen:Hid ((Bi ps f i).length<=1000/\(Ai (AO ps f i)).length<=1000):=⟨by omega,by omega⟩
      have HA:Hid (Both (wr.alloc (.cells #[.int .i64 x0,.int .i64 x1,.int .i64 x2] 50)) WF.heap.size u11 u12 (Bi ps f i) (Ai (AO ps f i))/\Aw (wr.alloc (.cells #[.int .i64 x0,.int .i64 x1,.int .i64 x2] 50)) (some ⟨wr.heap.size,0,none⟩) [⟨x0,x1,x2⟩]/\WF.heap.size<=(wr.alloc (.cells #[.int .i64 x0,.int .i64 x1,.int .i64 x2] 50)).heap.size/\zW WF (wr.alloc (.cells #[.int .i64 x0,.int .i64 x1,.int .i64 x2] 50))):=by
       have h1:zW wr (wr.alloc (.cells #[.int .i64 x0,.int .i64 x1,.int .i64 x2] 50)):=ba;refine⟨HI.o.1.later h1,.inr ⟨wr.heap.size,0,rfl,by simp,fun j q hj=>?_⟩,qI HI.o.2.size h1.size,HI.o.2.tr h1⟩;cases j with
       | zero=>
        obtain rfl:=Option.some.inj hj;exact⟨by simp,by simp,by simp⟩
       | succ j=>simp at hj
      clear hos hns hfl hxf hlen1;go_wp2_with (first
       | (at_builtin;refine Q6 _ rfl _ _ rfl WF.heap.size u11 u12 (Bi ps f i) (Ai (AO ps f i)) ⟨x0,x1,x2⟩ ⟨wr.heap.size,0,none⟩ rfl rfl HA.o.1 HA.o.2.1 HLen.o.1 HA.o.2.2.1 ?_;rintro v5 w5 ⟨hbo5,hb5⟩;have H5:Hid (Both w5 WF.heap.size v5 u12 (Bi ps f i++[⟨x0,x1,x2⟩]) (Ai (AO ps f i))/\zW WF w5):=⟨hbo5,HA.o.2.2.2.trans hb5⟩;have H6:Hid (Both (w5.alloc (.cells #[.int .i64 i] 3)) WF.heap.size v5 u12 (Bi ps f i++[⟨x0,x1,x2⟩]) (Ai (AO ps f i))/\(w5.alloc (.cells #[.int .i64 i] 3)).cell? ⟨w5.heap.size,0,none⟩=some (.int .i64 i)/\WF.heap.size<=(w5.alloc (.cells #[.int .i64 i] 3)).heap.size/\zW WF (w5.alloc (.cells #[.int .i64 i] 3))):=⟨hbo5.later ba,by simp,by have:=H5.o.2.size;simp;omega,H5.o.2.alloc H5.o.2.size _⟩;clear hbo5 hb5)
       | (at_builtin;go_must (refine KI _ rfl _ _ rfl WF.heap.size v5 u12 (Bi ps f i ++ [⟨x0,x1,x2⟩]) (Ai (AO ps f i)) (i:Int) ⟨w5.heap.size,0,none⟩ rfl rfl H6.o.1 H6.o.2.1 HLen.o.2 H6.o.2.2.1 ?_;rintro v7 w7 ⟨hbo7,hb7⟩;have H7:Hid (Both w7 WF.heap.size v5 v7 (Bi ps f (i+1)) (Ai (AO ps f (i+1))) /\ zW WF w7):=⟨by rw [HOs.o.1,HOs.o.2,Oj];exact hbo7,H6.o.2.2.2.trans hb7⟩;clear hbo7 hb7)))
      go_roundg (gk-1)
      case measure=>omega
      case rel=>exact⟨i+1,by omega,by go_num,H7.o.1,H7.o.2⟩
     rw[if_neg hxf]at hos;rw[if_neg (fun h=>hxf (hfl.2 h))]at hns;have HOs:=qY hos hns;have hxf':(x0==(f:Int))=false:=by simpa using hxf
     clear hos hns hfl hxf;go_wp2
     go_roundg (gk-1)
     case measure=>omega
     case rel=>exact⟨i+1,by omega,by go_num,by rw[HOs.o.1,HOs.o.2];exact HI.o.1,HI.o.2⟩
    obtain rfl:i=n:=by omega
    obtain⟨oa,ocap,rfl,hol,hom,hoL,hoB,hoN⟩:=BD.open HI.o.1.pks;have hnum:=HI.o.1.nums;obtain⟨nb',ncap',rfl,hnl1,hnl2,hnL⟩:=dI hnum;have hnB:∀ g,(Value.slice nb' (Ai (AO ps f i)).length ncap').ownBlock=some g->WF.heap.size<=g:=fun g hg=>(Aq hnum hg).1
    have hown:=Es HL.o.2.1 f i (by rw[HN.o.1];exact lr);have hownok:=(N7 HL.o.2.1 f i (by rw[HN.o.1];exact lr)).1;have hrise:=Si (ps:=ps) f i;have hfm:f<m:=by have:=HM8.o;omega
    obtain⟨ls,hls,-⟩:=Ab cs f (by rw[HN.o.2];exact hf);obtain⟨cb,coff,rfl,-,hcc⟩:=HL.o.2.2.1.place (by rw[HN.o.2];omega);obtain⟨la,lcap,cj,hlies,hlc,hlm,-⟩:=hcc f ls hls;have HBw:=qX (HR.o.2.all.tr HI.o.2);have cj':=j7 HBw.o cj;have hDne:w.heap.size≠D:=by have:=HS.o.2.2.2.2;omega
    have g0:=j7 HI.o.2 (HR.o.2.cell HS.o.2.1.c0 hDne);have hcur:=Cx hls;have hokc:=HL.o.2.2.2 f ls hf hls;have HFa:=qX (HR.o.2.later HI.o.2);have hDW:=HR.o.2.at_.lt;have HO:Hid ((Bi ps f i).length=(AO ps f i).length/\(∀(r' i':Nat),(AO ps f i)[r']? = some i'->i'<i/\Ag ps i'=f/\IP ps i'=r'/\(Bi ps f i)[r']? = ps[i']?)/\Al (Bi ps f i)/\(AO ps f i).Pairwise (·<·)/\Ae cs f=ls/\D<WF.heap.size):=⟨hown.1,hown.2,hownok,hrise,hcur,hDW⟩
    have HNl:Hid (∀(r' i':Nat),(AO ps f i)[r']? = some i'->∃ g,nb'=some ⟨g,0,none⟩/\WF.heap.size<=g/\g<wr.heap.size/\wr.cell? ⟨g,r',none⟩=some (.int .i64 i')):=fun r' i' hr'=>by
     have hnum2:=hnum;obtain⟨h1,⟨e,h0⟩|⟨g,cap,cur,e,hB,hgl,r⟩⟩:=hnum
     · rw[Am]at h0;have:=Af hr';omega
     injection e with e1 e2 e3
     subst e1;refine⟨g,rfl,hB,xR hgl,?_⟩;have hh:wr.ownsRow WF.heap.size 3 1 (.slice (some ⟨g,0,none⟩) (Ai (AO ps f i)).length ncap') (Ai (AO ps f i)).length (ints (Ai (AO ps f i))):=hnum2;rw[hh.cellAt r' (by have:=Af hr';rw[Am];omega)];exact Hu (Ky hr')
    have HOl:=qZ hoL hoB hoN;have HSh:Hid (Ak ls->Calls Tryz.prog 30 #[.slice la ls.length lcap,.slice oa (Bi ps f i).length ocap] wr fun e w'=>MM ls (Bi ps f i) wr e w'):=fun hk=>VA la lcap ls oa ocap (Bi ps f i) wr (hlies.below HBw.o) hk hoL hownok
    have hq300:=hownok.few;have hnl3:(Ai (AO ps f i)).length=(Bi ps f i).length:=by rw[Am];exact hown.1.symm
    rw[hnl3];have hll:ls.length<=9223372036854775807:=qI hlc (qI hlm (by unfold maxLen;omega));obtain⟨q,hq⟩:=ex ((Bi ps f i).length);obtain⟨ll,hlle⟩:=ex ls.length;have HQ:=qY hq hlle;rw[hq]at hq300 hol HSh ⊢;rw[hlle]at cj' HSh hll;clear hom hoL hoB hoN hnum hnl1 hnl2 hnL hnB hown hownok hrise hls hcc cj hlies hlc hlm hDne hcur hDW hnl3 hq hlle;by_cases hl0:ll=0
    ·
     subst hl0;have hnil:ls=[]:=qN.1 HQ.o.2;have HXs:Hid (CY (Ae cs) ps f=some (Bi ps f i) /\ (Bi ps f i).length=q):=⟨by
      unfold CY;rw [HO.o.2.2.2.2.1,if_pos hnil,HN.o.1],HQ.o.1⟩
     have HXf:=qX HFa.o;have HXo:=qY HOl.o.1 HOl.o.2.1;have HXn:=qX HNl.o;obtain⟨WX,hWX⟩:∃ W,W=wr:=⟨_,rfl⟩
     subst hWX;clear hnil hokc HSh;go_wp2_with fail;go_loopg [16] q (fun gk rv wr=>∃ r':Nat,gk+r'=q/\rv=.int .i64 r'/\Di w W3 wr D i (D8 a (AO ps f i) (Bi ps f i) r')/\But (fun b=>b=D) WX wr)
     case atStart=>exact⟨0,by omega,rfl,HXf.o,But.refl _ _⟩
     case round=>
      obtain⟨r',hr',rfl,hfa,hbut⟩:=hrel;have HJ:=qY hfa hbut;clear hfa hbut;by_cases hrq:r'<q
      ·
       obtain⟨i0,hi0,-⟩:=Ab (AO ps f i) r' (by rw[<- HO.o.1,HQ.o.1];exact hrq);obtain⟨pq,hpq,-⟩:=Ab (Bi ps f i) r' (by rw[HXs.o.2];exact hrq);obtain⟨ng,rfl,hng1,hng2,hnc⟩:=HXn.o r' i0 hi0;obtain⟨ob,oo,rfl,hobl,hoc⟩:=HXo.o.1.place (by rw[HXs.o.2];omega);have hDf:=HO.o.2.2.2.2.2;have hobD:ob≠D:=by
        have:WF.heap.size<=ob:=HXo.o.2 _ rfl;omega
       have e1:wr.cell? ⟨ng,r',none⟩=some (.int .i64 i0):=by
        rw[HJ.o.2.cell (p:=⟨ng,r',none⟩) hng2 (by show ¬ng=D;omega)];exact hnc
       have e2:wr.cell? ⟨ob,oo+r'*3+2,none⟩=some (.int .i64 pq.tick):=by
        rw[HJ.o.2.cell (p:=⟨ob,oo+r'*3+2,none⟩) hobl hobD];exact(hoc r' pq hpq).2.2
       have hi0n:=(HO.o.2.1 r' i0 hi0).1;have hi0n':(i0:Int)<(i:Int):=by omega
       have e3:=HJ.o.1.at_.cell i0 hi0n;have e4:=HJ.o.1.at_.frozen i0;have hfe:D8 a (AO ps f i) (Bi ps f i) (r' + 1)=AB (D8 a (AO ps f i) (Bi ps f i) r') i0 pq.tick:=by simp[D8,List.getD,hi0,Av hpq]
       have HPut:Hid (Di w W3 (wr.setCell ⟨D,i0,none⟩ (.int .i64 pq.tick)).drew D i (D8 a (AO ps f i) (Bi ps f i) (r' + 1))/\But (fun b=>b=D) WX (wr.setCell ⟨D,i0,none⟩ (.int .i64 pq.tick)).drew):=⟨by rw[hfe];exact HJ.o.1.put hi0n pq.tick,(But.setCell (S:=fun b=>b=D) HJ.o.2 (p:=⟨D,i0,none⟩) rfl _).drew⟩
       obtain⟨tk,htk⟩:=ex pq.tick;rw[htk]at e2 HPut;obtain⟨od,hod⟩:=ex (D8 a (AO ps f i) (Bi ps f i) r' i0);rw[hod]at e3;clear hi0 hpq hng1 hng2 hnc hobl hoc hDf hobD hfe htk hod;go_wp2
       go_region;go_wp2
       go_roundg (gk-1)
       case measure=>omega
       case rel=>exact⟨r' + 1,by omega,by go_num,HPut.o.1,HPut.o.2⟩
      obtain rfl:r'=q:=by omega
      have HDn:Hid (Bw (Ae cs) ps (f+1) z (D8 a (AO ps f i) (Bi ps f i) r')):=by
       have hL:AO ps f ps.length=AO ps f i:=by rw[HN.o.1]
       refine HR.o.1.shaped HL.o.2.1 HXs.o.1 (fun r1 i1 h1=>?_) (fun i1 h1=>?_)
       · rw[hL]at h1;exact TS HO.o.2.2.2.1 h1 r' (by rw[<- HO.o.1,HQ.o.1];exact lr) (by have:=Af h1;rw[<- HO.o.1,HQ.o.1]at this;exact this)
       rw[hL]at h1;exact Qr h1 r' (by rw[<- HO.o.1,HQ.o.1];exact lr)
      go_wp2
      go_roundg (G1-1)
      case measure=>omega
      case rel=>exact⟨f+1,by omega,by go_num,z,_,rfl,HDn.o,HJ.o.1⟩
    have hokc':Ak ls:=by
     rcases hokc with h|h
     · have:=HQ.o.2;rw[h]at this;exact absurd this.symm hl0
     exact h
    have HSh':=qX (HSh.o hokc');have HNe:Hid (Ae cs f≠[]):=by
     show Ae cs f≠[]
     rw[HO.o.2.2.2.2.1];intro h;have:=HQ.o.2;rw[h]at this;exact hl0 this.symm
    have HSl:Hid (∀ s,shape ls (Bi ps f i)=some s->s.out.length=q):=fun s hs=>by
     rw[(GG hokc' _ s HO.o.2.2.1 hs).len,HQ.o.1]
    clear hokc hokc' HSh;go_wp2_with fail;refine HSh'.o.mono ?_
    rintro e w6 ⟨hb6,⟨s,v,hsh,rfl,hov⟩|⟨j,p,s,hj1,hj2,hj3,rfl⟩⟩
    ·
     obtain⟨xa,xcap,rfl,hx1,hx2,hxL,hxB,hxN⟩:=BD.open hov;have HXs:Hid (CY (Ae cs) ps f=some s.out /\ s.out.length=q):=⟨by
      unfold CY;rw[if_neg HNe.o,HO.o.2.2.2.2.1,HN.o.1,hsh];rfl,HSl.o s hsh⟩
     have HXf:=qX (HFa.o.later hb6);have HXo:Hid (Aw w6 xa s.out/\(∀ ad,xa=some ad->WF.heap.size<=ad.block)):=⟨hxL,fun ad had=>qI HI.o.2.size (hxB ad had)⟩
     have HXn:Hid (∀(r' i':Nat),(AO ps f i)[r']? = some i'->∃ g,nb'=some ⟨g,0,none⟩/\WF.heap.size<=g/\g<w6.heap.size/\w6.cell? ⟨g,r',none⟩=some (.int .i64 i')):=fun r' i' hr'=>by
      obtain⟨g,h1,h2,h3,h4⟩:=HNl.o r' i' hr';exact⟨g,h1,h2,qD h3 hb6.size,j7 hb6 h4⟩
     have hxlen:=HXs.o.2;rw[hxlen]at hx1 ⊢;clear hsh hov hx2 hxL hxB hxN hb6 hxlen;go_wp2_with fail;go_loopg [16] q (fun gk rv wr=>∃ r':Nat,gk+r'=q/\rv=.int .i64 r'/\Di w W3 wr D i (D8 a (AO ps f i) s.out r')/\But (fun b=>b=D) w6 wr)
     case atStart=>exact⟨0,by omega,rfl,HXf.o,But.refl _ _⟩
     case round=>
      obtain⟨r',hr',rfl,hfa,hbut⟩:=hrel;have HJ:=qY hfa hbut;clear hfa hbut;by_cases hrq:r'<q
      ·
       obtain⟨i0,hi0,-⟩:=Ab (AO ps f i) r' (by rw[<- HO.o.1,HQ.o.1];exact hrq);obtain⟨pq,hpq,-⟩:=Ab s.out r' (by rw[HXs.o.2];exact hrq);obtain⟨ng,rfl,hng1,hng2,hnc⟩:=HXn.o r' i0 hi0;obtain⟨ob,oo,rfl,hobl,hoc⟩:=HXo.o.1.place (by rw[HXs.o.2];omega);have hDf:=HO.o.2.2.2.2.2;have hobD:ob≠D:=by
        have:WF.heap.size<=ob:=HXo.o.2 _ rfl;omega
       have e1:wr.cell? ⟨ng,r',none⟩=some (.int .i64 i0):=by
        rw[HJ.o.2.cell (p:=⟨ng,r',none⟩) hng2 (by show ¬ng=D;omega)];exact hnc
       have e2:wr.cell? ⟨ob,oo+r'*3+2,none⟩=some (.int .i64 pq.tick):=by
        rw[HJ.o.2.cell (p:=⟨ob,oo+r'*3+2,none⟩) hobl hobD];exact(hoc r' pq hpq).2.2
       have hi0n:=(HO.o.2.1 r' i0 hi0).1;have hi0n':(i0:Int)<(i:Int):=by omega
       have e3:=HJ.o.1.at_.cell i0 hi0n;have e4:=HJ.o.1.at_.frozen i0;have hfe:D8 a (AO ps f i) s.out (r' + 1)=AB (D8 a (AO ps f i) s.out r') i0 pq.tick:=by simp[D8,List.getD,hi0,Av hpq]
       have HPut:Hid (Di w W3 (wr.setCell ⟨D,i0,none⟩ (.int .i64 pq.tick)).drew D i (D8 a (AO ps f i) s.out (r' + 1))/\But (fun b=>b=D) w6 (wr.setCell ⟨D,i0,none⟩ (.int .i64 pq.tick)).drew):=⟨by rw[hfe];exact HJ.o.1.put hi0n pq.tick,(But.setCell (S:=fun b=>b=D) HJ.o.2 (p:=⟨D,i0,none⟩) rfl _).drew⟩
       obtain⟨tk,htk⟩:=ex pq.tick;rw[htk]at e2 HPut;obtain⟨od,hod⟩:=ex (D8 a (AO ps f i) s.out r' i0);rw[hod]at e3;clear hi0 hpq hng1 hng2 hnc hobl hoc hDf hobD hfe htk hod;go_wp2
       go_region;go_wp2
       go_roundg (gk-1)
       case measure=>omega
       case rel=>exact⟨r' + 1,by omega,by go_num,HPut.o.1,HPut.o.2⟩
      obtain rfl:r'=q:=by omega
      have HDn:Hid (Bw (Ae cs) ps (f+1) z (D8 a (AO ps f i) s.out r')):=by
       have hL:AO ps f ps.length=AO ps f i:=by rw[HN.o.1]
       refine HR.o.1.shaped HL.o.2.1 HXs.o.1 (fun r1 i1 h1=>?_) (fun i1 h1=>?_)
       · rw[hL]at h1;exact TS HO.o.2.2.2.1 h1 r' (by rw[<- HO.o.1,HQ.o.1];exact lr) (by have:=Af h1;rw[<- HO.o.1,HQ.o.1]at this;exact this)
       rw[hL]at h1;exact Qr h1 r' (by rw[<- HO.o.1,HQ.o.1];exact lr)
      go_wp2
      go_roundg (G1-1)
      case measure=>omega
      case rel=>exact⟨f+1,by omega,by go_num,z,_,rfl,HDn.o,HJ.o.1⟩
    have hjl:=Af hj1;obtain⟨i0,hi0,-⟩:=Ab (AO ps f i) j (by rw[<- HO.o.1];exact hjl);obtain⟨ng,rfl,hng1,hng2,hnc⟩:=HNl.o j i0 hi0;have hnv:=SB (cs:=Ae cs) HL.o.2.1 (f:=f) HNe.o (r:=j) (i:=i0) (p:=p) (s:=s) (by rw[HN.o.1];exact hi0) (by rw[HN.o.1];exact hj1) (by rw[HO.o.2.2.2.2.1,HN.o.1];exact hj2) hj3;have HSt:Hid (∀ a',Bw (Ae cs) ps (f+1) (if z<0\/(i0:Int)<z then(i0:Int)else z) a'):=fun a'=>HR.o.1.stuck HL.o.2.1 hnv.1 hnv.2
    have e1:=j7 hb6 hnc;have HF6:=qX (HFa.o.later hb6);have hjq:j<q:=by rw[HQ.o.1]at hjl;exact hjl
    clear hj1 hj2 hj3 hjl hi0 hng1 hng2 hnc hnv hb6;rcases HZ.o with rfl|⟨i1,rfl,hi1⟩
    ·
     go_wp2
     go_roundg (G1-1)
     case measure=>omega
     case rel=>exact⟨f+1,by omega,by go_num,_,a,rfl,by have:=HSt.o a;rwa[if_pos (.inl (by omega))]at this,HF6.o⟩
    by_cases hlt:i0<i1
    ·
     have hlt':decide ((i0:Int)<(i1:Int))=true:=by simpa using hlt
     go_wp2
     go_roundg (G1-1)
     case measure=>omega
     case rel=>exact⟨f+1,by omega,by go_num,_,a,rfl,by have:=HSt.o a;rwa[if_pos (.inr (by omega))]at this,HF6.o⟩
    have hlt':decide ((i0:Int)<(i1:Int))=false:=by simpa using hlt
    go_wp2
    go_roundg (G1-1)
    case measure=>omega
    case rel=>exact⟨f+1,by omega,by go_num,_,a,rfl,by have:=HSt.o a;rwa[if_neg (by omega)]at this,HF6.o⟩
  obtain rfl:f=8:=by omega
  have hzne:w.heap.size+1≠D:=by have:=HS.o.2.2.2.2;omega
  have hFne:F≠D:=by have:=HS.o.2.2.2.2;omega
  have hwne:w.heap.size≠D:=by have:=HS.o.2.2.2.2;omega
  rcases HR.o.1.all HL.o.2.1 with⟨rfl,hsh,hno⟩ | ⟨i0,rfl,hnv,hfirst⟩
  rotate_left
  · have HE:=qY hnv hfirst;have z0:=HR.o.2.cell HS.o.2.2.1.c0 hzne;have z1:=HR.o.2.cell HS.o.2.2.1.c1 hzne;have zf0:=(HR.o.2.frozen HS.o.2.2.1.c0 hzne).trans HS.o.2.2.1.f0;have zf1:=(HR.o.2.frozen HS.o.2.2.1.c1 hzne).trans HS.o.2.2.1.f1;have HBe:=qX HR.o.2.all;clear hnv hfirst hzne hFne hwne;go_wp2_with fail;exact vB (v:=.tuple #[.slice none 0 0,.slice none 0 0,.agg #[.int .i64 4,.int .i64 i0]]) (by simp[results,Tryz.results19,go_sem,z0,z1]) rfl ⟨(HBe.o.setCell (p:=⟨w.heap.size+1,0,none⟩) (yU _) _).setCell (p:=⟨w.heap.size+1,1,none⟩) (yU _) _,.inl ⟨i0,HE.o.1,HE.o.2,rfl⟩⟩
  have HSh:=qY hsh hno;have HW4:Hid (CS wr w.heap.size (.slice ca m ccap) kb per (.slice na r ncap)/\At2 wr (w.heap.size+1) (.int .i64 0) (.int .i64 0)/\At2 wr F (.int .i64 0) (.int .i64 (-1))/\Ef wr D n a/\zW w wr):=⟨⟨HR.o.2.cell HS.o.2.1.c0 hwne,HR.o.2.cell HS.o.2.1.c1 hwne,HR.o.2.cell HS.o.2.1.c2 hwne,HR.o.2.cell HS.o.2.1.c3 hwne⟩,⟨HR.o.2.cell HS.o.2.2.1.c0 hzne,HR.o.2.cell HS.o.2.2.1.c1 hzne,(HR.o.2.frozen HS.o.2.2.1.c0 hzne).trans HS.o.2.2.1.f0,(HR.o.2.frozen HS.o.2.2.1.c1 hzne).trans HS.o.2.2.1.f1⟩,⟨HR.o.2.cell HS.o.2.2.2.1.c0 hFne,HR.o.2.cell HS.o.2.2.2.1.c1 hFne,(HR.o.2.frozen HS.o.2.2.2.1.c0 hFne).trans HS.o.2.2.2.1.f0,(HR.o.2.frozen HS.o.2.2.2.1.c1 hFne).trans HS.o.2.2.2.1.f1⟩,HR.o.2.at_,HR.o.2.all⟩
  obtain⟨W4,hW4⟩:∃ W,W=wr:=⟨_,rfl⟩
  subst hW4;clear hsh hno hzne hFne hwne;go_wp2_with fail;go_loopg [17,18] n (fun gk ov iv wr=>∃ i:Nat,gk+i=n/\iv=.int .i64 i/\∃ L,Be a i L/\BD wr W4.heap.size ov (Aj ps a L)/\(i=0->ov=.slice none 0 0)/\zW W4 wr)
  case atStart=>exact⟨0,by omega,rfl,[],Be.start a,qQ _ _ _ _,fun _=>rfl,br⟩
  case round=>
   obtain⟨i,hi,rfl,L,hL,hown,hnil,hb⟩:=hrel;have HI:=qZ hL hown hb;have HBw:=qX (HW4.o.2.2.2.2.tr hb);have hLl:=hL.length;by_cases hin:i<n
   ·
    obtain⟨p,hp,-⟩:=Ab ps i (by rw[HN.o.1];exact hin);obtain⟨pb,po,rfl,-,hpc⟩:=HL.o.1.place (by rw[HN.o.1];omega);have d0:=j7 HBw.o (hpc i p hp).1;have d1:=j7 HBw.o (hpc i p hp).2.1;have d2:=j7 HBw.o (hpc i p hp).2.2;have d3:=j7 hb (HW4.o.2.2.2.1.cell i hin);have hput:=Wh ps a L;obtain⟨x0,hx0⟩:=ex p.flow;obtain⟨x1,hx1⟩:=ex p.size;obtain⟨x2,hx2⟩:=ex p.tick;obtain⟨t,ht⟩:=ex (a i);have HGp:Hid (∀ k,(Aj ps a L).take k++[(⟨x0,x1,t⟩:Pk)]++(Aj ps a L).drop k=Aj ps a (L.take k++i::L.drop k)):=fun k=>by
     have:=hput k i hp;rwa[hx0,hx1,ht]at this
    rw[hx0]at d0;rw[hx1]at d1;rw[hx2]at d2;rw[ht]at d3;have HT:=qX ht;obtain⟨WR,hWR⟩:∃ W,W=wr:=⟨_,rfl⟩
    subst hWR;obtain⟨G4,hG4⟩:∃ G,G=gk:=⟨_,rfl⟩
    subst hG4;have hbV:zW WR (WR.alloc (.cells #[.int .i64 x0,.int .i64 x1,.int .i64 t] 50)):=ba;have HQc0:Hid (∀ m' W,Below (WR.alloc (.cells #[.int .i64 x0,.int .i64 x1,.int .i64 t] 50)).heap.size ((WR.alloc (.cells #[.int .i64 x0,.int .i64 x1,.int .i64 t] 50)).drewN m') W->W.cell? ⟨WR.heap.size,0,none⟩=some (.int .i64 x0)/\W.cell? ⟨WR.heap.size,1,none⟩=some (.int .i64 x1)/\W.cell? ⟨WR.heap.size,2,none⟩=some (.int .i64 t)):=fun m' W hW=>⟨j7 (w:=(WR.alloc (.cells #[.int .i64 x0,.int .i64 x1,.int .i64 t] 50)).drewN m') hW (by simp),j7 (w:=(WR.alloc (.cells #[.int .i64 x0,.int .i64 x1,.int .i64 t] 50)).drewN m') hW (by simp),j7 (w:=(WR.alloc (.cells #[.int .i64 x0,.int .i64 x1,.int .i64 t] 50)).drewN m') hW (by simp)⟩
    have HV5:Hid (zW W4 (WR.alloc (.cells #[.int .i64 x0,.int .i64 x1,.int .i64 t] 50))/\W4.heap.size<=(WR.alloc (.cells #[.int .i64 x0,.int .i64 x1,.int .i64 t] 50)).heap.size/\zW WR (WR.alloc (.cells #[.int .i64 x0,.int .i64 x1,.int .i64 t] 50))):=⟨hb.tr hbV,qI hb.size hbV.size,hbV⟩
    have d4:(WR.alloc (.cells #[.int .i64 x0,.int .i64 x1,.int .i64 x2] 50)).cell? ⟨D,i,none⟩=some (.int .i64 t):=j7 ba d3;have q2:(WR.alloc (.cells #[.int .i64 x0,.int .i64 x1,.int .i64 t] 50)).cell? ⟨WR.heap.size,2,none⟩=some (.int .i64 t):=by simp
    clear hp hpc hx0 hx1 hx2 ht hput hL hb hbV;by_cases hi0:i=0
    ·
     obtain rfl:L=[]:=qN.1 (by omega);obtain rfl:=hnil hi0;have HI0:=qX hi0;have HPut:Hid (Be a (i+1) (([]:List Nat).take 0++i::([]:List Nat).drop 0)):=HI.o.1.put (k:=0) (fun x y h=>absurd h (vR _)) (fun x y _ h=>by simp at h);clear hown hLl hnil hi0;go_wp2_with fail;go_loopg [20] 0 (fun gk kv wr=>kv=.int .i64 0/\wr=(WR.alloc (.cells #[.int .i64 x0,.int .i64 x1,.int .i64 t] 50)))
     case atStart=>exact⟨rfl,rfl⟩
     case round=>
      obtain⟨rfl,hwr⟩:=hrel;subst hwr;go_wp2
      go_quiet (fail);obtain⟨V6,hV6⟩:=ex ((WR.alloc (.cells #[.int .i64 x0,.int .i64 x1,.int .i64 t] 50)).drewN nq);obtain⟨BB,hBB⟩:=ex ((WR.alloc (.cells #[.int .i64 x0,.int .i64 x1,.int .i64 t] 50)).heap.size);have HBB:Hid (BB<=V6.heap.size):=by
       show BB<=V6.heap.size
       rw[<- hV6,<- hBB];exact lr
      have HQc:Hid (∀ W,Below BB V6 W->W.cell? ⟨WR.heap.size,0,none⟩=some (.int .i64 x0)/\W.cell? ⟨WR.heap.size,1,none⟩=some (.int .i64 x1)/\W.cell? ⟨WR.heap.size,2,none⟩=some (.int .i64 t)):=fun W hW=>by
       rw[<- hBB,<- hV6]at hW;exact HQc0.o _ W hW
      have HBB4:Hid (W4.heap.size<=BB/\zW W4 V6):=by
       show _/\_
       rw[<- hBB,<- hV6];exact⟨HV5.o.2.1,qL HV5.o.1 _⟩
      have HTk:Hid (((Aj ps a []).take 0).length=0/\Aw V6 none ((Aj ps a []).take 0)/\((none:oA)=none->(Aj ps a []).take 0=[]/\0=0)):=⟨rfl,.inl rfl,fun _=>⟨rfl,rfl⟩⟩
      have HDr:Hid (((Aj ps a []).drop 0).length=0/\(∀ W,Below BB V6 W->Aw W none ((Aj ps a []).drop 0))/\((none:oA)=none->(Aj ps a []).drop 0=[]/\0=0)):=⟨rfl,fun _ _=>.inl rfl,fun _=>⟨rfl,rfl⟩⟩
      have HTl:Hid (([]:List Pk).length+((Aj ps a []).take 0).length<=1000/\((Aj ps a []).take 0).length + [(⟨x0,x1,t⟩:Pk)].length<=1000/\((Aj ps a []).take 0++[(⟨x0,x1,t⟩:Pk)]).length+((Aj ps a []).drop 0).length<=1000):=⟨by simp,by simp,by simp[Aj]⟩
      rw[hV6];clear hV6 hBB;go_wp2_with (first
       | (at_builtin;refine Bf _ rfl _ _ rfl BB (.slice none 0 0) [] ((Aj ps a []).take 0) none 0 0 HTk.o.1 rfl rfl (qQ _ _ _ _) HTk.o.2.1 HTk.o.2.2 HTl.o.1 HBB.o ?_;rintro v7 w7 ⟨ho7,hb7⟩;have H7:Hid (BD w7 BB v7 ((Aj ps a []).take 0)/\Below BB V6 w7/\BB<=w7.heap.size):=⟨by simpa using ho7,hb7,qI HBB.o hb7.size⟩;obtain⟨x7,y7,z7⟩:=HQc.o w7 hb7;have H8:Hid (BD (w7.alloc (.cells #[.int .i64 x0,.int .i64 x1,.int .i64 t] 50)) BB v7 ((Aj ps a []).take 0)/\Aw (w7.alloc (.cells #[.int .i64 x0,.int .i64 x1,.int .i64 t] 50)) (some ⟨w7.heap.size,0,none⟩) [⟨x0,x1,t⟩]/\Below BB V6 (w7.alloc (.cells #[.int .i64 x0,.int .i64 x1,.int .i64 t] 50))/\BB<=(w7.alloc (.cells #[.int .i64 x0,.int .i64 x1,.int .i64 t] 50)).heap.size):=⟨H7.o.1.later ba,JG w7 x0 x1 t,H7.o.2.1.alloc H7.o.2.2 _,qI H7.o.2.2 (by simp)⟩;clear ho7 hb7)
       | (at_builtin;refine Bf _ rfl _ _ rfl BB v7 ((Aj ps a []).take 0) [⟨x0,x1,t⟩] (some ⟨w7.heap.size,0,none⟩) 1 1 rfl rfl rfl H8.o.1 H8.o.2.1 (fun h=>by cases h) HTl.o.2.1 H8.o.2.2.2 ?_;rintro v9 w9 ⟨ho9,hb9⟩;have H9:Hid (BD w9 BB v9 (((Aj ps a []).take 0)++[⟨x0,x1,t⟩])/\Below BB V6 w9/\BB<=w9.heap.size):=⟨ho9,H8.o.2.2.1.trans hb9,qI H8.o.2.2.2 hb9.size⟩;clear ho9 hb9)
       | (at_builtin;go_must (refine Bf _ rfl _ _ rfl BB v9 (((Aj ps a []).take 0) ++ [⟨x0,x1,t⟩]) ((Aj ps a []).drop 0) none 0 0 HDr.o.1 rfl rfl H9.o.1 (HDr.o.2.1 w9 H9.o.2.1) HDr.o.2.2 HTl.o.2.2 H9.o.2.2 ?_;rintro vA wA ⟨hoA,hbA⟩;have HA:Hid (BD wA W4.heap.size vA (Aj ps a (([]:List Nat).take 0 ++ i :: ([]:List Nat).drop 0)) /\ zW W4 wA):=⟨by rw [<- HGp.o 0];exact BD.mono hoA HBB4.o.1,HBB4.o.2.trans ((H9.o.2.1.trans hbA).mono HBB4.o.1)⟩;clear hoA hbA)))
      go_roundg (G4-1)
      case measure=>omega
      case rel=>exact⟨i+1,by omega,by go_num,_,HPut.o,HA.o.1,fun h=>by omega,HA.o.2⟩
    obtain⟨oa,ocap,rfl,hoc1,hoc2,hoL,hoB,-⟩:=BD.open hown;have hlen:(Aj ps a L).length=i:=by rw[Aj,xZ];exact hLl
    obtain⟨ob,oo,rfl,hobl,hocc⟩:=hoL.place (by rw[hlen];omega);have HLen:=qX hlen;have HGn:Hid (∀ m' W,Below (WR.alloc (.cells #[.int .i64 x0,.int .i64 x1,.int .i64 t] 50)).heap.size ((WR.alloc (.cells #[.int .i64 x0,.int .i64 x1,.int .i64 t] 50)).drewN m') W->Aw W (some ⟨ob,oo,none⟩) (Aj ps a L)):=fun m' W hW=>hoL.below (HV5.o.2.2.trans ((qL br m':Below (WR.alloc (.cells #[.int .i64 x0,.int .i64 x1,.int .i64 t] 50)).heap.size (WR.alloc (.cells #[.int .i64 x0,.int .i64 x1,.int .i64 t] 50)) ((WR.alloc (.cells #[.int .i64 x0,.int .i64 x1,.int .i64 t] 50)).drewN m')).trans hW |>.mono HV5.o.2.2.size))
    have HCy:Hid (∀(k y:Nat),0<k->L[k-1]? = some y->∀ m',((WR.alloc (.cells #[.int .i64 x0,.int .i64 x1,.int .i64 t] 50)).drewN m').cell? ⟨ob,oo+(k-1)*3+2,none⟩=some (.int .i64 (a y))):=fun k y hk0 hy m'=>by
     have hg:(Aj ps a L)[k-1]? = some (Gz ps a y):=by rw[Aj,xM,hy];rfl
     have hyi:=(HI.o.1.mem y).1 (q9 hy);obtain⟨py,hpy,-⟩:=Ab ps y (by rw[HN.o.1];omega);have hc:=(hocc (k-1) _ hg).2.2;rw[Ep hpy]at hc;exact j7 (w:=WR) (qL HV5.o.2.2 m') hc
    rw[hlen]at hoc1 ⊢;unfold maxLen at hoc2;clear hown hnil hoL hoB hobl hocc hlen;go_wp2_with fail;go_loopg [20] i (fun gk kv wr=>∃ k:Nat,gk=k/\k<=i/\kv=.int .i64 k/\(∀(x y:Nat),k<=x->L[x]? = some y->t<a y)/\∃ m',wr=(WR.alloc (.cells #[.int .i64 x0,.int .i64 x1,.int .i64 t] 50)).drewN m')
    case atStart=>exact⟨i,rfl,lr,rfl,fun x y h1 h2=>by have:=Af h2;omega,0,rfl⟩
    case round=>
     obtain⟨k,hgk,hki,rfl,hhi,m',hwr⟩:=hrel;have HHi:=qX hhi;have HWr:=qX hwr;have q2':wr.cell? ⟨WR.heap.size,2,none⟩=some (.int .i64 t):=by rw[hwr];exact q2
     clear hhi;by_cases hk0:0<k
     ·
      obtain⟨y,hy,-⟩:=Ab L (k-1) (by omega);have cy:wr.cell? ⟨ob,oo+(k-1)*3+2,none⟩=some (.int .i64 (a y)):=by rw[hwr];exact HCy.o k y hk0 hy m'
      have HY:=qX hy;have dk:decide ((0:Int)<(k:Int))=true:=by simpa using hk0
      obtain⟨ty,hty⟩:=ex (a y);rw[hty]at cy;have HTy:=qX hty;clear hy hty hwr;by_cases hlt:t<ty
      ·
       have dl:decide (t<ty)=true:=by simpa using hlt
       have HHi':Hid (∀(x z:Nat),k-1<=x->L[x]? = some z->t<a z):=fun x z h1 h2=>by
        rcases qC x k with h|h
        ·
         obtain rfl:x=k-1:=by omega
         obtain rfl:=Option.some.inj (HY.o.symm.trans h2);rw[HTy.o];exact hlt
        exact HHi.o x z h h2
       clear hlt;go_wp2
       go_quiet (fail);go_wp2
       go_roundg (gk-1)
       case measure=>omega
       case rel=>exact⟨k-1,by omega,by omega,by go_num,HHi'.o,m' + nq,by rw[HWr.o,xU]⟩
      have dl:decide (t<ty)=false:=by simpa using hlt
      have HLow:Hid (∀(x z:Nat),x<k->L[x]? = some z->a z<=t):=fun x z h1 h2=>bZ HI.o.1 HY.o (by rw[HTy.o];omega) x z (by omega) h2
      clear hlt;go_wp2
      go_quiet (fail);have hW6:wr.drewN nq=(WR.alloc (.cells #[.int .i64 x0,.int .i64 x1,.int .i64 t] 50)).drewN (m' + nq):=by rw[HWr.o,xU]
      rw[hW6];clear hW6 dk dl cy;have HPut:=qX (HI.o.1.put (k:=k) (fun x y h1 h2=>by rw[HT.o];exact HLow.o x y h1 h2) (fun x y h1 h2=>by rw[HT.o];exact HHi.o x y h1 h2));obtain⟨V6,hV6⟩:=ex ((WR.alloc (.cells #[.int .i64 x0,.int .i64 x1,.int .i64 t] 50)).drewN (m' + nq));obtain⟨BB,hBB⟩:=ex ((WR.alloc (.cells #[.int .i64 x0,.int .i64 x1,.int .i64 t] 50)).heap.size);have HBB:Hid (BB<=V6.heap.size):=by
       show BB<=V6.heap.size
       rw[<- hV6,<- hBB];exact lr
      have HQc:Hid (∀ W,Below BB V6 W->W.cell? ⟨WR.heap.size,0,none⟩=some (.int .i64 x0)/\W.cell? ⟨WR.heap.size,1,none⟩=some (.int .i64 x1)/\W.cell? ⟨WR.heap.size,2,none⟩=some (.int .i64 t)):=fun W hW=>by
       rw[<- hBB,<- hV6]at hW;exact HQc0.o _ W hW
      have HBB4:Hid (W4.heap.size<=BB/\zW W4 V6):=by
       show _/\_
       rw[<- hBB,<- hV6];exact⟨HV5.o.2.1,qL HV5.o.1 _⟩
      have HLP:Hid (∀ W,Below BB V6 W->Aw W (some ⟨ob,oo,none⟩) (Aj ps a L)):=fun W hW=>by
       rw[<- hBB,<- hV6]at hW;exact HGn.o _ W hW
      have HTk:Hid (((Aj ps a L).take k).length=k/\Aw V6 (some ⟨ob,oo,none⟩) ((Aj ps a L).take k)/\((some ⟨ob,oo,none⟩:oA)=none->(Aj ps a L).take k=[]/\ocap=0)):=⟨by rw[vO,HLen.o];omega,Qb (HLP.o V6 br) k,fun h=>by cases h⟩
      have HTl:Hid (([]:List Pk).length+((Aj ps a L).take k).length<=1000/\((Aj ps a L).take k).length + [(⟨x0,x1,t⟩:Pk)].length<=1000/\((Aj ps a L).take k++[(⟨x0,x1,t⟩:Pk)]).length+((Aj ps a L).drop k).length<=1000):=by
       have h1:=HTk.o.1;have h2:((Aj ps a L).drop k).length=i-k:=by rw[yK,HLen.o]
       refine⟨?_,?_,?_⟩
       · rw[h1];simp;omega
       · rw[h1];simp;omega
       rw[qJ,h1,h2];simp;omega
      rw[hV6];by_cases hkc:k=ocap
      ·
       subst hkc;obtain rfl:i=k:=by omega
       have HDr:Hid (((Aj ps a L).drop i).length=0/\(∀ W,Below BB V6 W->Aw W (some ⟨ob,oo,none⟩) ((Aj ps a L).drop i))/\((some ⟨ob,oo,none⟩:oA)=none->(Aj ps a L).drop i=[]/\0=0)):=⟨by rw[yK,HLen.o];omega,fun _ _=>.inl (List.drop_eq_nil_of_le (by rw[HLen.o];omega)),fun h=>by cases h⟩
       clear hV6 hBB;go_wp2_with (first
        | (at_builtin;refine Bf _ rfl _ _ rfl BB (.slice none 0 0) [] ((Aj ps a L).take i) (some ⟨ob,oo,none⟩) i i HTk.o.1 rfl rfl (qQ _ _ _ _) HTk.o.2.1 HTk.o.2.2 HTl.o.1 HBB.o ?_;rintro v7 w7 ⟨ho7,hb7⟩;have H7:Hid (BD w7 BB v7 ((Aj ps a L).take i)/\Below BB V6 w7/\BB<=w7.heap.size):=⟨by simpa using ho7,hb7,qI HBB.o hb7.size⟩;obtain⟨x7,y7,z7⟩:=HQc.o w7 hb7;have H8:Hid (BD (w7.alloc (.cells #[.int .i64 x0,.int .i64 x1,.int .i64 t] 50)) BB v7 ((Aj ps a L).take i)/\Aw (w7.alloc (.cells #[.int .i64 x0,.int .i64 x1,.int .i64 t] 50)) (some ⟨w7.heap.size,0,none⟩) [⟨x0,x1,t⟩]/\Below BB V6 (w7.alloc (.cells #[.int .i64 x0,.int .i64 x1,.int .i64 t] 50))/\BB<=(w7.alloc (.cells #[.int .i64 x0,.int .i64 x1,.int .i64 t] 50)).heap.size):=⟨H7.o.1.later ba,JG w7 x0 x1 t,H7.o.2.1.alloc H7.o.2.2 _,qI H7.o.2.2 (by simp)⟩;clear ho7 hb7)
        | (at_builtin;refine Bf _ rfl _ _ rfl BB v7 ((Aj ps a L).take i) [⟨x0,x1,t⟩] (some ⟨w7.heap.size,0,none⟩) 1 1 rfl rfl rfl H8.o.1 H8.o.2.1 (fun h=>by cases h) HTl.o.2.1 H8.o.2.2.2 ?_;rintro v9 w9 ⟨ho9,hb9⟩;have H9:Hid (BD w9 BB v9 (((Aj ps a L).take i)++[⟨x0,x1,t⟩])/\Below BB V6 w9/\BB<=w9.heap.size):=⟨ho9,H8.o.2.2.1.trans hb9,qI H8.o.2.2.2 hb9.size⟩;clear ho9 hb9)
        | (at_builtin;go_must (refine Bf _ rfl _ _ rfl BB v9 (((Aj ps a L).take i) ++ [⟨x0,x1,t⟩]) ((Aj ps a L).drop i) (some ⟨ob,oo,none⟩) 0 0 HDr.o.1 rfl rfl H9.o.1 (HDr.o.2.1 w9 H9.o.2.1) HDr.o.2.2 HTl.o.2.2 H9.o.2.2 ?_;rintro vA wA ⟨hoA,hbA⟩;have HA:Hid (BD wA W4.heap.size vA (Aj ps a (L.take i ++ i :: L.drop i)) /\ zW W4 wA):=⟨by rw [<- HGp.o i];exact BD.mono hoA HBB4.o.1,HBB4.o.2.trans ((H9.o.2.1.trans hbA).mono HBB4.o.1)⟩;clear hoA hbA)))
       go_roundg (G4-1)
       case measure=>omega
       case rel=>exact⟨i+1,by omega,by go_num,_,HPut.o,HA.o.1,fun h=>by omega,HA.o.2⟩
      have hkc':k<ocap:=by omega
      have HDr:Hid (((Aj ps a L).drop k).length=i-k/\(∀ W,Below BB V6 W->Aw W (some ⟨ob,oo+k*3,none⟩) ((Aj ps a L).drop k))/\((some ⟨ob,oo+k*3,none⟩:oA)=none->(Aj ps a L).drop k=[]/\ocap-k=0)):=⟨by rw[yK,HLen.o],fun W hW=>(HLP.o W hW).drop k,fun h=>by cases h⟩
      clear hV6 hBB hkc;go_wp2_with (first
       | (at_builtin;refine Bf _ rfl _ _ rfl BB (.slice none 0 0) [] ((Aj ps a L).take k) (some ⟨ob,oo,none⟩) k ocap HTk.o.1 rfl rfl (qQ _ _ _ _) HTk.o.2.1 HTk.o.2.2 HTl.o.1 HBB.o ?_;rintro v7 w7 ⟨ho7,hb7⟩;have H7:Hid (BD w7 BB v7 ((Aj ps a L).take k)/\Below BB V6 w7/\BB<=w7.heap.size):=⟨by simpa using ho7,hb7,qI HBB.o hb7.size⟩;obtain⟨x7,y7,z7⟩:=HQc.o w7 hb7;have H8:Hid (BD (w7.alloc (.cells #[.int .i64 x0,.int .i64 x1,.int .i64 t] 50)) BB v7 ((Aj ps a L).take k)/\Aw (w7.alloc (.cells #[.int .i64 x0,.int .i64 x1,.int .i64 t] 50)) (some ⟨w7.heap.size,0,none⟩) [⟨x0,x1,t⟩]/\Below BB V6 (w7.alloc (.cells #[.int .i64 x0,.int .i64 x1,.int .i64 t] 50))/\BB<=(w7.alloc (.cells #[.int .i64 x0,.int .i64 x1,.int .i64 t] 50)).heap.size):=⟨H7.o.1.later ba,JG w7 x0 x1 t,H7.o.2.1.alloc H7.o.2.2 _,qI H7.o.2.2 (by simp)⟩;clear ho7 hb7)
       | (at_builtin;refine Bf _ rfl _ _ rfl BB v7 ((Aj ps a L).take k) [⟨x0,x1,t⟩] (some ⟨w7.heap.size,0,none⟩) 1 1 rfl rfl rfl H8.o.1 H8.o.2.1 (fun h=>by cases h) HTl.o.2.1 H8.o.2.2.2 ?_;rintro v9 w9 ⟨ho9,hb9⟩;have H9:Hid (BD w9 BB v9 (((Aj ps a L).take k)++[⟨x0,x1,t⟩])/\Below BB V6 w9/\BB<=w9.heap.size):=⟨ho9,H8.o.2.2.1.trans hb9,qI H8.o.2.2.2 hb9.size⟩;clear ho9 hb9)
       | (at_builtin;go_must (refine Bf _ rfl _ _ rfl BB v9 (((Aj ps a L).take k) ++ [⟨x0,x1,t⟩]) ((Aj ps a L).drop k) (some ⟨ob,oo+k * 3,none⟩) (i - k) (ocap - k) HDr.o.1 rfl rfl H9.o.1 (HDr.o.2.1 w9 H9.o.2.1) HDr.o.2.2 HTl.o.2.2 H9.o.2.2 ?_;rintro vA wA ⟨hoA,hbA⟩;have HA:Hid (BD wA W4.heap.size vA (Aj ps a (L.take k ++ i :: L.drop k)) /\ zW W4 wA):=⟨by rw [<- HGp.o k];exact BD.mono hoA HBB4.o.1,HBB4.o.2.trans ((H9.o.2.1.trans hbA).mono HBB4.o.1)⟩;clear hoA hbA)))
      go_roundg (G4-1)
      case measure=>omega
      case rel=>exact⟨i+1,by omega,by go_num,_,HPut.o,HA.o.1,fun h=>by omega,HA.o.2⟩
     have dk:decide ((0:Int)<(k:Int))=false:=by simpa using (show ¬(0:Int)<(k:Int)by omega)
     have dk':decide (0<k)=false:=by simpa using hk0
     have HLow:Hid (∀(x z:Nat),x<k->L[x]? = some z->a z<=t):=fun x z h1 h2=>by omega
     clear hwr;go_wp2
     go_quiet (fail);have hW6:wr.drewN nq=(WR.alloc (.cells #[.int .i64 x0,.int .i64 x1,.int .i64 t] 50)).drewN (m' + nq):=by rw[HWr.o,xU]
     rw[hW6];clear hW6 dk dk';have HPut:=qX (HI.o.1.put (k:=k) (fun x y h1 h2=>by rw[HT.o];exact HLow.o x y h1 h2) (fun x y h1 h2=>by rw[HT.o];exact HHi.o x y h1 h2));obtain⟨V6,hV6⟩:=ex ((WR.alloc (.cells #[.int .i64 x0,.int .i64 x1,.int .i64 t] 50)).drewN (m' + nq));obtain⟨BB,hBB⟩:=ex ((WR.alloc (.cells #[.int .i64 x0,.int .i64 x1,.int .i64 t] 50)).heap.size);have HBB:Hid (BB<=V6.heap.size):=by
      show BB<=V6.heap.size
      rw[<- hV6,<- hBB];exact lr
     have HQc:Hid (∀ W,Below BB V6 W->W.cell? ⟨WR.heap.size,0,none⟩=some (.int .i64 x0)/\W.cell? ⟨WR.heap.size,1,none⟩=some (.int .i64 x1)/\W.cell? ⟨WR.heap.size,2,none⟩=some (.int .i64 t)):=fun W hW=>by
      rw[<- hBB,<- hV6]at hW;exact HQc0.o _ W hW
     have HBB4:Hid (W4.heap.size<=BB/\zW W4 V6):=by
      show _/\_
      rw[<- hBB,<- hV6];exact⟨HV5.o.2.1,qL HV5.o.1 _⟩
     have HLP:Hid (∀ W,Below BB V6 W->Aw W (some ⟨ob,oo,none⟩) (Aj ps a L)):=fun W hW=>by
      rw[<- hBB,<- hV6]at hW;exact HGn.o _ W hW
     have HTk:Hid (((Aj ps a L).take k).length=k/\Aw V6 (some ⟨ob,oo,none⟩) ((Aj ps a L).take k)/\((some ⟨ob,oo,none⟩:oA)=none->(Aj ps a L).take k=[]/\ocap=0)):=⟨by rw[vO,HLen.o];omega,Qb (HLP.o V6 br) k,fun h=>by cases h⟩
     have HTl:Hid (([]:List Pk).length+((Aj ps a L).take k).length<=1000/\((Aj ps a L).take k).length + [(⟨x0,x1,t⟩:Pk)].length<=1000/\((Aj ps a L).take k++[(⟨x0,x1,t⟩:Pk)]).length+((Aj ps a L).drop k).length<=1000):=by
      have h1:=HTk.o.1;have h2:((Aj ps a L).drop k).length=i-k:=by rw[yK,HLen.o]
      refine⟨?_,?_,?_⟩
      · rw[h1];simp;omega
      · rw[h1];simp;omega
      rw[qJ,h1,h2];simp;omega
     rw[hV6];have hkc':k<ocap:=by omega
     have HDr:Hid (((Aj ps a L).drop k).length=i-k/\(∀ W,Below BB V6 W->Aw W (some ⟨ob,oo+k*3,none⟩) ((Aj ps a L).drop k))/\((some ⟨ob,oo+k*3,none⟩:oA)=none->(Aj ps a L).drop k=[]/\ocap-k=0)):=⟨by rw[yK,HLen.o],fun W hW=>(HLP.o W hW).drop k,fun h=>by cases h⟩
     clear hV6 hBB;go_wp2_with (first
      | (at_builtin;refine Bf _ rfl _ _ rfl BB (.slice none 0 0) [] ((Aj ps a L).take k) (some ⟨ob,oo,none⟩) k ocap HTk.o.1 rfl rfl (qQ _ _ _ _) HTk.o.2.1 HTk.o.2.2 HTl.o.1 HBB.o ?_;rintro v7 w7 ⟨ho7,hb7⟩;have H7:Hid (BD w7 BB v7 ((Aj ps a L).take k)/\Below BB V6 w7/\BB<=w7.heap.size):=⟨by simpa using ho7,hb7,qI HBB.o hb7.size⟩;obtain⟨x7,y7,z7⟩:=HQc.o w7 hb7;have H8:Hid (BD (w7.alloc (.cells #[.int .i64 x0,.int .i64 x1,.int .i64 t] 50)) BB v7 ((Aj ps a L).take k)/\Aw (w7.alloc (.cells #[.int .i64 x0,.int .i64 x1,.int .i64 t] 50)) (some ⟨w7.heap.size,0,none⟩) [⟨x0,x1,t⟩]/\Below BB V6 (w7.alloc (.cells #[.int .i64 x0,.int .i64 x1,.int .i64 t] 50))/\BB<=(w7.alloc (.cells #[.int .i64 x0,.int .i64 x1,.int .i64 t] 50)).heap.size):=⟨H7.o.1.later ba,JG w7 x0 x1 t,H7.o.2.1.alloc H7.o.2.2 _,qI H7.o.2.2 (by simp)⟩;clear ho7 hb7)
      | (at_builtin;refine Bf _ rfl _ _ rfl BB v7 ((Aj ps a L).take k) [⟨x0,x1,t⟩] (some ⟨w7.heap.size,0,none⟩) 1 1 rfl rfl rfl H8.o.1 H8.o.2.1 (fun h=>by cases h) HTl.o.2.1 H8.o.2.2.2 ?_;rintro v9 w9 ⟨ho9,hb9⟩;have H9:Hid (BD w9 BB v9 (((Aj ps a L).take k)++[⟨x0,x1,t⟩])/\Below BB V6 w9/\BB<=w9.heap.size):=⟨ho9,H8.o.2.2.1.trans hb9,qI H8.o.2.2.2 hb9.size⟩;clear ho9 hb9)
      | (at_builtin;go_must (refine Bf _ rfl _ _ rfl BB v9 (((Aj ps a L).take k) ++ [⟨x0,x1,t⟩]) ((Aj ps a L).drop k) (some ⟨ob,oo+k * 3,none⟩) (i - k) (ocap - k) HDr.o.1 rfl rfl H9.o.1 (HDr.o.2.1 w9 H9.o.2.1) HDr.o.2.2 HTl.o.2.2 H9.o.2.2 ?_;rintro vA wA ⟨hoA,hbA⟩;have HA:Hid (BD wA W4.heap.size vA (Aj ps a (L.take k ++ i :: L.drop k)) /\ zW W4 wA):=⟨by rw [<- HGp.o k];exact BD.mono hoA HBB4.o.1,HBB4.o.2.trans ((H9.o.2.1.trans hbA).mono HBB4.o.1)⟩;clear hoA hbA)))
     go_roundg (G4-1)
     case measure=>omega
     case rel=>exact⟨i+1,by omega,by go_num,_,HPut.o,HA.o.1,fun h=>by omega,HA.o.2⟩
   obtain rfl:i=n:=by omega
   obtain⟨oa,ocap,rfl,hoc1,hoc2,hoL,hoB,-⟩:=BD.open hown;have hok:=HSh.o.1.ok HL.o.2.1 HL.o.2.2.2.ok (L:=L) (by rw[HN.o.1];exact hL);have HLc:=qX (HLk.o wr oa ocap (Aj ps a L) HBw.o hoL hok);obtain⟨g0,g1,g2,g3⟩:=HW4.o.1.later hb;have HRes:=qZ (HW4.o.2.1.later hb) (HW4.o.2.2.1.later hb) (Cg HW4.o.2.1.c0);have HOw:=qX hown;have HLI:Hid (Be a ps.length L):=by rw[HN.o.1];exact hL
   obtain⟨ql,hql⟩:=ex ((Aj ps a L).length);rw[hql]at HLc HOw ⊢;clear hL hown hnil hb hoc1 hoc2 hoL hoB hok hLl hql;go_wp2_with fail;refine HLc.o.mono ?_
   rintro e w5 ⟨v,l,rfl,hv,hls,hb5⟩;obtain⟨z0,z1,zf0,zf1⟩:=HRes.o.1.later hb5;obtain⟨f0,f1,ff0,ff1⟩:=HRes.o.2.1.later hb5;have HE:=qV (HOw.o.later hb5) (Bb hv HI.o.2.2.size) hls (HBw.o.tr hb5);have HKeep:Hid (∀{e' sz n':Nat}{v':Value}{xs:List Value}(u1 u2:Value),w5.ownsRow W4.heap.size e' sz v' n' xs->(((w5.setCell ⟨w.heap.size+1,0,none⟩ u1).setCell ⟨w.heap.size+1,1,none⟩ u2).drew).ownsRow w.heap.size e' sz v' n' xs):=fun {e' sz n' v' xs} u1 u2 h=>by
    refine Bb (Ah h fun g hg _=>?_) (qI (yU _) (x9 HRes.o.2.2));have hgB:=(Aq h hg).1;have hne:g≠w.heap.size+1:=by have:=HRes.o.2.2;omega
    exact(Below.heap_setCell _ _ _ _ hne).trans (Below.heap_setCell _ _ _ _ hne)
   clear hv hls hb5 ff0 ff1 g0 g1 g2 g3;go_wp2
   go_region;go_wp2_with fail;exact vB (v:=.tuple #[.slice oa ql ocap,v,.agg #[.int .i64 0,.int .i64 (-1)]]) (by simp[results,Tryz.results19,go_sem,z0,z1]) rfl ⟨qL ((HE.o.2.2.2.setCell (p:=⟨w.heap.size+1,0,none⟩) (yU _) _).setCell (p:=⟨w.heap.size+1,1,none⟩) (yU _) _) 1,.inr ⟨HSh.o.2,_,_,_,_,rfl,HKeep.o _ _ HE.o.1,HKeep.o _ _ HE.o.2.1,a,L,HSh.o.1,HLI.o,rfl,HE.o.2.2.1⟩⟩
end Go.Proofs.YtejlihcdfffafaaGreatDoor
