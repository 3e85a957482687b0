import Derived.Test.YtejlihcdfffafaaGreatDoorP43
set_option maxHeartbeats 8000000
set_option maxRecDepth 100000
namespace Go.Proofs.YtejlihcdfffafaaGreatDoor
open Go.RowKit
theorem JB (x y:List UInt8)(D:x.length<=1000000)(z:y.length<=1000000)(h:World):(Op.stringOp .add ⟨x.toArray⟩ ⟨y.toArray⟩).run Tryz.prog h=.ok (Ad (x++y)) h:=run_string_add_lists h x y (by omega) (by omega)
theorem Ya {l:List Sn}(z:I4 l):(F7 l).length<=101*l.length:=by
 have key:∀ n,n<=l.length->(F7 (l.take n)).length<=101*n:=by
  intro n;induction n with
  | zero=>intro _;simp[F7,Go.Lib.join_nil]
  | succ n E=>
   intro H;obtain⟨x,D,h⟩:=Ab l n (by omega);have N:=Go.Lib.itoa_length_le x.num (z x h _ (.inl rfl)).1 (z x h _ (.inl rfl)).2;have I:=Go.Lib.itoa_length_le x.beg (z x h _ (.inr (.inl rfl))).1 (z x h _ (.inr (.inl rfl))).2;have K:=Go.Lib.itoa_length_le x.fin (z x h _ (.inr (.inr rfl))).1 (z x h _ (.inr (.inr rfl))).2;have O:(Dv x.num x.beg x.fin).length<=100:=by simp[Dv];omega
   have J:(Im (l.take n)).length<=101*n+1:=by
    unfold Im;split
    · simp
    rw[qJ];have:=E (by omega);simp;omega
   rw[vF,D];show(F7 (l.take n++[x])).length<=_
   rw[KQ,qJ];omega
 have:=key l.length lr;rwa[xA]at this
def ic (s:Scr)(c:Int)(w:World)(e:Ending)(w':World):Prop:=
 ∃ z E I D H J p,e=.returned (.tuple #[.slice z E I,.slice D H J,.agg #[.int .i64 c,.int .i64 p]])/\zW w w' /\
  (c=0->∃ qs l,qs.length=E/\l.length=H/\Aw w' z qs/\F9 w' D l/\Cy (Ae s.cs) (kindOf s.kb) s.per s.ns s.ps qs l)/\(∀ h,z=some h->w.heap.size<=h.block)/\(∀ h,D=some h->w.heap.size<=h.block)
def kC (s:Scr)(c:Int)(J:World)(O H N:Value)(w':World):Prop:=
 ∃ z h I D E K F,O=.slice z h I/\H=.slice D E K/\N=.pointer (some ⟨F,0,none⟩)/\w'.cell? ⟨F,0,none⟩=some (.int .i64 c)/\zW J w' /\
  (c=0->∃ qs l,qs.length=h/\l.length=E/\Aw w' z qs/\F9 w' D l/\Cy (Ae s.cs) (kindOf s.kb) s.per s.ns s.ps qs l)
theorem Yc (h:World){z:World}(D:Below (h.drew.alloc (.cells #[.int .i64 0,.int .i64 0] 52)).heap.size (h.drew.alloc (.cells #[.int .i64 0,.int .i64 0] 52)) z):z.cell? ⟨h.heap.size,0,none⟩=some (.int .i64 0)/\z.cell? ⟨h.heap.size,1,none⟩=some (.int .i64 0)/\z.frozen? ⟨h.heap.size,0,none⟩=false/\z.frozen? ⟨h.heap.size,1,none⟩=false:=by
 have e:∀ i,(h.drew.alloc (.cells #[.int .i64 0,.int .i64 0] 52)).cell? ⟨h.heap.size,i,none⟩=(#[.int .i64 0,.int .i64 0]:Array Value)[i]?:=fun i=>qO _ _ _ _ rfl
 have f:∀ i,z.frozen? ⟨h.heap.size,i,none⟩=false:=fun i=>by
  rw[D.frozen (p:=⟨h.heap.size,i,none⟩) (by show h.heap.size<_;simp)];exact vQ h.drew _ _ i
 exact⟨j7 D (e 0),j7 D (e 1),f 0,f 1⟩
theorem fB {s:Scr}(h:Bq s){qs:List Pk}{l:List Sn}(E:Cy (Ae s.cs) (kindOf s.kb) s.per s.ns s.ps qs l):I4 l/\l.length<=1000/\(∀ H∈BH qs l,0<=H/\H<=1125899906842624)/\qs.length<=1000/\∀ x∈l,0<=x.num/\x.num<qs.length/\0<=x.beg/\0<=x.fin:=by
 obtain⟨z,W,U⟩:=E.ok h.pks h.gate.curves.ok;obtain⟨D,-,ac⟩:=U.may h.gate.nums z h.gate.per.1;have ab:=z.few;have J:=Me D;have N:=D.range z h.gate.per;obtain⟨V,Q,O⟩:=Ii h E;refine⟨V,Q,O,by omega,fun x K=>?_⟩;obtain⟨i,I⟩:=List.getElem?_of_mem K;have Y:=N i x I;have Z:=vM (J i x I);omega
theorem Uh (s:Scr)(h:Bq s)(aq:Nat->Prop)(g I:Nat)(w:World)(D:oA)(E:Nat)(J:oA)(N:Nat)(z:F8 w aq g I D E J N s)(c p:Int)(U:KG s.cs (kindOf s.kb) s.per s.ns s.ps c p):Calls Tryz.prog 19 #[.agg #[.slice (some ⟨I,0,none⟩) 8 8,Ad s.kb,.int .i64 s.per,.slice D s.ns.length E],.slice J s.ps.length N] w fun e w'=>ic s c w e w':=by
 have K:=z.gate h.gate.len (Il h (ns:=s.ns) (by rcases h.gate.nums.len with H|H;rw[H.2];decide;omega));by_cases Q:c=0
 ·
  subst Q;obtain⟨av,Y,ai⟩:=Q5 U;have:=Ma (some ⟨I,0,none⟩) 8 s.cs ⟨s.kb.toArray⟩ s.per D E s.ns J N s.ps w K.curves K.nums (by have:=K.slim.nums;omega) z.pks.pks z.pks.cap z.pks.max Y (by rw[ByteArray.toList_mk];exact av);rw[h.gate.len,ByteArray.toList_mk]at this;refine this.mono ?_
  rintro e w' ⟨O,⟨i,ad,-⟩|⟨-,aB,aw,qs,l,rfl,am,W,ap⟩⟩
  · exact absurd ad (ai i)
  obtain⟨ao,ab,rfl,-,-,aj,an,-⟩:=BD.open am;obtain⟨ar,ac,rfl,-,-,al,V,-⟩:=DX.open W;exact⟨ao,_,ab,ar,_,ac,-1,rfl,O,fun _=>⟨qs,l,rfl,rfl,aj,al,ap⟩,an,V⟩
 have:=Tu (some ⟨I,0,none⟩) 8 s.cs ⟨s.kb.toArray⟩ s.per D E s.ns J N s.ps w c p K z.pks (by rw[ByteArray.toList_mk];exact U) (Sm U Q);rw[h.gate.len]at this;refine this.mono ?_
 rintro e w' ⟨rfl,O⟩;exact⟨none,0,0,none,0,0,p,rfl,O,(fun H=>absurd H Q),(fun Z e=>by cases e),fun Z e=>by cases e⟩
theorem Zc (Z:Nat->Prop)(g cb:Nat)(s:Scr)(w:World)(ho:Bq s)(hm:Dc w Z g cb s)(kd:List UInt8)(na:oA)(ncap:Nat)(nm:List Int)(wd:List UInt8)(hwd:wd=Ms\/wd=EA):Calls Tryz.prog 7 #[.pointer (some ⟨g,0,none⟩),.agg #[Ad wd,Ad kd,.slice na nm.length ncap]] w fun e w'=>BG (fun c o s1=>Alone s wd c o s1) Z g cb s w e w':=by
 obtain⟨c,p,hri⟩:=Vm s.cs (Ew s.kb) s.per s.ns s.ps;have hcr:c=0\/(1<=c/\c<=9):=by rcases I7 hri with h|h|h <;> omega
 obtain⟨ks,hks⟩:∃ ks:ByteArray,⟨wd.toArray⟩=ks:=⟨_,rfl⟩
 obtain⟨kk,hkk⟩:∃ kk:ByteArray,⟨kd.toArray⟩=kk:=⟨_,rfl⟩
 have ek:Ad wd=.string ks:=by rw[<- hks]
 have ekk:Ad kd=.string kk:=by rw[<- hkk]
 obtain⟨nn,hnn⟩:=ex nm.length;obtain⟨B,hB⟩:=ex w.heap.size;obtain⟨hbV,v0,v1,v2⟩:=Li w (.string ks) (.string kk) (.slice na nn ncap) 29;obtain⟨V,hV⟩:=ex (w.alloc (.cells #[.string ks,.string kk,.slice na nn ncap] 29));rw[hV]at hbV v0 v1 v2;rw[hB]at v0 v1 v2 hbV;have HB:=qX hB;rw[ek,ekk,hnn];obtain⟨t0,u0⟩:=Ao wd BF ks hks false (by rcases hwd with rfl|rfl <;> decide);unfold BF at t0 u0;obtain⟨t1,u1⟩:=Ao wd Cu ks hks false (by rcases hwd with rfl|rfl <;> decide);unfold Cu at t1 u1;obtain⟨t2,u2⟩:=Ao wd Br ks hks false (by rcases hwd with rfl|rfl <;> decide);unfold Br at t2 u2;obtain⟨t3,u3⟩:=Ao wd Bd ks hks false (by rcases hwd with rfl|rfl <;> decide);unfold Bd at t3 u3;obtain⟨t4,u4⟩:=Ao wd atW ks hks false (by rcases hwd with rfl|rfl <;> decide);unfold atW at t4 u4;obtain⟨t5,u5⟩:=Ao wd CQ ks hks false (by rcases hwd with rfl|rfl <;> decide);unfold CQ at t5 u5;obtain⟨t6,u6⟩:=Ao wd Cv ks hks false (by rcases hwd with rfl|rfl <;> decide);unfold Cv at t6 u6;obtain⟨bw,hbw⟩:=ex (decide (wd=EA));obtain⟨t7,u7⟩:=Ao wd EA ks hks bw hbw;unfold EA at t7 u7;obtain⟨na1,nc1,pa,pc,hpi⟩:=hm;have hbV':Below w.heap.size w V:=hB ▸ hbV;have hpV:=hpi.below hbV';obtain⟨kb,hkb⟩:∃ kb:ByteArray,⟨s.kb.toArray⟩=kb:=⟨_,rfl⟩
 have ekb:Ad s.kb=.string kb:=by rw[<- hkb]
 obtain⟨r,hr1⟩:=ex s.ns.length;obtain⟨m,hm1⟩:=ex s.ps.length;obtain⟨per,hper⟩:=ex s.per;have HRn:Hid (∀ W,Below V.heap.size V W->Calls Tryz.prog 19 #[.agg #[.slice (some ⟨cb,0,none⟩) 8 8,.string kb,.int .i64 per,.slice na1 r nc1],.slice pa m pc] W fun e w'=>ic s c W e w'):=fun W hW=>by
  have:=Uh s ho Z g cb W na1 nc1 pa pc (hpV.below hW) c p hri;rwa[ekb,hr1,hm1,hper]at this
 have HSb:Hid (∀ W,Below V.heap.size V W->W.cell? ⟨g,0,none⟩=some (.slice (some ⟨cb,0,none⟩) 8 8)/\W.cell? ⟨g,1,none⟩=some (.string kb)/\W.cell? ⟨g,2,none⟩=some (.int .i64 per)/\W.cell? ⟨g,3,none⟩=some (.slice na1 r nc1)/\W.cell? ⟨g,4,none⟩=some (.slice pa m pc)):=fun W hW=>by
  rw[<- ekb,<- hper,<- hr1,<- hm1];exact⟨j7 hW hpV.c0,j7 hW hpV.c1,j7 hW hpV.c2,j7 hW hpV.c3,j7 hW hpV.c4⟩
 have HV0:Hid (∀ W,Below V.heap.size V W->W.cell? ⟨B,0,none⟩=some (.string ks)):=fun W hW=>j7 hW v0
 have HBad:Hid (∀ W,c≠0->Below V.heap.size V W->BG (fun c o s1=>Alone s wd c o s1) Z g cb s w (.returned (Ad (AV c))) W):=fun W h0 hW=>by
  have hb:=hbV'.tr hW;refine⟨c,[],s,?_,by omega,by rw[if_neg h0],.ofBelow hb,.inr ⟨h0,_,_,_,_,hpi.below hb⟩⟩;rcases hwd with rfl|rfl
  · exact .inr (.inl ⟨rfl,rfl,[],⟨p,hri,fun h=>absurd h h0⟩,fun h=>absurd h h0⟩)
  exact .inr (.inr (.inr (.inl ⟨rfl,rfl,0,⟨p,hri,fun h=>absurd h h0⟩,fun h=>absurd h h0⟩)))
 have HGood:Hid (∀ W qs l o,c=0->Cy (Ae s.cs) (kindOf s.kb) s.per s.ns s.ps qs l->(bw=false->o=DW l)->(bw=true->o=Go.Lib.itoa (Dr (BH qs l)))->Below V.heap.size V W->BG (fun c o s1=>Alone s wd c o s1) Z g cb s w (.returned (Ad o)) W):=fun W qs l o h0 hgr h1 h2 hW=>by
  have hb:=hbV'.tr hW;refine⟨c,o,s,?_,by omega,by rw[if_pos h0],.ofBelow hb,.inl ⟨h0,_,_,_,_,hpi.below hb⟩⟩;rcases hwd with rfl|rfl
  · exact .inr (.inl ⟨rfl,rfl,l,⟨p,hri,fun _=>⟨qs,hgr⟩⟩,fun _=>h1 (by rw[<- hbw];rfl)⟩)
  refine .inr (.inr (.inr (.inl ⟨rfl,rfl,Fu qs l,⟨p,hri,fun _=>⟨qs,l,hgr,rfl⟩⟩,fun _=>?_⟩)));rw[h2 (by rw[<- hbw];rfl),WG fun z hz=>((Ii ho hgr).2.2 z hz).1]
 have HIn:Hid (∀ qs l,Cy (Ae s.cs) (kindOf s.kb) s.per s.ns s.ps qs l->c=0->I4 l/\l.length<=1000/\(∀ z∈BH qs l,0<=z/\z<=1125899906842624)/\qs.length<=1000/\∀ x∈l,0<=x.num/\x.num<qs.length/\0<=x.beg/\0<=x.fin):=fun qs l h h0=>fB ho h
 have HDec:Hid (∀ W n,0<=n/\n<=9223372036854775807->qW 11 #[.int .i64 n] W (Ad (Go.Lib.itoa n))):=fun W n h=>J4 n h.1 h.2 W
 have HEt:Hid (∀ W,c≠0->qW 16 #[.int .i64 c] W (Ad (AV c))):=fun W h0=>Et c W (by omega)
 have HB1:Hid (Below V.heap.size V V.drew):=qL br 1;have hS:=HSb.o _ HB1.o;have hv0:=HV0.o _ HB1.o;have HCr:=qX hcr;clear hri hcr hbV hbV' hnn ho hpi hpV ek ekk hks hkk hkb ekb hr1 hm1 hper hbw hwd;go_in
 go_upto_region 38 with fail
 go_cut [11,12,13] (fun s11 s12 s13 wx=>kC s c V s11 s12 s13 wx)
 case first=>
  go_region_held3 (fun w'=>w'.cell? ⟨g,0,none⟩=some (.slice (some ⟨cb,0,none⟩) 8 8)/\w'.cell? ⟨g,1,none⟩=some (.string kb)/\w'.cell? ⟨g,2,none⟩=some (.int .i64 per)/\w'.cell? ⟨g,3,none⟩=some (.slice na1 r nc1)/\w'.cell? ⟨g,4,none⟩=some (.slice pa m pc))
   (first | exact hS | exact HSb.o _ (H6.o.1.alloc H6.o.1.size _) | exact HSb.o _ (HB1.o.alloc HB1.o.size _) | exact HSb.o _ ((H6.o.1.setCell (p:=⟨V.heap.size,0,none⟩) lr _).setCell (p:=⟨V.heap.size,1,none⟩) lr _))
   (first
   | (go_at_call 19;refine(HRn.o _ HB1.o).mono ?_;rintro e w6 ⟨qa,qn,qcap,la,ln,lcap,q,rfl,q1,q2,-⟩;have H6:Hid (Below V.heap.size V w6/\(c=0->∃ qs l,qs.length=qn/\l.length=ln/\Aw w6 qa qs/\F9 w6 la l/\Cy (Ae s.cs) (kindOf s.kb) s.per s.ns s.ps qs l)):=⟨HB1.o.tr q1,q2⟩;have hS:=HSb.o w6 H6.o.1;clear q1 q2)
   | (go_at_call 19;refine (HRn.o _ (HB1.o.alloc HB1.o.size _)).mono ?_;rintro e w6 ⟨qa,qn,qcap,la,ln,lcap,q,rfl,q1,q2,q3,q4⟩;have HNq:=(show Hid ((∀ ad,qa=some ad -> ¬ ad.block=V.heap.size) /\ ∀ ad,la=some ad -> ¬ ad.block=V.heap.size) from ⟨fun ad e h=>by have:=q3 ad e;simp at this;omega,fun ad e h=>by have:=q4 ad e;simp at this;omega⟩);have H6:Hid (Below V.heap.size V w6 /\ (c=0 -> ∃ qs l,qs.length=qn /\ l.length=ln /\ Aw w6 qa qs /\ F9 w6 la l /\ Cy (Ae s.cs) (kindOf s.kb) s.per s.ns s.ps qs l)):=⟨(HB1.o.alloc HB1.o.size _).trans (q1.mono (HB1.o.alloc HB1.o.size _).size),q2⟩;obtain ⟨k0,k1,k2,k3⟩:=Yc V q1;have hS:=HSb.o w6 H6.o.1;clear q1 q2 q3 q4))
  · go_wp2_with fail;go_meet;have hbA:Below w6.heap.size w6 (w6.alloc (.cells #[.int .i64 c,.int .i64 q] 52)):=ba;refine⟨qa,qn,qcap,la,ln,lcap,w6.heap.size,rfl,rfl,rfl,by rw[qO _ _ _ _ rfl];rfl,H6.o.1.alloc H6.o.1.size _,fun h0=>?_⟩;obtain⟨qs,l,e1,e2,e3,e4,e5⟩:=H6.o.2 h0;exact⟨qs,l,e1,e2,e3.below hbA,e4.below hbA,e5⟩
  go_wp2_with fail;go_meet;have hbt:But (fun k=>k=V.heap.size) w6 ((w6.setCell ⟨V.heap.size,0,none⟩ (.int .i64 c)).setCell ⟨V.heap.size,1,none⟩ (.int .i64 q)):=But.setCell (p:=⟨V.heap.size,1,none⟩) (But.setCell (p:=⟨V.heap.size,0,none⟩) (But.refl (fun k=>k=V.heap.size) w6) rfl _) rfl _;refine⟨qa,qn,qcap,la,ln,lcap,V.heap.size,rfl,rfl,rfl,?_,(H6.o.1.setCell (p:=⟨V.heap.size,0,none⟩) lr _).setCell (p:=⟨V.heap.size,1,none⟩) lr _,fun h0=>?_⟩
  · rw[j9 _ _ _ _ (by intro e';cases e')];exact qT _ _ _ (by rw[k0];rfl)
  obtain⟨qs,l,e1,e2,e3,e4,e5⟩:=H6.o.2 h0;exact⟨qs,l,e1,e2,e3.but hbt HNq.o.1,e4.but hbt HNq.o.2,e5⟩
 case rest=>
 obtain⟨qa,qn,qcap,la,ln,lcap,F,rfl,rfl,rfl,f0,hbx,hq⟩:=hcut;have HX:=qX hbx;have hw0:=HV0.o wc hbx;by_cases h0:c≠0
 ·
  have hcd:decide (0<c)=true:=qM (by have:=HCr.o;omega);have HN0:=qX h0;clear hq hbx hS hv0 h0 t7 u7 v0 v1 v2;go_wp2_with fail;refine(HEt.o _ HN0.o).mono ?_
  rintro e w9 ⟨rfl,hb9⟩;have HE:=(show Hid (BG (fun c o s1=>Alone s wd c o s1) Z g cb s w (.returned (Ad (AV c))) w9)from HBad.o w9 HN0.o (HX.o.tr hb9))
  obtain⟨tx,htx⟩:=ex (AV c);rw[htx]at HE ⊢;clear hb9 htx HEt HBad;go_wp2
  go_ret;exact HE.o
 have hcd:decide (0<c)=false:=qF (by omega);replace h0:c=0:=by omega
 obtain⟨qs,l,e1,e2,e3,e4,e5⟩:=hq h0;obtain⟨g1,g2,g3,g4,g5⟩:=HIn.o qs l e5 h0;have hln:ln<=1000:=by omega
 have hqn:qn<=1000:=by omega
 have HG:Hid (I4 l/\(∀ z∈BH qs l,0<=z/\z<=1125899906842624)/\(∀ x∈l,0<=x.num/\x.num<qs.length/\0<=x.beg/\0<=x.fin)/\qs.length=qn/\l.length=ln):=⟨g1,g3,g5,e1,e2⟩
 have HL:=qY e3 e4;have HEnd:Hid (∀ W o,(bw=false->o=DW l)->(bw=true->o=Go.Lib.itoa (Dr (BH qs l)))->Below wc.heap.size wc W->BG (fun c o s1=>Alone s wd c o s1) Z g cb s w (.returned (Ad o)) W):=fun W o h1 h2 hW=>HGood.o W qs l o h0 e5 h1 h2 (HX.o.tr hW)
 clear hq hbx hS hv0 h0 v0 v1 v2 e1 e2 e3 e4 e5 g1 g2 g3 g4 g5 HGood HBad HRn HSb HB1 HCr HIn HEt;go_wp2_with fail;clear f0;go_loopg [14,15,16] ln (fun gk mv ov iv wr=>∃ k:Nat,gk+k=ln/\iv=.int .i64 k/\mv=.int .i64 (Dr ((BH qs l).take k))/\ov=Ad (F7 (l.take k))/\Below wc.heap.size wc wr)
 case atStart=>exact⟨0,by omega,rfl,rfl,rfl,br⟩
 case round=>
  obtain⟨k,hgk,rfl,rfl,rfl,hb⟩:=hrel;have HB:=qX hb;by_cases hkn:k<ln
  ·
   obtain⟨x,hx,hxm⟩:=Ab l k (by rw[HG.o.2.2.2.2];exact hkn);obtain⟨bl,ol,rfl,-,hcl⟩:=HL.o.2.place (by rw[HG.o.2.2.2.2];omega);obtain⟨x1,x2,x3,x4⟩:=HG.o.2.2.1 x hxm;obtain⟨pn,hpn⟩:∃ pn:Nat,x.num=pn:=⟨x.num.toNat,by omega⟩
   obtain⟨q,hqq,-⟩:=Ab qs pn (by omega);obtain⟨bq,oq,rfl,-,hcq⟩:=HL.o.1.place (by have:=Af hqq;omega);have hpq:pn<qn:=by rw[<- HG.o.2.2.2.1];exact Af hqq
   have hlz:BH qs l=BH qs l:=rfl;have hzk:(BH qs l)[k]? = some (x.fin-q.tick):=by
    unfold BH;rw[xM,hx,Option.map_some,hpn,yB,Av hqq]
   have hzr:=HG.o.2.1 (x.fin-q.tick) (q9 hzk);have hMr:=LZ (zs:=(BH qs l).take k) fun z hz=>HG.o.2.1 z (yM hz)
   have HMs:Hid (Dr ((BH qs l).take (k+1))=max (Dr ((BH qs l).take k)) (x.fin-q.tick)):=by show _=_;rw[vF,hzk];exact Ug _ _
   have HTs:Hid (F7 (l.take (k+1))=Im (l.take k)++(Go.Lib.itoa (pn:Int)++[58]++Go.Lib.itoa x.beg++[45]++Go.Lib.itoa x.fin)):=by
    show _=_
    rw[vF,hx];show F7 (l.take k++[x])=_
    rw[KQ,hpn];rfl
   have hTl:=Ya (l:=l.take k) fun y hy=>HG.o.1 y (yM hy)
   have hTl2:(l.take k).length<=1000:=by rw[vO];omega
   have hin:=HG.o.1 x hxm;have r0:=hin (pn:Int) (.inl hpn.symm);have r1:=hin x.beg (.inr (.inl rfl));have r2:=hin x.fin (.inr (.inr rfl));obtain⟨c0,c1,c2⟩:=hcl k x hx;have c3:=(hcq pn q hqq).2.2;rw[hpn]at c0;obtain⟨pf,hpf⟩:=ex x.beg;obtain⟨pt,hpt⟩:=ex x.fin;obtain⟨tk,htk⟩:=ex q.tick;rw[hpf]at c1 HTs r1 x3;rw[hpt,htk]at hzr HMs;rw[hpt]at c2 HTs r2 x4;rw[htk]at c3;obtain⟨M,hM⟩:=ex (Dr ((BH qs l).take k));obtain⟨T,hT⟩:=ex (F7 (l.take k));obtain⟨z,hz⟩:=ex (pt-tk);rw[hM]at hMr HMs ⊢;rw[hT]at hTl ⊢;rw[hz]at hzr HMs;have hwz:IntKind.i64.wrap (pt-tk)=z:=by rw[hz];exact vY _ (by omega)
   obtain⟨t0,ht0⟩:=ex (Im (l.take k));have ht0l:t0.length<=102000:=by
    rw[<- ht0];unfold Im;split
    · simp
    rw[hT,qJ];simp;omega
   have HT0:Hid ((0<k->t0=T++[32])/\(k=0->t0=T)):=by
    rw[<- ht0,<- hT];unfold Im;refine⟨fun hk=>?_,fun hk=>?_⟩
    ·
     rw[if_neg];intro h;have:=congrArg List.length h;rw[vO,HG.o.2.2.2.2]at this;simp at this
     omega
    subst hk;rfl
   rw[ht0]at HTs;have hl1:=Go.Lib.itoa_length_le (pn:Int) r0.1 r0.2;have hl2:=Go.Lib.itoa_length_le pf r1.1 r1.2;have hl3:=Go.Lib.itoa_length_le pt r2.1 r2.2;have HCs:Hid (∀ W,Below wc.heap.size wc W->W.cell? ⟨bl,ol+k*3,none⟩=some (.int .i64 pn)/\W.cell? ⟨bl,ol+k*3+1,none⟩=some (.int .i64 pf)/\W.cell? ⟨bl,ol+k*3+2,none⟩=some (.int .i64 pt)/\W.cell? ⟨bq,oq+pn*3+2,none⟩=some (.int .i64 tk)):=fun W hW=>⟨j7 hW c0,j7 hW c1,j7 hW c2,j7 hW c3⟩
   have HIz:Hid (∀ z W,z=(pn:Int)\/z=pf\/z=pt->qW 11 #[.int .i64 z] W (Ad (Go.Lib.itoa z))):=fun z W h=>HDec.o W z (by rcases h with rfl|rfl|rfl;exact⟨by omega,r0.2⟩;exact⟨x3,r1.2⟩;exact⟨x4,r2.2⟩)
   obtain⟨It,hIt⟩:=ex Go.Lib.itoa;rw[hIt]at hl1 hl2 hl3 HTs HIz;obtain⟨s1,hs1⟩:=ex (It (pn:Int));obtain⟨s2,hs2⟩:=ex (It pf);obtain⟨s3,hs3⟩:=ex (It pt);rw[hs1]at hl1 HTs;rw[hs2]at hl2 HTs;rw[hs3]at hl3 HTs;have k0:=JB t0 s1 (by omega) (by omega);have k1:=JB (t0++s1) [58] (by simp;omega) (by decide);have k2:=JB (t0++s1++[58]) s2 (by simp;omega) (by omega);have k3:=JB (t0++s1++[58]++s2) [45] (by simp;omega) (by decide);have k4:=JB (t0++s1++[58]++s2++[45]) s3 (by simp;omega) (by omega);have k5:=JB T [32] (by omega) (by decide);have HTe:Hid (F7 (l.take (k+1))=t0++s1++[58]++s2++[45]++s3):=by show _=_;rw[HTs.o];simp
   obtain⟨t1,ht1⟩:=ex (t0++s1);rw[ht1]at k0 k1 k2 k3 k4 HTe;obtain⟨t2,ht2⟩:=ex (t1++[58]);rw[ht2]at k1 k2 k3 k4 HTe;obtain⟨t3,ht3⟩:=ex (t2++s2);rw[ht3]at k2 k3 k4 HTe;obtain⟨t4,ht4⟩:=ex (t3++[45]);rw[ht4]at k3 k4 HTe;obtain⟨t5,ht5⟩:=ex (t4++s3);rw[ht5]at k4 HTe;obtain⟨d0,d1,d2,d3⟩:=HCs.o wr hb;clear hb hx hxm hcl hcq hqq hzk hlz hzr hMr hTl hTl2 hin r0 r1 r2 c0 c1 c2 c3 hpn hpf hpt htk hM hT hz ht0 ht0l hl1 hl2 hl3 hIt ht1 ht2 ht3 ht4 ht5 HTs x1 x2 x3 x4 HDec;obtain⟨M2,hM2⟩:=ex (Dr ((BH qs l).take (k+1)));have HM2:=qX hM2;have hzc:(decide (z>M)=true/\M2=z)\/(decide (z>M)=false/\M2=M):=by
    have:=HMs.o;rw[hM2]at this;by_cases h:M<z
    · exact .inl ⟨qM h,by omega⟩
    exact .inr ⟨qF h,by omega⟩
   have hkc:((decide ((k:Int)>0)=true/\decide (0<k)=true)/\t0=T++[32])\/((decide ((k:Int)>0)=false/\decide (0<k)=false)/\t0=T):=by
    by_cases h:0<k
    · exact .inl ⟨⟨qM (by omega),qM h⟩,HT0.o.1 h⟩
    exact .inr ⟨⟨qF (by omega),qF h⟩,HT0.o.2 (by omega)⟩
   clear hM2 HMs HT0;rcases hzc with⟨hbz,rfl⟩|⟨hbz,rfl⟩
   ·
    rcases hkc with⟨⟨hbk,hbn⟩,h5⟩|⟨⟨hbk,hbn⟩,rfl⟩
    rw[<- h5]at k5;clear h5
    all_goals
     go_wp2
     go_quiet (fail);obtain⟨W1,hW1⟩:=ex (wr.drewN nq);have hbW1:Below wr.heap.size wr W1:=by rw[<- hW1];exact qL br _
     have HW1:=qX (HB.o.tr hbW1);rw[hW1];clear d0 d1 d2 d3 hW1 hbW1;obtain⟨d0,d1,d2,d3⟩:=HCs.o W1 HW1.o;go_wp2
     go_quiet (fail);obtain⟨W2,hW2⟩:=ex (W1.drewN nq);have hbW2:Below W1.heap.size W1 W2:=by rw[<- hW2];exact qL br _
     have HW2:=qX (HW1.o.tr hbW2);rw[hW2];clear d0 d1 d2 d3 hW2 hbW2;obtain⟨d0,d1,d2,d3⟩:=HCs.o W2 HW2.o;have HBd:=qX HW2.o.drew;have hS:W2.drew.cell? ⟨bl,ol+k*3,none⟩=some (.int .i64 pn)/\W2.drew.cell? ⟨bl,ol+k*3+1,none⟩=some (.int .i64 pf)/\W2.drew.cell? ⟨bl,ol+k*3+2,none⟩=some (.int .i64 pt):=⟨(HCs.o _ HBd.o).1,(HCs.o _ HBd.o).2.1,(HCs.o _ HBd.o).2.2.1⟩
     have HSb:Hid (∀ W,Below wc.heap.size wc W->W.cell? ⟨bl,ol+k*3,none⟩=some (.int .i64 pn)/\W.cell? ⟨bl,ol+k*3+1,none⟩=some (.int .i64 pf)/\W.cell? ⟨bl,ol+k*3+2,none⟩=some (.int .i64 pt)):=fun W hW=>⟨(HCs.o W hW).1,(HCs.o W hW).2.1,(HCs.o W hW).2.2.1⟩
     go_wp2_with fail;clear d0 d1 d2 d3;go_region_held3 (fun w'=>w'.cell? ⟨bl,ol+k*3,none⟩=some (.int .i64 pn)/\w'.cell? ⟨bl,ol+k*3+1,none⟩=some (.int .i64 pf)/\w'.cell? ⟨bl,ol+k*3+2,none⟩=some (.int .i64 pt))
      (first | exact hS)
      (first
      | (go_at_call 11;refine (HIz.o _ _ (by first | exact .inl rfl | exact .inr (.inl rfl) | exact .inr (.inr rfl))).mono ?_;rintro e w6 ⟨rfl,hb6⟩;have HBd:Hid (Below wc.heap.size wc w6):=HBd.o.tr hb6;have hS:=HSb.o _ HBd.o;clear hb6))
     all_goals
      clear hS;go_wp2
      go_roundg (gk-1)
      case measure=>omega
      case rel=>exact⟨k+1,by omega,by go_num,by rw[HM2.o],by rw[HTe.o],HBd.o⟩
   rcases hkc with⟨⟨hbk,hbn⟩,h5⟩|⟨⟨hbk,hbn⟩,rfl⟩
   rw[<- h5]at k5;clear h5
   all_goals
    go_wp2
    go_quiet (fail);obtain⟨W1,hW1⟩:=ex (wr.drewN nq);have hbW1:Below wr.heap.size wr W1:=by rw[<- hW1];exact qL br _
    have HW1:=qX (HB.o.tr hbW1);rw[hW1];clear d0 d1 d2 d3 hW1 hbW1;obtain⟨d0,d1,d2,d3⟩:=HCs.o W1 HW1.o;have HBd:=qX HW1.o.drew;have hS:W1.drew.cell? ⟨bl,ol+k*3,none⟩=some (.int .i64 pn)/\W1.drew.cell? ⟨bl,ol+k*3+1,none⟩=some (.int .i64 pf)/\W1.drew.cell? ⟨bl,ol+k*3+2,none⟩=some (.int .i64 pt):=⟨(HCs.o _ HBd.o).1,(HCs.o _ HBd.o).2.1,(HCs.o _ HBd.o).2.2.1⟩
    have HSb:Hid (∀ W,Below wc.heap.size wc W->W.cell? ⟨bl,ol+k*3,none⟩=some (.int .i64 pn)/\W.cell? ⟨bl,ol+k*3+1,none⟩=some (.int .i64 pf)/\W.cell? ⟨bl,ol+k*3+2,none⟩=some (.int .i64 pt)):=fun W hW=>⟨(HCs.o W hW).1,(HCs.o W hW).2.1,(HCs.o W hW).2.2.1⟩
    go_wp2_with fail;clear d0 d1 d2 d3;go_region_held3 (fun w'=>w'.cell? ⟨bl,ol+k*3,none⟩=some (.int .i64 pn)/\w'.cell? ⟨bl,ol+k*3+1,none⟩=some (.int .i64 pf)/\w'.cell? ⟨bl,ol+k*3+2,none⟩=some (.int .i64 pt))
     (first | exact hS)
     (first
     | (go_at_call 11;refine (HIz.o _ _ (by first | exact .inl rfl | exact .inr (.inl rfl) | exact .inr (.inr rfl))).mono ?_;rintro e w6 ⟨rfl,hb6⟩;have HBd:Hid (Below wc.heap.size wc w6):=HBd.o.tr hb6;have hS:=HSb.o _ HBd.o;clear hb6))
    all_goals
     clear hS;go_wp2
     go_roundg (gk-1)
     case measure=>omega
     case rel=>exact⟨k+1,by omega,by go_num,by rw[HM2.o],by rw[HTe.o],HBd.o⟩
  obtain rfl:k=ln:=by omega
  have ht1:(BH qs l).take k=BH qs l:=vP (by unfold BH;rw[xZ,HG.o.2.2.2.2];exact lr);have ht2:l.take k=l:=vP (by rw[HG.o.2.2.2.2];exact lr);have hMr:=LZ (zs:=BH qs l) HG.o.2.1;rw[ht1,ht2];have hr0:=j7 hb hw0;have HDm:Hid (∀ W,qW 11 #[.int .i64 (Dr (BH qs l))] W (Ad (Go.Lib.itoa (Dr (BH qs l))))):=fun W=>HDec.o W _ ⟨hMr.1,by omega⟩
  obtain⟨T,hT⟩:=ex (F7 l);obtain⟨bT,hbT⟩:=ex (decide (T=[]));obtain⟨Ts,hTs⟩:∃ Ts:ByteArray,⟨T.toArray⟩=Ts:=⟨_,rfl⟩
  obtain⟨t9,u9⟩:=Ao T [] Ts hTs bT hbT;have eT:Ad T=.string Ts:=by rw[<- hTs]
  have HSt:Hid (DW l=if T=[]then Ha else T):=by
   show _=_
   unfold DW;by_cases hl:l=[]
   ·
    have:T=[]:=by rw[<- hT,hl];rfl
    rw[if_pos hl,if_pos this]
   have:T≠[]:=fun h=>hl (XB (hT.trans h))
   rw[if_neg hl,if_neg this,<- hT];rfl
  have HEn:Hid (∀ W o,(bw=false->o=DW l)->(bw=true->o=Go.Lib.itoa (Dr (BH qs l)))->Below wr.heap.size wr W->BG (fun c o s1=>Alone s wd c o s1) Z g cb s w (.returned (Ad o)) W):=fun W o h1 h2 hW=>HEnd.o W o h1 h2 (HB.o.tr hW)
  rw[hT,eT];obtain⟨M,hM⟩:=ex (Dr (BH qs l));rw[hM]at HDm HEn ⊢;have HTe:=qY eT hbT;clear hb ht1 ht2 hMr hT hbT hTs eT hM hw0 HEnd HDec HL HG HB;cases bw with
  | true=>
   go_wp2_with fail;refine(HDm.o _).mono ?_
   rintro e w9 ⟨rfl,hb9⟩;have HE:=(show Hid (BG (fun c o s1=>Alone s wd c o s1) Z g cb s w (.returned (Ad (Go.Lib.itoa M))) w9)from HEn.o w9 _ (fun h=>by cases h) (fun _=>rfl) hb9)
   obtain⟨tx,htx⟩:=ex (Go.Lib.itoa M);rw[htx]at HE ⊢;clear hb9 htx HEn HDm;go_wp2
   go_ret;exact HE.o
  | false=>
   cases bT with
   | true=>
    have HE:=(show Hid (BG (fun c o s1=>Alone s wd c o s1) Z g cb s w (.returned (Ad Ha)) wr)from HEn.o wr _ (fun _=>by rw[HSt.o,if_pos (vM HTe.o.2)]) (fun h=>by cases h) br)
    unfold Ha at HE;clear HEn HDm;go_wp2
    go_ret;exact HE.o
   | false=>
    have HE:=(show Hid (BG (fun c o s1=>Alone s wd c o s1) Z g cb s w (.returned (Ad T)) wr)from HEn.o wr _ (fun _=>by rw[HSt.o,if_neg (xE HTe.o.2)]) (fun h=>by cases h) br)
    rw[HTe.o.1]at HE;clear HEn HDm;go_wp2
    go_ret;exact HE.o
def QK (z:Nat->Prop)(g h:Nat)(s:Scr)(x:List UInt8)(w:World)(e:Ending)(w':World):Prop:=
 ∃ out s',e=.returned (Ad out)/\Says s x out s'/\But (JY g h) w w'/\Dc w' z g h s'
theorem D6 {E:Nat->Prop}{g K:Nat}{s:Scr}{x:List UInt8}{w w':World}{e:Ending}{R:Int->List UInt8->Scr->Prop}(I:∀ c o s1,R c o s1->Ju s x c o s1)(O:BG R E g K s w e w'):QK E g K s x w e w':=by
 obtain⟨c,o,s1,H,Q,z,J,N⟩:=O;rcases N with⟨h,D⟩|⟨h,D⟩
 · rw[if_pos h]at z;exact⟨o,s1,z,⟨c,o,s1,I _ _ _ H,.inl ⟨h,rfl,rfl⟩⟩,J,D⟩
 rw[if_neg h]at z;exact⟨_,s,z,⟨c,o,s1,I _ _ _ H,.inr ⟨by omega,rfl,rfl⟩⟩,J,D⟩
theorem TL (H:Nat->Prop)(g J:Nat)(s:Scr)(w:World)(Z:Nat->Addr)(ap:A8 w Z)(Q:Bq s)(O:Dc w H g J s)(l:LL)(x:List UInt8)(ab:MJ l (some x))(E:oA)(I:Nat)(V:GV w E I l.nm)(an:l.nm.length<=20)(am:l.nm.length=8->Apart w H E):Calls Tryz.prog 7 #[.pointer (some ⟨g,0,none⟩),.agg #[Ad l.wd,Ad l.kd,.slice E l.nm.length I]] w fun e w'=>QK H g J s x w e w':=by
 have N:=fun c o s1=>Zv ab (s:=s) (s1:=s1) (c:=c) (o:=o)
 obtain⟨ad,ac⟩:Gb l=true/\Qg l:=by
  rcases ab with⟨D,al,-⟩|⟨-,h⟩
  · exact⟨D,al⟩
  cases h
 have U:=JZ ac;obtain⟨z,K,nm⟩:=l;have Y:(z=Bd\/z=atW\/z=BF)->∀ f,nm[0]? = some f->f<=9:=fun ao f ai=>by
  have:=(ac 0 f ai).2;unfold Jp at this;rw[if_pos ⟨rfl,ao⟩]at this;exact this
 have W:z≠Cu->GR ⟨z,K,nm⟩=nm.map Go.Lib.itoa:=fun h=>by unfold GR;rw[if_neg h];rfl
 rcases Mt ad with⟨e,D⟩|⟨e,D,aj⟩|⟨e,D⟩|⟨e,D⟩|⟨e,D⟩|⟨e,D⟩
 · have e:z=BF:=e;subst e;exact(bY H g J s w Q O K E I nm V an D U (Y (.inr (.inr rfl)))).mono fun _ _ h=>D6 (fun c o s1 k=>(N c o s1).2 (.inl rfl) (by rw[W (by decide)];exact k)) h
 · have e:z=Cu:=e;subst e;exact(dK H g J s w Q O K E I nm V D U aj).mono fun _ _ h=>D6 (fun c o s1 k=>(N c o s1).2 (.inr (.inl rfl)) (by unfold GR;rw[if_pos rfl];exact k)) h
 · have e:z=Br:=e;subst e;exact(Vl H g J s w Q O K E I nm V D U (am D)).mono fun _ _ h=>D6 (fun c o s1 k=>(N c o s1).2 (.inr (.inr (.inl rfl))) (by rw[W (by decide)];exact k)) h
 · have e:z=Bd:=e;subst e;exact(Xd H g J s w Q O K E I nm V D U (Y (.inl rfl))).mono fun _ _ h=>D6 (fun c o s1 k=>(N c o s1).2 (.inr (.inr (.inr (.inl rfl)))) (by rw[W (by decide)];exact k)) h
 · have e:z=atW:=e;subst e;exact(jD H g J s w Q O K E I nm V D U (Y (.inr (.inl rfl)))).mono fun _ _ h=>D6 (fun c o s1 k=>(N c o s1).2 (.inr (.inr (.inr (.inr rfl)))) (by rw[W (by decide)];exact k)) h
 have e:z=CQ\/z=Ms\/z=EA\/z=Cv:=e;rcases e with e|e|e|e
 · subst e;exact(aG H g J s w O K E I nm).mono fun _ _ h=>D6 (fun c o s1 k=>(N c o s1).1 (.inl rfl) k) h
 · exact(Zc H g J s w Q O K E I nm z (.inl e)).mono fun _ _ h=>D6 (fun c o s1 k=>(N c o s1).1 (.inr (.inl e)) k) h
 · exact(Zc H g J s w Q O K E I nm z (.inr e)).mono fun _ _ h=>D6 (fun c o s1 k=>(N c o s1).1 (.inr (.inr (.inl e))) k) h
 subst e;exact(aU H g J s w Z ap Q O K E I nm).mono fun _ _ h=>D6 (fun c o s1 k=>(N c o s1).1 (.inr (.inr (.inr rfl))) k) h
end Go.Proofs.YtejlihcdfffafaaGreatDoor
