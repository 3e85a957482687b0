import Derived.OwnWalk
import Derived.Test.YtejlihcdfffafaaGreatDoorP36
import Derived.ArgAppend
set_option maxHeartbeats 4000000
set_option maxRecDepth 100000
namespace Go.Proofs.YtejlihcdfffafaaGreatDoor
open Go.RowKit
def Ki (w:World)(g:Value)(c p:Int):Prop:=∀ h,zW w h->Calls Tryz.prog 79 #[g] h fun e w'=>∃ z,e=.returned z/\Ba w' z c p/\zW h w'
section
variable (ca:Option Addr) (m ccap:Nat) (kb:ByteArray) (per:Int) (na:Option Addr) (r ncap:Nat) (pa:Option Addr) (n pcap:Nat) (w:World)
theorem Ur (c p:Int)(Q:0<c)(I:Ki w (.agg #[.slice ca m ccap,.string kb,.int .i64 per,.slice na r ncap]) c p):Calls Tryz.prog 78 #[.agg #[.slice ca m ccap,.string kb,.int .i64 per,.slice na r ncap],.slice pa n pcap] w fun e w'=>Kz c p w e w':=by
 have D:zW w (w.alloc (.cells #[.slice ca m ccap,.string kb,.int .i64 per,.slice na r ncap] 78)):=ba;have E:=(show Hid (Calls Tryz.prog 79 #[.agg #[.slice ca m ccap,.string kb,.int .i64 per,.slice na r ncap]] (w.alloc (.cells #[.slice ca m ccap,.string kb,.int .i64 per,.slice na r ncap] 78)) fun e w'=>∃ h,e=.returned h/\Ba w' h c p/\Below (w.alloc (.cells #[.slice ca m ccap,.string kb,.int .i64 per,.slice na r ncap] 78)).heap.size (w.alloc (.cells #[.slice ca m ccap,.string kb,.int .i64 per,.slice na r ncap] 78)) w')from I _ D)
 have J:=qX D;clear I D;go_in
 go_wp2_with fail;refine E.o.mono ?_
 rintro e K ⟨h,rfl,z,H⟩;obtain⟨O,v,rfl⟩:=z.some_ (by omega);have N:Hid (Kz c p w (.returned (.tuple #[.slice none 0 0,.slice none 0 0,.iface O v])) K):=⟨none,0,none,0,_,rfl,z,J.o.tr H⟩
 clear z H E;go_wp2_with fail
 (try simp only[Exit.inBlock,Exit.then])
 refine vB (results_tmp3 rfl _ _ _) rfl ?_
 exact N.o
theorem Wq (c p:Int)(Y:0<c)(N:Ki w (.agg #[.slice ca m ccap,.string kb,.int .i64 per,.slice na r ncap]) 0 (-1))(K:∀ E,zW w E->Calls Tryz.prog 96 #[.slice pa n pcap] E fun e w'=>∃ h,e=.returned h/\Ba w' h c p/\zW E w'):Calls Tryz.prog 78 #[.agg #[.slice ca m ccap,.string kb,.int .i64 per,.slice na r ncap],.slice pa n pcap] w fun e w'=>Kz c p w e w':=by
 have H:zW w (w.alloc (.cells #[.slice ca m ccap,.string kb,.int .i64 per,.slice na r ncap] 78)):=ba;have I:=(show Hid (Calls Tryz.prog 79 #[.agg #[.slice ca m ccap,.string kb,.int .i64 per,.slice na r ncap]] (w.alloc (.cells #[.slice ca m ccap,.string kb,.int .i64 per,.slice na r ncap] 78)) fun e w'=>∃ h,e=.returned h/\Ba w' h 0 (-1)/\Below (w.alloc (.cells #[.slice ca m ccap,.string kb,.int .i64 per,.slice na r ncap] 78)).heap.size (w.alloc (.cells #[.slice ca m ccap,.string kb,.int .i64 per,.slice na r ncap] 78)) w')from N _ H)
 have Q:=qX H;have V:=qX K;clear N H K;go_in
 go_wp2_with fail;refine I.o.mono ?_
 rintro e Z ⟨h,rfl,z,D⟩;obtain rfl:=z.none_ rfl;have J:=qX (Q.o.tr D);clear z D I;go_wp2_with fail;refine(V.o _ J.o).mono ?_
 rintro e O ⟨h,rfl,z,D⟩;obtain⟨W,v,rfl⟩:=z.some_ (by omega);have U:Hid (Kz c p w (.returned (.tuple #[.slice none 0 0,.slice none 0 0,.iface W v])) O):=⟨none,0,none,0,_,rfl,z,J.o.tr D⟩
 clear z D;go_wp2_with fail
 (try simp only[Exit.inBlock,Exit.then])
 refine vB (results_tmp3 rfl _ _ _) rfl ?_
 exact U.o
end
theorem MZ (J:oA)(K:Nat)(cs:List lI)(kb:ByteArray)(per:Int)(I:oA)(H:Nat)(ns:List Int)(W:oA)(ac:Nat)(ps:List Pk)(w:World)(ai:Nat->Addr)(aE:A8 w ai)(aS:DT w J K cs I H ns)(a3:CU w W ac ps)(D:GA cs (kindOf kb.toList) per ns)(aw:Al ps):Calls Tryz.prog 78 #[.agg #[.slice J cs.length K,.string kb,.int .i64 per,.slice I ns.length H],.slice W ps.length ac] w fun e w'=>
   (∀ i:Nat,Bg (Ae cs) ps i->(∀ j,j<i->¬Bg (Ae cs) ps j)->Kz 4 i w e w')/\((∀ i,¬Bg (Ae cs) ps i)->Qd cs (kindOf kb.toList) per ns ps w e w'):=by
 obtain⟨k,ar⟩:=ex (kindOf kb.toList);rw[ar]at D ⊢;obtain⟨m,a1⟩:=ex cs.length;obtain⟨r,aN⟩:=ex ns.length;obtain⟨n,av⟩:=ex ps.length;have cq:Hid (∀ h,zW w h->qW 79 #[.agg #[.slice J m K,.string kb,.int .i64 per,.slice I r H]] h .nilIface):=fun h z=>by
  have cm:Ea cs (kindOf kb.toList) per ns 0 (-1):=by
   rw[ar];exact .inr (.inr ⟨D.len,D.curves,rfl,.inr ⟨D.kind.1,D.kind.2,.inr ⟨D.per.1,D.per.2,0,D.nums,rfl⟩⟩⟩)
  have:=EY J K cs kb per I H ns h ai 0 (-1) (aE.below z) (aS.below z) cm;rw[a1,aN]at this;refine this.mono ?_
  rintro e w' ⟨bh,rfl,N,O⟩;rw[N.none_ rfl];exact⟨rfl,O⟩
 have ct:Hid (∀ h,zW w h->qW 96 #[.slice W n ac] h .nilIface):=fun h z=>by
  have:=JO W ac ps h (a3.pks.below z) aw;rwa[av]at this
 have ce:Hid (∀ h,zW w h->Calls Tryz.prog 105 #[.slice J m K,.slice W n ac] h fun e w'=>EM cs ps ai h e w'):=fun h z=>by
  have:=Ua J K cs W ac ps h ai (aE.below z) (aS.curves.below z) D.len D.curves (a3.below z) aw;rwa[a1,av]at this
 obtain⟨b,bg⟩:=ex (decide (k≠0));have cl:Hid (∀ h,Calls Tryz.prog 106 #[] h fun e w'=>Mi kb k b h e w'):=fun h=>QB kb k ar b bg h
 have bp:zW w (w.alloc (.cells #[.slice J m K,.string kb,.int .i64 per,.slice I r H] 78)):=ba;have bT:=Dk w (.slice J m K) kb per (.slice I r H) 78;have cb:=qX bT;have bk:=qX bp;have b6:=qX aE;have ci:=qX aS.nums;have U:=qZ D aw aN;have cn:Hid (Dm (Ae cs)):=fun f b7=>by
  obtain⟨ls,ao,-⟩:=Ab cs f (by rw[D.len];exact b7);rw[Cx ao];exact D.curves f ls b7 ao
 rw[a1,aN,av];clear aE aS a3 D aw ar a1 aN av bg bp bT;go_in
 go_wp2_with fail;refine(cq.o _ bk.o).mono ?_
 rintro e cx ⟨rfl,N⟩;have bm:=qX (bk.o.tr N);have cp:=qX (cb.o.later N);clear N;go_wp2_with fail;refine(ct.o _ bm.o).mono ?_
 rintro e cv ⟨rfl,O⟩;have a6:=qX (bm.o.tr O);have bw:=qX (cp.o.later O);have ca:=bw.o.c0;clear O;go_wp2_with fail;refine(ce.o _ a6.o).mono ?_
 rintro e Y ⟨an,⟨i,F,bv,b9,rfl,b0,bt⟩|⟨aB,aq,V,L,b',a8,bb,rfl,b2⟩⟩
 ·
  have ad:=qX (a6.o.tr an);have a5:Hid (Kz 4 i w (.returned (.tuple #[.slice none 0 0,.slice none 0 0,.iface 135 (.pointer (some ⟨F,0,none⟩))])) Y):=by
   refine⟨none,0,none,0,_,rfl,⟨?_,fun E=>absurd E (by decide),fun _=>⟨_,_,rfl⟩⟩,ad.o⟩;have:=Ip (b6.o.below ad.o) 3 (by omega) (i:Int) F b0 bt;simpa using this
  have a4:=qY bv b9;clear an bv b9 b0 bt ca;go_wp2_with fail
  (try simp only[Exit.inBlock,Exit.then])
  refine vB (results_tmp3 rfl _ _ _) rfl ?_
  refine⟨fun a9 N O=>?_,fun E=>absurd a4.o.1 (E i)⟩;obtain rfl:a9=i:=by
   rcases yN a9 i with E|E|E
   · exact absurd N (a4.o.2 a9 E)
   · exact E
   exact absurd a4.o.1 (O i E)
  exact a5.o
 have ad:=qX (a6.o.tr an);have Z:=qX (bw.o.later an);have be:=qZ b' a8 bb;have co:=qX (a8.ok U.o.2.1 cn.o bb);have b4:=qX b2;obtain⟨q,a2⟩:=ex ((Aj ps V L).length);have bN:=qX a2;rw[a2];have cj:=Z.o.c1;have ch:=Z.o.c2;have cd:=Z.o.c3;have a7:Hid (∀ h,zW Y h->h.cell? ⟨w.heap.size,1,none⟩=some (.string kb)/\h.cell? ⟨w.heap.size,2,none⟩=some (.int .i64 per)/\h.cell? ⟨w.heap.size,3,none⟩=some (.slice I r H)):=fun h z=>⟨j7 z Z.o.c1,j7 z Z.o.c2,j7 z Z.o.c3⟩
 have b1:Hid (zW Y Y.drew):=qL br 1;have cg:Hid (∀ F ab h,zW Y h->P8 h k F ab->Calls Tryz.prog F (#[.slice aB q aq,.int .i64 per,.slice I r H]++ab) h fun e w'=>GQ k per ns (Aj ps V L) 0 h e w'):=fun F ab h z aj=>by
  have bx:=ad.o.tr z;have:=aj.send aB aq (Aj ps V L) per I H ns h ai 0 br (b6.o.below bx) (b4.o.below z) (ci.o.below bx) co.o (.inr ⟨U.o.1.per.1,U.o.1.per.2,0,U.o.1.nums,rfl⟩);rwa[bN.o,U.o.2.2]at this
 clear an b' a8 bb b2 a2 ca;go_wp2_with fail;go_region_held3 (fun w'=>w'.cell? ⟨w.heap.size,1,none⟩=some (.string kb)/\w'.cell? ⟨w.heap.size,2,none⟩=some (.int .i64 per)/\w'.cell? ⟨w.heap.size,3,none⟩=some (.slice I r H))
  (first | exact bc | exact a7.o _ b1.o)
  (first
  | (go_at_call 106;refine(cl.o _).mono ?_;rintro e al ⟨M,cu,rfl,b3,ck,cy,cc⟩;have a0:Hid (zW Y al):=(by exact b1.o.tr b3);have bc:=a7.o al a0.o;obtain⟨F,ab,rfl,aj⟩:=cc U.o.1.kind.1;have cw:=aj.call;have cf:Hid (P8 al k F ab):=aj;clear b3 ck aj)
  | (refine (cg.o F ab al a0.o cf.o).mono ?_;rintro e ap ⟨bd,bl,a',bh,rfl,am,Q,b8⟩;have bc:=a7.o ap (a0.o.tr Q);have bj:Hid (Ba ap bh 0 (-1) /\ zW al ap /\ ∃ l,bl=l.length /\ Ji ap bd a' l /\ Cn k per (Aj ps V L) ns l):=⟨am,Q,b8 rfl⟩;clear am Q b8))
 all_goals
  obtain⟨am,Q,l,bs,b5,ao⟩:=bj.o;obtain rfl:=am.none_ rfl;have a5:Hid (Qd cs k per ns ps w (.returned (.tuple #[.slice aB q aq,.slice bd bl a',.nilIface])) ap):=by
   have bq:=a0.o.tr Q;refine⟨aB,aq,bd,a',Aj ps V L,l,by rw[bN.o,bs],b4.o.below bq,b5,⟨V,L,be.o.2.1,be.o.2.2,rfl,ao⟩,ad.o.tr bq⟩
  clear am Q bs b5 ao bj bc cj ch cd;go_wp2_with fail
  (try simp only[Exit.inBlock,Exit.then])
  refine vB (results_tmp3 rfl _ _ _) rfl ?_
  exact⟨fun i E _=>absurd E (be.o.1 i),fun _=>a5.o⟩
theorem Lv:ZN where
 check:=EY
 bad:=fun J E cs kb per H I ns N U ps w K c p Q W O z ab=>by
  rcases z with⟨z,-⟩|⟨h,z,-⟩|⟨h,Z,i,Y,ac,rfl,rfl⟩|⟨-,-,-,rfl,-⟩
  · exact Ur J _ E kb per H _ I N _ U w c p ab fun V D=>EY J E cs kb per H I ns V K c p (Q.below D) (W.below D) z
  · refine Wq J _ E kb per H _ I N _ U w c p ab (fun V D=>EY J E cs kb per H I ns V K 0 (-1) (Q.below D) (W.below D) ?_) (fun V D=>NU N U ps V K (Q.below D) (O.pks.below D) O.cap O.max c p z);exact .inr (.inr ⟨h.len,h.curves,rfl,.inr ⟨h.kind.1,h.kind.2,.inr ⟨h.per.1,h.per.2,0,h.nums,rfl⟩⟩⟩)
  · exact(MZ J E cs kb per H I ns N U ps w K Q W O h Z).mono fun _ _ z=>z.1 i Y ac
  omega
 good:=fun J E cs kb per H I ns N U ps w K Q W O h Z Y=>(MZ J E cs kb per H I ns N U ps w K Q W O h Z).mono fun _ _ z=>z.2 Y
def Nv (w:World)(b:Nat)(v0 v1 v2 v3:Value):World:=(((w.setCell ⟨b,0,none⟩ v0).setCell ⟨b,1,none⟩ v1).setCell ⟨b,2,none⟩ v2).setCell ⟨b,3,none⟩ v3
section
variable {w:World} {b:Nat} {v0 v1 v2 v3:Value}
theorem QM:But (fun k=>k=b) w (Nv w b v0 v1 v2 v3):=
 But.setCell (p:=⟨b,3,none⟩) (But.setCell (p:=⟨b,2,none⟩) (But.setCell (p:=⟨b,1,none⟩) (But.setCell (p:=⟨b,0,none⟩) (But.refl (fun k=>k=b) w) rfl _) rfl _) rfl _) rfl _
theorem OA (i:Nat):(Nv w b v0 v1 v2 v3).frozen? ⟨b,i,none⟩=w.frozen? ⟨b,i,none⟩:=by
 unfold Nv;rw[qK,qK,qK,qK]
theorem Pv {u0 u1 u2 u3 u4:Value}(z:w.cell? ⟨b,0,none⟩=some u0)(I:w.cell? ⟨b,1,none⟩=some u1)(D:w.cell? ⟨b,2,none⟩=some u2)(H:w.cell? ⟨b,3,none⟩=some u3)(J:w.cell? ⟨b,4,none⟩=some u4)(i:Nat)(N:i<5):(Nv w b v0 v1 v2 v3).cell? ⟨b,i,none⟩=(#[v0,v1,v2,v3,u4]:Array Value)[i]?:=by
 have e:∀(h:World)(j k:Nat)(v:Value),j≠k->(h.setCell ⟨b,j,none⟩ v).cell? ⟨b,k,none⟩=h.cell? ⟨b,k,none⟩:=fun h j k v K=>j9 _ _ _ _ (by intro E;cases E;exact K rfl)
 unfold Nv
 match i,N with
 | 0,_=>
  rw[e _ 3 0 _ (by decide),e _ 2 0 _ (by decide),e _ 1 0 _ (by decide)];exact qT _ _ _ (by rw[z];rfl)
 | 1,_=>
  rw[e _ 3 1 _ (by decide),e _ 2 1 _ (by decide)];exact qT _ _ _ (by rw[e _ 0 1 _ (by decide),I];rfl)
 | 2,_=>
  rw[e _ 3 2 _ (by decide)];exact qT _ _ _ (by rw[e _ 1 2 _ (by decide),e _ 0 2 _ (by decide),D];rfl)
 | 3,_=>exact qT _ _ _ (by rw[e _ 2 3 _ (by decide),e _ 1 3 _ (by decide),e _ 0 3 _ (by decide),H];rfl)
 | 4,_=>
  rw[e _ 3 4 _ (by decide),e _ 2 4 _ (by decide),e _ 1 4 _ (by decide),e _ 0 4 _ (by decide),J];rfl
end
theorem Il {s:Scr}(h:Bq s){ns:List Int}(D:ns.length<=30):jf s.cs ns:=by
 refine⟨by rw[h.gate.len];decide,D,fun i ls z=>?_⟩;rcases h.gate.curves i ls (by have:=Af z;rw[h.gate.len]at this;exact this) z with rfl|hk
 · simp
 have:=hk.2.1;omega
section
variable (w0:World) (ad:Nat → Addr) (N g cb:Nat) (hS:Site w0 ad N g cb) (s:Scr) (w:World) (hw:Below w0.heap.size w0 w) (hp:AU w N g cb s) (ho:Bq s)
theorem Sa (w0:World)(N:Nat->Addr)(I g h:Nat)(a7:Site w0 N I g h)(s:Scr)(w:World)(a6:zW w0 w)(bj:AU w I g h s)(V:Bq s)(kb:List UInt8)(per:Int)(z:oA)(D:Nat)(ns:List Int)(a0:AR w z ns)(aE:ns.length<=D)(aS:D<=maxLen)(a1:z=none->ns=[]/\D=0)(am:∀ N,z=some N->I<=N.block/\N.block<w.heap.size/\∀ aq ap W,CF w I g h aq ap W s->W.ownBlock≠some N.block)(a5:ns.length<=30)
  (c p:Int) (a2:Ea s.cs (kindOf kb) per ns c p) :
  Calls Tryz.prog 92 #[.pointer (some ⟨g,0,none⟩),.agg #[.slice (some ⟨h,0,none⟩) 8 8,Ad kb,.int .i64 per,.slice z ns.length D]] w fun e w'=>BK I g h s { s with kb:=kb,per:=per,ns:=ns } c w e w':=by
 have a9:=a7.env.below a6;obtain⟨aq,ap,W,ac⟩:=bj;have Q:zW w (w.alloc (.cells #[.slice (some ⟨h,0,none⟩) 8 8,Ad kb,.int .i64 per,.slice z ns.length D] 78)):=ba;have aB:=Dk w (.slice (some ⟨h,0,none⟩) 8 8) ⟨kb.toArray⟩ per (.slice z ns.length D) 78;obtain⟨O,ar⟩:=ex (w.alloc (.cells #[.slice (some ⟨h,0,none⟩) 8 8,Ad kb,.int .i64 per,.slice z ns.length D] 78));rw[ar]at Q aB;have ao:Hid (Calls Tryz.prog 79 #[.agg #[.slice (some ⟨h,0,none⟩) 8 8,Ad kb,.int .i64 per,.slice z ns.length D]] O fun e w'=>∃ J,e=.returned J/\Ba w' J c p/\zW O w'):=by
  have aN:=ac.gate V.gate.len (Il V (ns:=s.ns) (by rcases V.gate.nums.len with a3|a3;rw[a3.2];decide;omega));have bk:DT O (some ⟨h,0,none⟩) 8 s.cs z D ns:=⟨aN.curves.below Q,aN.cfit,aN.cmax,a0.below Q,aE,aS,a1,Il V a5⟩
  have:=Lv.check (some ⟨h,0,none⟩) 8 s.cs ⟨kb.toArray⟩ per z D ns O N c p (a9.below Q).errs bk (by rw[ByteArray.toList_mk];exact a2);rw[V.gate.len]at this;exact this
 have Z:Hid (∀ E,zW O E->CS E w.heap.size (.slice (some ⟨h,0,none⟩) 8 8) ⟨kb.toArray⟩ per (.slice z ns.length D)/\(∀ i,i<4->∃ u,E.cell? ⟨g,i,none⟩=some u)/\(∀ i,E.frozen? ⟨g,i,none⟩=false)/\(c=0->BK I g h s { s with kb:=kb,per:=per,ns:=ns } c w (.returned .nilIface) (Nv E g (.slice (some ⟨h,0,none⟩) 8 8) (Ad kb) (.int .i64 per) (.slice z ns.length D)))):=fun E an=>by
  have aj:=Q.tr an;have H:=ac.below aj;refine⟨aB.later an,fun i a'=>?_,H.fg,fun aw=>?_⟩
  ·
   match i,a' with
   | 0,_=>exact⟨_,H.c0⟩
   | 1,_=>exact⟨_,H.c1⟩
   | 2,_=>exact⟨_,H.c2⟩
   | 3,_=>exact⟨_,H.c3⟩
  obtain⟨bg,bb⟩:=H.setGate kb per (a0.below aj) aE aS a1 (fun a e=>⟨(am a e).1,qD (am a e).2.1 aj.size,(am a e).2.2 _ _ _ ac⟩) (QM (w:=E) (b:=g) (v0:=.slice (some ⟨h,0,none⟩) 8 8) (v1:=Ad kb) (v2:=.int .i64 per) (v3:=.slice z ns.length D)) (Pv H.c0 H.c1 H.c2 H.c3 H.c4) (fun i=>by rw[OA];exact H.fg i);subst aw;exact⟨.nilIface,-1,rfl,DK _,(But.ofBelow aj).trans bb,.inl ⟨rfl,z,D,W,bg⟩⟩
 have av:Hid (∀ E J,zW O E->Ba E J c p->c≠0->BK I g h s { s with kb:=kb,per:=per,ns:=ns } c w (.returned J) E):=fun E J an K aw=>FN ⟨aq,ap,W,ac⟩ (Q.tr an) K aw
 obtain⟨r,a4⟩:=ex ns.length;rw[a4]at ao Z ar ⊢;obtain⟨be,bc,bd,bh⟩:=(Z.o O br).1;clear a0 aE aS a1 am a5 a2 a9 ac Q aB a4 a6 V a7;go_in
 go_wp2_with fail;refine ao.o.mono ?_
 rintro e al ⟨J,rfl,K,ad⟩;clear be bc bd bh;by_cases U:c=0
 ·
  obtain rfl:=K.none_ U;obtain⟨⟨bq,bt,bl,bT⟩,ab,Y,a8⟩:=Z.o al ad;obtain⟨u0,bw⟩:=ab 0 (by decide);obtain⟨u1,bs⟩:=ab 1 (by decide);obtain⟨u2,b1⟩:=ab 2 (by decide);obtain⟨u3,bN⟩:=ab 3 (by decide);have b0:=Y 0;have bm:=Y 1;have bv:=Y 2;have bx:=Y 3;have ai:=(show Hid (BK I g h s { s with kb:=kb,per:=per,ns:=ns } c w (.returned .nilIface) (Nv al g (.slice (some ⟨h,0,none⟩) 8 8) (Ad kb) (.int .i64 per) (.slice z r D)))from a8 U)
  unfold Nv at ai;clear K ad ab Y a8 U Z ar ao av;go_wp2
  go_ret;exact ai.o
 have ai:=(show Hid (BK I g h s { s with kb:=kb,per:=per,ns:=ns } c w (.returned J) al)from av.o al J ad K U)
 obtain⟨bp,v,rfl⟩:=K.some_ U;clear K ad U Z ao av;go_wp2
 go_ret;exact ai.o
theorem Zg {w H:World}{z g J:Nat}{s:Scr}(O:AU w z g J s)(K:zW w H){b:Nat}(N:w.heap.size<=b):z<=b/\∀ E I h,CF H z g J E I h s->h.ownBlock≠some b:=by
 obtain⟨W,V,h,D⟩:=O;refine⟨qI D.wN N,fun E I U Q e=>?_⟩;have:h=U:=Option.some.inj ((j7 K D.c4).symm.trans Q.c4);subst this;have:=(Aq D.pks e).2;omega
theorem Rn (w0:World)(I:Nat->Addr)(D g z:Nat)(an:Site w0 I D g z)(s:Scr)(w:World)(al:zW w0 w)(ao:AU w D g z s)(a2:Bq s)(ai:Nat)(ws:List (List UInt8))(aq:CO w (some ⟨ai,0,none⟩) ws)(av:Fb ws)(c:Int)(s1:Scr)(ap:JL s ws c s1):Calls Tryz.prog 72 #[.pointer (some ⟨g,0,none⟩),.slice (some ⟨ai,0,none⟩) ws.length ws.length] w fun e w'=>BK D g z s s1 c w e w':=by
 have Z:=an.env.below al;have aE:Hid (Calls Tryz.prog 94 #[.slice (some ⟨ai,0,none⟩) ws.length ws.length] w fun e w'=>Js (I 0) (Ev ws) w e w'):=I1 _ _ ws w (I 0) Z.errs.c0 aq av;have aN:Hid (∀ E,zW w E->c=1->BK D g z s s1 c w (.returned (.iface 308 (.pointer (some (I 0))))) E):=fun E O a8=>by
  subst a8;exact FN ao O (Bo (Z.below O).errs 0 (by decide)) (by decide)
 obtain⟨n,am⟩:=ex ws.length;have J:=qY ap am;have bl:=Z.errs.c0;have N:=qV an al ao a2;rw[am]at aE ⊢;clear aq av am Z ap an al ao a2;by_cases ac:n=8
 ·
  subst ac;go_in
  go_wp2_with fail;refine aE.o.mono ?_
  rintro e aj ⟨V,⟨H,rfl⟩|⟨ns,G,H,rfl,aw,a3,ar⟩⟩
  ·
   have Q:Hid (BK D g z s s1 c w (.returned (.iface 308 (.pointer (some (I 0))))) aj):=by
    refine aN.o aj V ?_
    obtain⟨h,-⟩|⟨-,⟨-,h,-⟩|⟨ns,p,h,-⟩⟩:=J.o.1
    · exact absurd J.o.2 h
    · exact h
    rw[H]at h;cases h
   clear H V;go_wp2
   go_ret;exact Q.o
  obtain⟨p,hs1,a0⟩:∃ p,s1={ s with ns:=ns }/\Ea s.cs (kindOf s.kb) s.per ns c p:=by
   obtain⟨h,-⟩|⟨-,⟨h,-⟩|⟨bp,p,h,bd,a'⟩⟩:=J.o.1
   · exact absurd J.o.2 h
   · rw[H]at h;cases h
   rw[H]at h;obtain rfl:=Option.some.inj h;exact⟨p,bd,a'⟩
  have ab:ns.length=8:=by rw[EZ H,J.o.2]
  obtain⟨bg,be,bh,a5⟩:=N.o.2.2.1;have U:=a5.below V;have bk:=U.c0;have a6:=U.c1;have a9:=U.c2;have bc:=U.c3;have ad:Hid (∀ E,zW aj E->Calls Tryz.prog 92 #[.pointer (some ⟨g,0,none⟩),.agg #[.slice (some ⟨z,0,none⟩) 8 8,Ad s.kb,.int .i64 s.per,.slice (some ⟨G,0,none⟩) 8 8]] E fun e w'=>∃ K,e=.returned K/\BK D g z s s1 c w (.returned K) w'):=fun E O=>by
   have Y:=V.tr O;have aS:=Zg N.o.2.2.1 Y (b:=G) aw;have:=Sa w0 I D g z N.o.1 s E (N.o.2.1.tr Y) (N.o.2.2.1.below Y) N.o.2.2.2 s.kb s.per (some ⟨G,0,none⟩) 8 ns (ar.below O) (by omega) (by simp[maxLen]) (fun e=>by cases e) (fun a e=>by cases e;exact⟨aS.1,qD a3 O.size,aS.2⟩) (by omega) c p a0;rw[ab]at this;refine this.mono ?_
   rintro e w' ⟨K,q,rfl,W,a7,bb⟩;refine⟨K,rfl,K,q,rfl,W,(But.ofBelow Y).trans a7,?_⟩;rw[hs1];exact bb
  rw[ab];obtain⟨kb,a4⟩:=ex s.kb;obtain⟨per,a1⟩:=ex s.per;obtain⟨r,aB⟩:=ex s.ns.length;rw[a4]at a6 ad;rw[a1]at a9 ad;rw[aB]at bc;clear H V aw a3 ar hs1 a0 ab a5 U a4 a1 aB;go_wp2_with fail;refine(ad.o _ ?_).mono ?_
  · exact ba
  rintro e bj ⟨K,rfl,W⟩;have Q:=qX W;clear W;go_wp2
  go_ret;exact Q.o
 have bm:((n:Int)==8)=false:=by simp;omega
 have Q:Hid (BK D g z s s1 c w (.returned (.iface 308 (.pointer (some (I 0))))) w):=by
  refine aN.o w br ?_
  obtain⟨-,h,-⟩|⟨h,-⟩:=J.o.1
  · exact h
  exact absurd (J.o.2.symm.trans h) ac
 clear ac;go_in
 go_wp2
 go_ret;exact Q.o
end
open Go.Extern.Stop Go.Stop Go.Extern
theorem jB (a:Addr)(w:World):Calls Tryz.prog 93 #[.nilIface,.iface 308 (.pointer (some a))] w fun e w'=>e=.returned (.bool false)/\w'=w:=by
 have h:(binOp .eql 34 .nilIface (.iface 308 (.pointer (some a)))).run Tryz.prog w=.ok (.bool false) w:=by kernel_rfl
 go_in
 go_wp2
 go_ret;exact⟨rfl,rfl⟩
theorem bP {w:World}{h:Nat->Addr}{U:Value}{c p:Int}(D:A8 w h)(Q:Ba w U c p)(aj:c=0\/known c):Calls Tryz.prog 93 #[U,.iface 308 (.pointer (some (h 8)))] w fun e w'=>e=.returned (.bool (decide (c=9)))/\w'=w:=by
 rcases aj with rfl|Y
 · rw[Q.none_ rfl];exact jB (h 8) w
 rcases Q.code with⟨-,al,-⟩|⟨an,am,k,ap,ao,ab⟩
 · subst al;rcases Y with J|J <;> omega
 have K:six k:=by unfold six;rcases Y with J|J <;> omega
 have E:=am.one D k K;obtain⟨V,ai,O⟩:=D.blk 8 (.inr rfl);by_cases W:k=8
 ·
  subst W;have I:decide (c=9)=true:=qM (by omega);rw[I];rcases ab with⟨rfl,-⟩|⟨H,rfl,-,z⟩
  · rw[E];exact iC (h 8) w
  rw[E]at z;exact Ro H (h 8) w z
 have I:decide (c=9)=false:=qF (by omega);rw[I];obtain⟨ad,N,Z⟩:=D.blk k K;have ac:=D.ne k 8 K (.inr rfl) W;rcases ab with⟨rfl,-⟩|⟨H,rfl,-,z⟩
 · rw[E];exact df (h k) (h 8) ad V N ai w ac Z O
 rw[E]at z;exact Qx H (h 8) (h k) ad V N ai w z ac Z O
def IU (k:List UInt8)(w:World)(e:Ending)(w':World):Prop:=
 ∃ h z,e=.returned (.slice h (Bh k).length z)/\AR w' h (Bh k)/\(Bh k).length<=z/\z<=maxLen/\(h=none->Bh k=[]/\z=0)/\(∀ a,h=some a->w.heap.size<=a.block/\a.block<w'.heap.size)/\zW w w'
theorem OV (k:List UInt8)(w:World):Calls Tryz.prog 91 #[Ad k] w fun e w'=>IU k w e w':=by
 have D:((⟨k.toArray⟩:ByteArray).toList==ByteArray.toList ⟨#[102,105,102,111]⟩)=decide (k=Gv):=by
  rw[ByteArray.toList_mk,JW];by_cases h:k=Gv
  · rw[qM h,h];decide
  rw[qF h];simpa[Gv]using h
 by_cases h:k=Gv
 ·
  have E:Hid (IU k w (.returned (.slice none 0 0)) w):=⟨none,0,by simp[Bh,h],.inl (by simp[Bh,h]),by simp[Bh,h],by simp[maxLen],(fun _=>⟨by simp[Bh,h],rfl⟩),(fun a e=>by cases e),br⟩
  rw[qM h]at D;clear h;obtain⟨z,J⟩:∃ z:ByteArray,⟨k.toArray⟩=z:=⟨_,rfl⟩
  show Calls Tryz.prog 91 #[.string ⟨k.toArray⟩] w fun e w'=>IU k w e w'
  rw[J]at D ⊢;have ac:(z.toList==[102,105,102,111])=true:=by rw[<- JW];exact D
  go_in
  go_wp2
  go_ret;exact E.o
 rw[qF h]at D;have H:Bh k=[1,1,1,1,1,1,1,1]:=by simp[Bh,h,jq]
 have K:zW w (w.alloc (.cells #[.int .i64 1] 3)):=ba;have ad:Hid (Calls Tryz.prog 116 #[.slice (some ⟨w.heap.size,0,none⟩) 1 1,.int .i64 8] (w.alloc (.cells #[.int .i64 1] 3)) fun e w'=>IU k w e w'):=by
  refine(VX w.heap.size _ (by simp)).mono ?_
  rintro e w' ⟨G,rfl,Y,O,W⟩;have ab:G<w'.heap.size:=by
   rcases O with I|⟨b,aj,I,ai,-⟩
   · cases I
   cases I;exact ai
  exact⟨some ⟨G,0,none⟩,8,by rw[H];rfl,by rw[H];exact O,by rw[H];decide,by simp[maxLen],(fun e=>by cases e),(fun a e=>by cases e;exact⟨qI K.size Y,ab⟩),K.tr W⟩
 clear h H K;obtain⟨z,J⟩:∃ z:ByteArray,⟨k.toArray⟩=z:=⟨_,rfl⟩
 show Calls Tryz.prog 91 #[.string ⟨k.toArray⟩] w fun e w'=>IU k w e w'
 rw[J]at D ⊢;have ac:(z.toList==[102,105,102,111])=false:=by rw[<- JW];exact D
 go_in
 go_wp2_with fail;refine ad.o.mono ?_
 rintro e Z h;obtain⟨N,Q,rfl,V⟩:=h;have E:Hid (IU k w (.returned (.slice N (Bh k).length Q)) Z):=⟨N,Q,rfl,V⟩
 clear V;obtain⟨r,U⟩:=ex ((Bh k).length);rw[U]at E ⊢;clear U;go_wp2
 go_ret;exact E.o
theorem Jh {ls:lI}{c p:Int}(h:Ch ls c p):c=0\/c=2\/c=3:=by
 rcases h with⟨-,h,-⟩|⟨-,-,j,-,-,-,h,-⟩|⟨-,h,-⟩
 · exact .inr (.inr h)
 · exact .inr (.inl h)
 exact .inl h
theorem Io {cs:List lI}{k:Nat}{per:Int}{ns:List Int}{d p:Int}(h:Ea cs k per ns d p):d=0\/known d:=by
 unfold known;rcases h with⟨-,h,-⟩|⟨-,i,⟨ls,q,-,-,D,-⟩,-⟩|⟨-,-,-,⟨-,h⟩|⟨-,-,⟨-,h⟩|⟨-,-,m,z,h⟩⟩⟩
 · omega
 · have:=Jh D;omega
 · omega
 · omega
 have:=z.few;omega
section
variable (w0:World) (ad:Nat → Addr) (N g cb:Nat) (hS:Site w0 ad N g cb) (s:Scr) (w:World) (hw:Below w0.heap.size w0 w) (hp:AU w N g cb s) (ho:Bq s)
theorem YJ (w0:World)(Q:Nat->Addr)(N g D:Nat)(K:Site w0 Q N g D)(s:Scr)(w:World)(bd:zW w0 w)(a3:AU w N g D s)(bv:Bq s)(O:Nat)(ws:List (List UInt8))(bm:CO w (some ⟨O,0,none⟩) ws)(bs:Fb ws)(c:Int)(s1:Scr)(ai:QL s ws c s1):Calls Tryz.prog 71 #[.pointer (some ⟨g,0,none⟩),.slice (some ⟨O,0,none⟩) ws.length ws.length] w fun e w'=>BK N g D s s1 c w e w':=by
 have ap:=K.env.below bd;have b8:Hid (∀ h,zW w h->c=1->BK N g D s s1 c w (.returned (.iface 308 (.pointer (some (Q 0))))) h):=fun h Y cE=>by
  subst cE;exact FN a3 Y (Bo (ap.below Y).errs 0 (by decide)) (by decide)
 have cp:=ap.errs.c0;have Z:Hid (Site w0 Q N g D/\zW w0 w/\AU w N g D s/\Bq s/\Env w Q):=⟨K,bd,a3,bv,ap⟩
 by_cases a0:ws.length=2
 ·
  obtain⟨k,y,rfl⟩:∃ k y,ws=[k,y]:=by
   match ws,a0 with
   | [k,y],_=>exact⟨k,y,rfl⟩
  obtain⟨ck,cC,bh⟩:w.cell? ⟨O,0,none⟩=some (Ad k)/\w.cell? ⟨O,1,none⟩=some (Ad y)/\O<w.heap.size:=by
   obtain⟨b,cP,e,bh,ai⟩:=bm.place (by simp);cases e
   exact⟨ai 0 k rfl,ai 1 y rfl,bh⟩
  have cc:Hid (Calls Tryz.prog 90 #[Ad y] w fun e w'=>CG (Q 0) (Fp y) w e w'):=GX ⟨y.toArray⟩ w (Q 0) ap.errs.c0 (by have:=bs.2 y (by simp);show y.toArray.size<=_;simp;omega);have bw:=qX ai;clear bm bs ai a0 K bd a3 bv ap;go_in
  go_wp2_with fail;refine cc.o.mono ?_
  rintro e E ⟨am,⟨W,rfl⟩|⟨per,W,rfl⟩⟩
  ·
   have ao:Hid (BK N g D s s1 c w (.returned (.iface 308 (.pointer (some (Q 0))))) E):=by
    refine b8.o E am ?_
    obtain⟨z,-⟩|⟨cy,cw,e,⟨-,z,-⟩|⟨per,z,-⟩⟩:=bw.o
    · exact absurd rfl z
    · exact z
    cases e
    rw[W]at z;cases z
   clear W am;go_wp2
   go_ret;exact ao.o
  obtain⟨hs1,d,p,cn,ab⟩:s1={ s with kb:=k,per:=per,ns:=Bh k }/\∃ d p,Ea s.cs (kindOf k) per (Bh k) d p/\((d=9/\c=1)\/(d≠9/\c=d)):=by
   obtain⟨z,-⟩|⟨cy,cw,e,⟨z,-⟩|⟨cN,z,cD,cL⟩⟩:=bw.o
   · exact absurd rfl z
   ·
    cases e
    rw[W]at z;cases z
   cases e
   rw[W]at z;obtain rfl:=Option.some.inj z;exact⟨cD,cL⟩
  obtain⟨aE,aw,cQ,ce⟩:=Z.o.2.2.1;have ar:=ce.below am;have cJ:=ar.c0;have ci:=ar.c1;have co:=ar.c2;have b':=ar.c3;have cb:=j7 am ck;obtain⟨av,cq⟩:=ex s.kb;obtain⟨aS,ch⟩:=ex s.per;obtain⟨r,cg⟩:=ex s.ns.length;rw[cq]at ci;rw[ch]at co;rw[cg]at b';have a2:Hid (zW w E/\O<E.heap.size):=⟨am,qD bh am.size⟩
  have bc:=qZ hs1 cn ab;clear W ce ar cq ch cg ck cC cp am hs1 cn ab bh cc bw;go_wp2_with fail;have ac:zW E (E.alloc (.cells #[.slice (some ⟨D,0,none⟩) 8 8,Ad av,.int .i64 aS,.slice aE r aw] 78)):=ba;have a':=Dk E (.slice (some ⟨D,0,none⟩) 8 8) ⟨av.toArray⟩ aS (.slice aE r aw) 78;have bb:∀ i,(E.alloc (.cells #[.slice (some ⟨D,0,none⟩) 8 8,Ad av,.int .i64 aS,.slice aE r aw] 78)).frozen? ⟨E.heap.size,i,none⟩=false:=fun i=>vQ E _ _ i
  obtain⟨V,bt⟩:=ex (E.alloc (.cells #[.slice (some ⟨D,0,none⟩) 8 8,Ad av,.int .i64 aS,.slice aE r aw] 78));rw[bt]at ac a' bb ⊢;have b7:E.heap.size<V.heap.size:=by rw[<- bt];simp
  obtain⟨X,aN⟩:=ex E.heap.size;have aj:Hid (E.heap.size=X/\O<X/\zW E V/\X<V.heap.size):=⟨aN,by rw[<- aN];exact a2.o.2,ac,by rw[<- aN];exact b7⟩
  rw[aN]at a' bb ⊢;have cl:Hid (∀ h,zW V h->CS h X (.slice (some ⟨D,0,none⟩) 8 8) ⟨av.toArray⟩ aS (.slice aE r aw)/\(∀ i,h.frozen? ⟨X,i,none⟩=false)):=fun h Y=>⟨a'.later Y,fun i=>by rw[Y.frozen (p:=⟨X,i,none⟩) aj.o.2.2.2];exact bb i⟩
  have b6:Hid (∀ h,zW V h->Calls Tryz.prog 91 #[Ad k] h fun e w'=>IU k h e w'):=fun h _=>OV k h
  have K:=j7 ac cb;have bx:Hid (∀ h,zW V h->h.cell? ⟨O,0,none⟩=some (Ad k)):=fun h Y=>j7 Y K
  have an:Hid (∀(h:World) i v,h.cell? ⟨O,0,none⟩=some (Ad k)->(h.setCell ⟨X,i,none⟩ v).cell? ⟨O,0,none⟩=some (Ad k)):=fun h i v Y=>by
   have:=aj.o.2.1;rw[j9 _ _ _ _ (fun e=>by injection e with e;omega)];exact Y
  have ad:Hid (zW V V.drew):=qL br 1;have K:=bx.o _ ad.o;clear ac a' bb bt aN b7 cJ ci co b' cb;go_region_held3 (fun w'=>w'.cell? ⟨O,0,none⟩=some (Ad k))
   (first | exact K | exact an.o _ _ _ K | exact an.o _ _ _ (an.o _ _ _ K) | exact an.o _ _ _ (an.o _ _ _ (an.o _ _ _ K)))
   (first
   | (go_at_call 91;refine (b6.o _ ad.o).mono ?_;rintro e J ⟨I,H,rfl,a7,a5,be,bj,al,a1⟩;have ct:Hid (AR J I (Bh k) /\ (Bh k).length <= H /\ H <= maxLen /\ (I=none -> Bh k=[] /\ H=0) /\ (∀ a,I=some a -> V.heap.size <= a.block /\ a.block < J.heap.size)):=⟨a7,a5,be,bj,(fun a e=>⟨qI (by simp) (al a e).1,(al a e).2⟩)⟩;have ad:Hid (zW V J):=ad.o.tr a1;have K:=bx.o _ ad.o;obtain ⟨⟨cu,cf,cd,b9⟩,bg⟩:=cl.o _ ad.o;have cv:=bg 1;have cx:=bg 2;have cF:=bg 3;obtain ⟨m,b4⟩:=ex ((Bh k).length);have ca:Hid ((Bh k).length=m):=b4;rw [b4];clear b4 a1 a7 a5 be bj al bg))
  have a9:zW E (((J.setCell ⟨X,1,none⟩ (Ad k)).setCell ⟨X,2,none⟩ (.int .i64 per)).setCell ⟨X,3,none⟩ (.slice I m H)):=by
   have a1:=aj.o.2.2.1.tr ad.o;have bT:E.heap.size<=X:=by rw[aj.o.1];exact lr
   exact En (En (En a1 bT _) bT _) bT _
  have U:But (fun b=>b=X) J (((J.setCell ⟨X,1,none⟩ (Ad k)).setCell ⟨X,2,none⟩ (.int .i64 per)).setCell ⟨X,3,none⟩ (.slice I m H)):=But.setCell (p:=⟨X,3,none⟩) (But.setCell (p:=⟨X,2,none⟩) (But.setCell (p:=⟨X,1,none⟩) (But.refl (fun b=>b=X) J) rfl _) rfl _) rfl _;have e:∀(h:World)(j k:Nat)(v:Value),j≠k->(h.setCell ⟨X,j,none⟩ v).cell? ⟨X,k,none⟩=h.cell? ⟨X,k,none⟩:=fun h j k v z=>j9 _ _ _ _ (by intro cG;cases cG;exact z rfl)
  have b3:(((J.setCell ⟨X,1,none⟩ (Ad k)).setCell ⟨X,2,none⟩ (.int .i64 per)).setCell ⟨X,3,none⟩ (.slice I m H)).cell? ⟨X,0,none⟩=some (.slice (some ⟨D,0,none⟩) 8 8):=by
   rw[e _ 3 0 _ (by decide),e _ 2 0 _ (by decide),e _ 1 0 _ (by decide)];exact cu
  have bN:(((J.setCell ⟨X,1,none⟩ (Ad k)).setCell ⟨X,2,none⟩ (.int .i64 per)).setCell ⟨X,3,none⟩ (.slice I m H)).cell? ⟨X,1,none⟩=some (Ad k):=by
   rw[e _ 3 1 _ (by decide),e _ 2 1 _ (by decide)];exact qT _ _ _ (by rw[cf];rfl)
  have bq:(((J.setCell ⟨X,1,none⟩ (Ad k)).setCell ⟨X,2,none⟩ (.int .i64 per)).setCell ⟨X,3,none⟩ (.slice I m H)).cell? ⟨X,2,none⟩=some (.int .i64 per):=by
   rw[e _ 3 2 _ (by decide)];exact qT _ _ _ (by rw[e _ 1 2 _ (by decide),cd];rfl)
  have bl:(((J.setCell ⟨X,1,none⟩ (Ad k)).setCell ⟨X,2,none⟩ (.int .i64 per)).setCell ⟨X,3,none⟩ (.slice I m H)).cell? ⟨X,3,none⟩=some (.slice I m H):=
   qT _ _ _ (by rw[e _ 2 3 _ (by decide),e _ 1 3 _ (by decide),b9];rfl)
  obtain⟨b0,bp⟩:=ex (((J.setCell ⟨X,1,none⟩ (Ad k)).setCell ⟨X,2,none⟩ (.int .i64 per)).setCell ⟨X,3,none⟩ (.slice I m H));rw[bp]at a9 U b3 bN bq bl;have cA:Hid (Calls Tryz.prog 92 #[.pointer (some ⟨g,0,none⟩),.agg #[.slice (some ⟨D,0,none⟩) 8 8,Ad k,.int .i64 per,.slice I m H]] b0 fun e w'=>BK N g D s s1 d b0 e w'):=by
   have ac:=a2.o.1.tr a9;obtain⟨a7,a5,be,bj,al⟩:=ct.o;have:=Sa w0 Q N g D Z.o.1 s b0 (Z.o.2.1.tr ac) (Z.o.2.2.1.below ac) Z.o.2.2.2.1 k per I H (Bh k) (Dw a7 U fun a a6=>by have:=(al a a6).1;have:=aj.o.2.2.2;show ¬ a.block=X;omega) a5 be bj (fun a a6=>by
    have cm:=Zg Z.o.2.2.1 ac (b:=a.block) (by have:=(al a a6).1;have:=aj.o.2.2.1.size;have:=a2.o.1.size;omega);exact ⟨cm.1,qD (al a a6).2 U.size,cm.2⟩) (by unfold Bh;split <;> decide) d p bc.o.2.1
   rw[ca.o]at this;rw[bc.o.1];exact this
  have b1:=qX (a2.o.1.tr a9);show Exit.then _ _ _ _ (((J.setCell ⟨X,1,none⟩ (Ad k)).setCell ⟨X,2,none⟩ (.int .i64 per)).setCell ⟨X,3,none⟩ (.slice I m H))
  rw[bp];clear a9 U e bp cu cf cd b9 cv cx cF K ad ct ca an bx cl b6 aj;go_wp2_with fail;refine cA.o.mono ?_
  rintro e cj ⟨b5,q,rfl,a4,U,bk⟩;have b2:=Z.o.1.later (Z.o.2.1.tr b1.o) U;have aq:=Z.o.1.env.below b2;have cM:=aq.errs.c8;have cp:=aq.errs.c0;have a8:=qX (bP aq.errs a4 (Io bc.o.2.1));rcases bc.o.2.2 with⟨aB,ab⟩|⟨aB,ab⟩
  ·
   have ao:Hid (BK N g D s s1 c w (.returned (.iface 308 (.pointer (some (Q 0))))) cj):=by
    rcases bk with⟨cR,-⟩|⟨-,z⟩
    · omega
    subst ab;exact⟨_,-1,rfl,Bo aq.errs 0 (by decide),(But.ofBelow b1.o).trans U,.inr ⟨by decide,z⟩⟩
   rw[qM aB]at a8;clear a4 U bk b2 aq aB ab b3 bN bq bl;go_wp2_with fail;refine a8.o.mono ?_
   rintro e cH ⟨rfl,rfl⟩;go_wp2
   go_ret;exact ao.o
  have ao:Hid (BK N g D s s1 c w (.returned b5) cj):=by
   rw[ab];exact⟨b5,q,rfl,a4,(But.ofBelow b1.o).trans U,bk⟩
  rw[qF aB]at a8;clear a4 U bk b2 aq aB ab b3 bN bq bl;go_wp2_with fail;refine a8.o.mono ?_
  rintro e cH ⟨rfl,rfl⟩;go_wp2
  go_ret;exact ao.o
 have cI:((ws.length:Int)==2)=false:=by simp;omega
 have ao:Hid (BK N g D s s1 c w (.returned (.iface 308 (.pointer (some (Q 0))))) w):=by
  refine b8.o w br ?_
  obtain⟨-,z,-⟩|⟨k,y,z,-⟩:=ai
  · exact z
  rw[z]at a0;exact absurd rfl a0
 obtain⟨n,W⟩:=ex ws.length;rw[W]at cI ⊢;clear a0 bm bs ai W K bd a3 bv ap;go_in
 go_wp2
 go_ret;exact ao.o
end
theorem Y1 {w w':World}{h:Nat}{ps:List Pk}{q:Pk}{D:Value}(E:h<=w.heap.size)(z:w'.ownsRow w.heap.size 50 3 D (ps.length+1) (BV ps++BV [q])):∃ g cap,D=.slice (some ⟨g,0,none⟩) (ps.length+1) cap/\w.heap.size<=g/\BD w' h (.slice (some ⟨g,0,none⟩) (ps.length+1) cap) (ps++[q]):=by
 obtain⟨g,cap,rfl,H,-⟩:=World.ownsRow.form z (by omega);refine⟨g,cap,rfl,H,?_⟩;unfold BD;rw[Fh,qJ];exact Bb z E
theorem NE {w w':World}{S:Nat->Prop}(h:w.grownBy w' none):But S w w':=⟨h.os,h.tape,h.output,h.size,fun k z _=>h.block k z (by simp)⟩
theorem Sb {z:Type}:∀(L:List z)(n:Nat)(a b c:z),n+3<=L.length->(((L.set n a).set (n+1) b).set (n+2) c).take (n+3)=L.take n++[a,b,c]
 | x::y::D::r,0,a,b,c,_=>by simp
 | x::r,n+1,a,b,c,h=>by
  have:=Sb r n a b c (by simp at h;omega);simp only[List.set_cons_succ,List.take_succ_cons,yL];rw[show n+2+1=n+3 by omega,this]
 | [],n,a,b,c,h=>by simp at h
 | [_],0,a,b,c,h=>by simp at h
 | [_,_],0,a,b,c,h=>by simp at h
theorem Sw {h:Type}:∀(L:List h)(n:Nat)(a b c:h),(((L.set n a).set (n+1) b).set (n+2) c).take n=L.take n
 | L,0,a,b,c=>by simp
 | [],n+1,a,b,c=>by simp
 | x::r,n+1,a,b,c=>by
  have:=Sw r n a b c;rw[List.set_cons_succ,List.set_cons_succ,show n+1+2=n+2+1 by omega,List.set_cons_succ,List.take_succ_cons,List.take_succ_cons,this]
theorem aP (w:World)(b i j k:Nat)(u v x:Value):But (fun m=>m=b) w (((w.setCell ⟨b,i,none⟩ u).setCell ⟨b,j,none⟩ v).setCell ⟨b,k,none⟩ x):=
 But.setCell (p:=⟨b,k,none⟩) (But.setCell (p:=⟨b,j,none⟩) (But.setCell (p:=⟨b,i,none⟩) (But.refl (fun m=>m=b) w) rfl _) rfl _) rfl _
theorem Re (q:Pk):BV [q]=[.int .i64 q.flow,.int .i64 q.size,.int .i64 q.tick]:=rfl
theorem PG (w:World)(I:Nat)(E:Value)(ps:List Pk)(q:Pk)(H:Addr)(c:Nat)(N:BD w I E ps)(ao:I<=w.heap.size)(a0:Aw w (some H) [q])(a9:ps.length<=1000):∃ g cap w',(Builtin.append_ #[42,42] 42 #[E,.slice (some H) 1 c]).run Tryz.prog w=.ok (.slice (some ⟨g,0,none⟩) (ps.length+1) cap) w'/\BD w' I (.slice (some ⟨g,0,none⟩) (ps.length+1) cap) (ps++[q])/\BD w' I E ps/\But (fun k=>E.ownBlock=some k) w w'/\(E.ownBlock=some g\/w.heap.size<=g):=by
 obtain⟨K,Q,ai,D,an⟩:=vL Tryz.infoPkt;have W:=Mw a0;have aj:=Kn [q];have a3:=N;obtain⟨aE,⟨rfl,aB⟩|⟨b,cap,z,rfl,ac,V,ar,am,Z,aq⟩⟩:=a3
 · have e:ps=[]:=qN.1 aB;subst e;obtain⟨a6,w',h,U,J,-⟩:=run_append_own (P:=Tryz.prog) w w.heap.size 42 42 50 K _ 3 24 Tryz.underlying42 Q ai D an rfl (by decide) (.slice none 0 0) 0 [] (qQ w _ _ _) H 1 c (BV [q]) rfl W aj (by simp[maxLen]) (by decide) lr;obtain⟨g,cap,rfl,O,Y⟩:=Y1 (ps:=[]) ao U;exact⟨g,cap,w',h,Y,qQ _ _ _ _,NE J,.inr O⟩
 by_cases ad:ps.length+1<=cap
 ·
  have a8:(BV [q]).length=3:=rfl;have a2:∀ j,j<3->(w.cell? ⟨b,0+ps.length*3+j,none⟩).isSome=true:=fun j aN=>by
   rw[cell_of_row w b _ z 50 (0,0) V,xX (by rw[Z];omega)];rfl
  have h:=run_append_room_cells (P:=Tryz.prog) w 42 42 50 K Tryz.underlying42 Q b 0 ps.length cap H 1 c (BV [q]) (by rw[D];rfl) W aj ad (fun j aN=>by rw[D];exact a2 j (by omega)) (fun j _=>frozen_of_row w b _ z 50 V);rw[D]at h;have a4:w.setCells b (0+ps.length*3) (BV [q])=((w.setCell ⟨b,0+ps.length*3,none⟩ (.int .i64 q.flow)).setCell ⟨b,0+ps.length*3+1,none⟩ (.int .i64 q.size)).setCell ⟨b,0+ps.length*3+2,none⟩ (.int .i64 q.tick):=rfl;rw[a4]at h;have a7:=aP w b (0+ps.length*3) (0+ps.length*3+1) (0+ps.length*3+2) (.int .i64 q.flow) (.int .i64 q.size) (.int .i64 q.tick);have av:ps.length*3+3<=z.toList.length:=by
   have:z.toList.length=z.size:=by simp
   omega
  have a5:=heap_setCell_same w b (0+ps.length*3) z 50 (.int .i64 q.flow) V;have aw:=heap_setCell_same _ b (0+ps.length*3+1) _ 50 (.int .i64 q.size) a5;have al:=heap_setCell_same _ b (0+ps.length*3+2) _ 50 (.int .i64 q.tick) aw;refine⟨b,cap,_,h,⟨?_,.inr ⟨b,cap,_,?_,ac,al,?_,am,by simpa using Z,?_⟩⟩,⟨aE,.inr ⟨b,cap,_,rfl,ac,al,ar,am,by simpa using Z,?_⟩⟩,a7.mono (fun k a1=>by rw[a1];rfl),.inl rfl⟩
  · rw[GZ]
  · rw[qJ];rfl
  · rw[qJ];exact ad
  · rw[yO,yO,yO,Fh,Re,qJ,vC,show(ps.length + [q].length)*3=ps.length*3+3 by simp;omega,Sb _ _ _ _ _ av,aq]
  rw[yO,yO,yO,vC,Sw,aq]
 obtain ⟨a6,w',h,U,J⟩:=run_append_arg_grows (P:=Tryz.prog) w 42 42 50 K _ 3 24 Tryz.underlying42 Q ai D an rfl (by decide) ⟨b,0,none⟩ ps.length cap (BV ps) (GZ ps) (fun j u ap=>by
  have ab:=(vK.1 ap).1;rw[GZ]at ab;rw[Addr.add_lit,vC,World.ownsRow.cellAt N j ab];exact ap) H 1 c (BV [q]) rfl W (by omega) (by unfold maxLen;omega) (by omega)
 obtain⟨g,aS,rfl,O,Y⟩:=Y1 ao U;exact⟨g,aS,w',h,Y,C9 (S:=fun _=>False) N (NE J) (fun _ _=>id),NE J,.inr O⟩
end Go.Proofs.YtejlihcdfffafaaGreatDoor
