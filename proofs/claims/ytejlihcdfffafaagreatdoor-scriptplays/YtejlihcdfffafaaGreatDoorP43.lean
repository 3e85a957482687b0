import Derived.Test.YtejlihcdfffafaaGreatDoorP42
set_option maxHeartbeats 8000000
set_option maxRecDepth 100000
namespace Go.Proofs.YtejlihcdfffafaaGreatDoor
open Go.RowKit
def BG (R:Int->List UInt8->Scr->Prop)(z:Nat->Prop)(g h:Nat)(s:Scr)(w:World)(e:Ending)(w':World):Prop:=
 ∃ c o s1,R c o s1/\0<=c/\e=.returned (Ad (if c=0 then o else AV c))/\But (JY g h) w w'/\((c=0/\Dc w' z g h s1)\/(c≠0/\Dc w' z g h s))
theorem Mr {R:Int->List UInt8->Scr->Prop}{z:Nat->Prop}{g E:Nat}{s s1:Scr}{c:Int}{w D:World}{e:Ending}{w':World}(J:R c AP s1)(I:0<=c)(H:Below w.heap.size w D)(h:Fz z g E s s1 c D e w'):BG R z g E s w e w':=
 ⟨c,AP,s1,J,I,h.1,(But.ofBelow H).trans h.2.1,h.2.2⟩
theorem Pq {R:Int->List UInt8->Scr->Prop}{S:Int->Int->Prop}{H:Nat->Prop}{g I:Nat}{s:Scr}{w E:World}{e:Ending}{w':World}(Q:∀ c n,S c n->R c (Go.Lib.itoa n) s)(z:Dc w H g I s)(J:Below w.heap.size w E)(V:EB S E e w'):BG R H g I s w e w':=by
 obtain⟨c,n,O,K,N,U⟩:=V;have h:=J.tr U;refine⟨c,Go.Lib.itoa n,s,Q c n O,K,N,.ofBelow h,?_⟩;by_cases D:c=0
 · exact .inl ⟨D,z.below h⟩
 exact .inr ⟨D,z.below h⟩
theorem Li (w:World)(a b c:Value)(t:TypeId):Below w.heap.size w (w.alloc (.cells #[a,b,c] t))/\(w.alloc (.cells #[a,b,c] t)).cell? ⟨w.heap.size,0,none⟩=some a/\(w.alloc (.cells #[a,b,c] t)).cell? ⟨w.heap.size,1,none⟩=some b/\(w.alloc (.cells #[a,b,c] t)).cell? ⟨w.heap.size,2,none⟩=some c:=
 ⟨ba,by rw[qO _ _ _ _ rfl];rfl,by rw[qO _ _ _ _ rfl];rfl,by rw[qO _ _ _ _ rfl];rfl⟩
theorem bY (E:Nat->Prop)(g z:Nat)(s:Scr)(w:World)(al:Bq s)(an:Dc w E g z s)(U:List UInt8)(H:oA)(J:Nat)(nm:List Int)(N:GV w H J nm)(am:nm.length<=20)(V:nm.length%2=1)(Q:∀ n∈nm,0<=n/\n<=9999999)(ar:∀ f,nm[0]? = some f->f<=9):Calls Tryz.prog 7 #[.pointer (some ⟨g,0,none⟩),.agg #[Ad BF,Ad U,.slice H nm.length J]] w fun e w'=>BG (fun c o s1=>Bp s BF (nm.map Go.Lib.itoa) c o s1) E g z s w e w':=by
 obtain⟨f,ns,rfl⟩:∃ f ns,nm=f::ns:=by
  cases nm with
  | nil=>simp at V
  | cons f ns=>exact⟨f,ns,rfl⟩
 obtain⟨D,W⟩:∃ D:ByteArray,⟨BF.toArray⟩=D:=⟨_,rfl⟩
 obtain⟨K,ac⟩:∃ K:ByteArray,⟨U.toArray⟩=K:=⟨_,rfl⟩
 have ap:Ad BF=.string D:=by rw[<- W]
 have aq:Ad U=.string K:=by rw[<- ac]
 obtain⟨ab,Z⟩:=ex ((f::ns).length);obtain⟨B,I⟩:=ex w.heap.size;obtain⟨h,v0,v1,v2⟩:=Li w (.string D) (.string K) (.slice H ab J) 29;obtain⟨ai,av⟩:=ex (w.alloc (.cells #[.string D,.string K,.slice H ab J] 29));rw[av]at h v0 v1 v2;rw[I]at v0 v1 v2 h;have a1:=qX I;rw[ap,aq,Z];obtain⟨aS,u0⟩:=Ao BF BF D W true (by decide);unfold BF at aS u0;obtain⟨c,s1,ad,aj,Y⟩:=VQ E g z s ai al (an.below (by subst I;exact h)) f ns H J (N.1.below (by subst I;exact h)) (by simp at V;omega) (by simp at am;omega) ⟨(Q f (by simp)).1,ar f rfl⟩ (fun n N=>Q n (qG _ N));have ao:ns.length+1=ab:=by rw[<- Z];simp
 rw[ao]at Y;have aN:=qX Y;have aB:Hid (∀ e w',Fz E g z s s1 c ai e w'->BG (fun c o s1=>Bp s BF ((f::ns).map Go.Lib.itoa) c o s1) E g z s w e w'):=fun e w' aw=>Mr (s1:=s1) (.inl ⟨rfl,ad,fun _=>rfl⟩) aj (I ▸ h) aw
 clear ad aj Y ao h Z al an N V Q ar am ap aq W ac;go_in
 go_wp2_with fail;refine aN.o.mono ?_
 rintro e aE O;obtain⟨t,rfl⟩:∃ t,e=.returned (Ad t):=⟨_,O.1⟩
 have a0:=(show Hid (BG (fun c o s1=>Bp s BF ((f::ns).map Go.Lib.itoa) c o s1) E g z s w (.returned (Ad t)) aE)from aB.o _ _ O)
 clear O;go_wp2
 go_ret;exact a0.o
theorem aU (J:Nat->Prop)(g H:Nat)(s:Scr)(w:World)(Y:Nat->Addr)(ai:A8 w Y)(ab:Bq s)(V:Dc w J g H s)(U:List UInt8)(K:oA)(N:Nat)(nm:List Int):Calls Tryz.prog 7 #[.pointer (some ⟨g,0,none⟩),.agg #[Ad Cv,Ad U,.slice K nm.length N]] w fun e w'=>BG (fun c o s1=>Alone s Cv c o s1) J g H s w e w':=by
 obtain⟨h,z⟩:∃ h:ByteArray,⟨Cv.toArray⟩=h:=⟨_,rfl⟩
 obtain⟨I,W⟩:∃ I:ByteArray,⟨U.toArray⟩=I:=⟨_,rfl⟩
 have ac:Ad Cv=.string h:=by rw[<- z]
 have aj:Ad U=.string I:=by rw[<- W]
 obtain⟨al,ad⟩:=ex nm.length;obtain⟨B,E⟩:=ex w.heap.size;obtain⟨D,v0,v1,v2⟩:=Li w (.string h) (.string I) (.slice K al N) 29;obtain⟨Z,ao⟩:=ex (w.alloc (.cells #[.string h,.string I,.slice K al N] 29));rw[ao]at D v0 v1 v2;rw[E]at v0 v1 v2 D;have a1:=qX E;rw[ac,aj,ad];obtain⟨aS,u0⟩:=Ao Cv BF h z false (by decide);unfold BF at aS u0;obtain⟨ap,u1⟩:=Ao Cv Cu h z false (by decide);unfold Cu at ap u1;obtain⟨aN,u2⟩:=Ao Cv Br h z false (by decide);unfold Br at aN u2;obtain⟨an,u3⟩:=Ao Cv Bd h z false (by decide);unfold Bd at an u3;obtain⟨am,u4⟩:=Ao Cv atW h z false (by decide);unfold atW at am u4;obtain⟨ar,u5⟩:=Ao Cv CQ h z false (by decide);unfold CQ at ar u5;obtain⟨aw,u6⟩:=Ao Cv Cv h z true (by decide);unfold Cv at aw u6;have aE:=qX (UV J g H s Z Y (ai.below (by subst E;exact D)) ab (V.below (by subst E;exact D)));have aq:Hid (∀ e w',EB (CL s) Z e w'->BG (fun c o s1=>Alone s Cv c o s1) J g H s w e w'):=fun e w' O=>Pq (fun c n aB=>.inr (.inr (.inl ⟨rfl,rfl,n,aB,fun _=>rfl⟩))) V (E ▸ D) O
 clear D ad ab V ac aj z W ai;go_in
 go_wp2_with fail;refine aE.o.mono ?_
 rintro e av Q;obtain⟨t,rfl⟩:∃ t,e=.returned (Ad t):=by obtain⟨c,n,-,-,O,-⟩:=Q;exact⟨_,O⟩
 have a0:=(show Hid (BG (fun c o s1=>Alone s Cv c o s1) J g H s w (.returned (Ad t)) av)from aq.o _ _ Q)
 clear Q;go_wp2
 go_ret;exact a0.o
theorem aG (Q:Nat->Prop)(g N:Nat)(s:Scr)(w:World)(aB:Dc w Q g N s)(O:List UInt8)(J:oA)(K:Nat)(nm:List Int):Calls Tryz.prog 7 #[.pointer (some ⟨g,0,none⟩),.agg #[Ad CQ,Ad O,.slice J nm.length K]] w fun e w'=>BG (fun c o s1=>Alone s CQ c o s1) Q g N s w e w':=by
 obtain⟨h,z⟩:∃ h:ByteArray,⟨CQ.toArray⟩=h:=⟨_,rfl⟩
 obtain⟨E,U⟩:∃ E:ByteArray,⟨O.toArray⟩=E:=⟨_,rfl⟩
 have ab:Ad CQ=.string h:=by rw[<- z]
 have ai:Ad O=.string E:=by rw[<- U]
 obtain⟨aj,ad⟩:=ex nm.length;obtain⟨B,H⟩:=ex w.heap.size;obtain⟨D,v0,v1,v2⟩:=Li w (.string h) (.string E) (.slice J aj K) 29;obtain⟨ar,an⟩:=ex (w.alloc (.cells #[.string h,.string E,.slice J aj K] 29));rw[an]at D v0 v1 v2;rw[H]at v0 v1 v2 D;have aS:=qX H;rw[ab,ai,ad];obtain⟨aN,u0⟩:=Ao CQ BF h z false (by decide);unfold BF at aN u0;obtain⟨ao,u1⟩:=Ao CQ Cu h z false (by decide);unfold Cu at ao u1;obtain⟨aE,u2⟩:=Ao CQ Br h z false (by decide);unfold Br at aE u2;obtain⟨am,u3⟩:=Ao CQ Bd h z false (by decide);unfold Bd at am u3;obtain⟨al,u4⟩:=Ao CQ atW h z false (by decide);unfold atW at al u4;obtain⟨av,u5⟩:=Ao CQ CQ h z true (by decide);unfold CQ at av u5;obtain⟨a1,a4,aq,aw,ac⟩:=aB;have I:=ac.below (by subst H;exact D);obtain⟨Z,W⟩:=I.setPks (ps:=[]) (pa':=none) (pcap':=0) ⟨.inl rfl,by simp,by simp[maxLen],fun _=>⟨rfl,rfl⟩⟩ (fun a2 e=>by cases e);have Y:Hid (BG (fun c o s1=>Alone s CQ c o s1) Q g N s w (.returned (Ad AP)) (ar.setCell ⟨g,4,none⟩ (.slice none 0 0))):=⟨0,AP,{ s with ps:=[] },.inl ⟨rfl,rfl,rfl,rfl⟩,q8 _,by rw[if_pos rfl],(But.ofBelow (by subst H;exact D)).trans W,.inl ⟨rfl,_,_,_,_,Z⟩⟩
 have ap:=I.c4;have a0:=I.fg 4;obtain⟨a3,V⟩:=ex (Value.slice aq s.ps.length aw);rw[V]at ap;unfold AP at Y;clear D ad ac I Z W ab ai z U V;go_in
 go_wp2
 go_ret;exact Y.o
theorem jD (K:Nat->Prop)(g H:Nat)(s:Scr)(w:World)(aq:Bq s)(bp:Dc w K g H s)(bh:List UInt8)(bN:oA)(ar:Nat)(nm:List Int)(a0:GV w bN ar nm)(a6:nm.length=2)(av:∀ n∈nm,0<=n/\n<=9999999)(a9:∀ f,nm[0]? = some f->f<=9):Calls Tryz.prog 7 #[.pointer (some ⟨g,0,none⟩),.agg #[Ad atW,Ad bh,.slice bN nm.length ar]] w fun e w'=>BG (fun c o s1=>Bp s atW (nm.map Go.Lib.itoa) c o s1) K g H s w e w':=by
 obtain⟨f,t,rfl⟩:∃ f t,nm=[f,t]:=by
  match nm,a6 with
  | [f,t],_=>exact⟨f,t,rfl⟩
 obtain⟨b,ai,rfl,-,ap⟩:=a0.1.place (by simp);have a':=av f (by simp);have Z:=av t (by simp);have a1:=a9 f rfl;have aB:=Qu a'.1 a1;have a3:=LA Z.1 Z.2;obtain⟨E,I⟩:∃ E:ByteArray,⟨atW.toArray⟩=E:=⟨_,rfl⟩
 obtain⟨ao,a4⟩:∃ ao:ByteArray,⟨bh.toArray⟩=ao:=⟨_,rfl⟩
 have a8:Ad atW=.string E:=by rw[<- I]
 have bc:Ad bh=.string ao:=by rw[<- a4]
 obtain⟨bg,aN⟩:=ex ([f,t].length);obtain⟨B,aj⟩:=ex w.heap.size;obtain⟨J,v0,v1,v2⟩:=Li w (.string E) (.string ao) (.slice (some ⟨b,ai,none⟩) bg ar) 29;obtain⟨z,b7⟩:=ex (w.alloc (.cells #[.string E,.string ao,.slice (some ⟨b,ai,none⟩) bg ar] 29));rw[b7]at J v0 v1 v2;rw[aj]at v0 v1 v2 J;have cj:=qX aj;rw[a8,bc,aN];obtain⟨cd,u0⟩:=Ao atW BF E I false (by decide);unfold BF at cd u0;obtain⟨bT,u1⟩:=Ao atW Cu E I false (by decide);unfold Cu at bT u1;obtain⟨b9,u2⟩:=Ao atW Br E I false (by decide);unfold Br at b9 u2;obtain⟨b6,u3⟩:=Ao atW Bd E I false (by decide);unfold Bd at b6 u3;obtain⟨b2,u4⟩:=Ao atW atW E I true (by decide);unfold atW at b2 u4;have b4:z.cell? ⟨b,ai,none⟩=some (.int .i64 f):=j7 (aj ▸ J) (ap 0 f rfl);have al:z.cell? ⟨b,ai+1,none⟩=some (.int .i64 t):=j7 (aj ▸ J) (ap 1 t rfl);have ab:Hid (∀ e w',EB (ZW s [Go.Lib.itoa f,Go.Lib.itoa t]) z e w'->BG (fun c o s1=>Bp s atW ([f,t].map Go.Lib.itoa) c o s1) K g H s w e w'):=fun e w' V=>Pq (fun c n cb=>.inr (.inr (.inr (.inr (.inl ⟨rfl,rfl,n,cb,fun _=>rfl⟩))))) bp (aj ▸ J) V
 have bm:bg=2:=by rw[<- aN];rfl
 subst bm;by_cases bk:8<=f
 ·
  have b5:decide (f>=8)=true:=qM (by omega);have aE:=qX (Et 1 z (by decide));have Q:Hid (∀ h,Below z.heap.size z h->BG (fun c o s1=>Bp s atW ([f,t].map Go.Lib.itoa) c o s1) K g H s w (.returned (Ad (AV 1))) h):=fun h Y=>ab.o _ _ (La (n:=0) (.inr ⟨_,_,rfl,.inl ⟨by rw[aB,if_neg (by omega)],rfl⟩⟩) (by decide) Y)
  obtain⟨aw,O⟩:=ex (AV 1);rw[O]at Q aE;clear J aN aq bp a0 a8 bc I a4 ap a' Z a1 aB a3 av a9 bk a6 ab O;go_in
  go_wp2_with fail;refine aE.o.mono ?_
  rintro e ac ⟨rfl,N⟩;have aS:=(show Hid (BG (fun c o s1=>Bp s atW ([f,t].map Go.Lib.itoa) c o s1) K g H s w (.returned (Ad aw)) ac)from Q.o ac N)
  clear N;go_wp2
  go_ret;exact aS.o
 have b5:decide (f>=8)=false:=qF (by omega);obtain⟨D,rfl⟩:∃ D:Nat,f=D:=⟨f.toNat,by omega⟩
 have bs:D<8:=by omega
 obtain⟨ch,cg,ci,ce,be⟩:=bp;have a2:=be.below (aj ▸ J);obtain⟨ls,ad,-⟩:=Ab s.cs D (by rw[aq.gate.len];exact bs);obtain⟨a,cap,bb⟩:=a2.curves D ls ad;have ca:=a2.c0;have bl:=bb.cell;have a7:Hid (∀ c n p,Ch ls c p->(c=0->n=Bu t ls)->ZW s [Go.Lib.itoa (D:Int),Go.Lib.itoa t] c n):=fun c n p bm b1=>.inr ⟨_,_,rfl,.inr ⟨(D:Int),by rw[aB,if_pos (by omega)],.inr ⟨t,p,a3,by rw[yB,Mj ad];exact bm,fun V=>by rw[yB,Mj ad];exact b1 V⟩⟩⟩
 by_cases hl0:ls.length=0
 ·
  have bw:ls=[]:=qN.1 hl0;rw[hl0]at bl;have aE:Hid (∀ h,qW 16 #[.int .i64 3] h (Ad (AV 3))):=fun h=>Et 3 h (by decide)
  have Q:Hid (∀ h,Below z.heap.size z h->BG (fun c o s1=>Bp s atW ([(D:Int),t].map Go.Lib.itoa) c o s1) K g H s w (.returned (Ad (AV 3))) h):=fun h Y=>ab.o _ _ (La (n:=0) (a7.o 3 0 (-1) (by rw[bw];exact .inl ⟨.inl (by simp),rfl,rfl⟩) (fun V=>by cases V)) (by decide) Y)
  obtain⟨aw,O⟩:=ex (AV 3);rw[O]at Q aE;have cc:decide ((D:Int)<0)=false:=qF (by omega);have am:Hid (Below z.heap.size z z):=br;clear J aN aq a0 a8 bc I a4 ap a' Z a1 aB a3 av a9 bk a6 ab O be a2 ad bb hl0 bw a7;go_in
  go_wp2
  go_quiet (fail);have U:=qX (qL am.o nq);obtain⟨b8,an⟩:=ex (z.drewN nq);rw[an]at U ⊢;clear an;go_wp2_with fail;refine(aE.o _).mono ?_
  rintro e ac ⟨rfl,N⟩;have aS:=(show Hid (BG (fun c o s1=>Bp s atW ([(D:Int),t].map Go.Lib.itoa) c o s1) K g H s w (.returned (Ad aw)) ac)from Q.o ac (U.o.tr N))
  clear N;go_wp2
  go_ret;exact aS.o
 have bv:ls≠[]:=fun V=>hl0 (by rw[V];rfl)
 have a5:=(aq.gate.curves D ls bs ad).resolve_left bv;obtain⟨m,bj⟩:=ex ls.length;have cf:((m:Int)==0)=false:=by simp;omega
 obtain⟨W,bd⟩:=ex (Bu t ls);have b3:=Kt t ls a5 Z.1 (by omega);have b':Hid (∀ h,Below z.heap.size z h->qW 17 #[.slice a m cap,.int .i64 t] h (.int .i64 W)):=fun h Y=>by
  have:=iV a cap ls t h (bb.lies.below Y) a5 Z.1 (by omega);rwa[bj,bd]at this
 have bx:Hid (∀ h,qW 11 #[.int .i64 W] h (Ad (Go.Lib.itoa W))):=fun h=>J4 W (by omega) (by omega) h
 have Q:Hid (∀ h,Below z.heap.size z h->BG (fun c o s1=>Bp s atW ([(D:Int),t].map Go.Lib.itoa) c o s1) K g H s w (.returned (Ad (Go.Lib.itoa W))) h):=fun h Y=>ab.o _ _ (QA (a7.o 0 W (-1) (.inr (.inr ⟨a5,rfl,rfl⟩)) (fun _=>bd.symm)) Y)
 obtain⟨aw,O⟩:=ex (Go.Lib.itoa W);rw[O]at Q bx;rw[bj]at bl;have cc:decide ((D:Int)<0)=false:=qF (by omega);have am:Hid (Below z.heap.size z z/\z.cell? ⟨b,ai+1,none⟩=some (.int .i64 t)/\z.cell? ⟨B,2,none⟩=some (.slice (some ⟨b,ai,none⟩) 2 ar)):=⟨br,al,v2⟩
 clear J aN aq a0 a8 bc I a4 ap a' Z a1 aB a3 av a9 bk a6 ab O be a2 ad bb hl0 bv a5 a7 bd b3 bj;go_in
 go_wp2
 go_quiet (fail);have U:=qX (qL am.o.1 nq);clear v0 v1 v2 b4 al ca bl;have v2:=j7 U.o am.o.2.2;have al:=j7 U.o am.o.2.1;obtain⟨b8,an⟩:=ex (z.drewN nq);rw[an]at U v2 al ⊢;clear an;go_wp2_with fail;refine(b'.o _ U.o).mono ?_
 rintro e ac ⟨rfl,N⟩;have b0:=qX (U.o.tr N);clear N v2 al;go_wp2_with fail;refine(bx.o _).mono ?_
 rintro e bt ⟨rfl,bq⟩;have aS:=(show Hid (BG (fun c o s1=>Bp s atW ([(D:Int),t].map Go.Lib.itoa) c o s1) K g H s w (.returned (Ad aw)) bt)from Q.o bt (b0.o.tr bq))
 clear bq;go_wp2
 go_ret;exact aS.o
theorem eP (h:World)(a b c d D:Value)(t:TypeId)(z:World)(E:(h.alloc (.cells #[a,b,c,d] t)).setCell ⟨h.heap.size,3,none⟩ D=z):Below h.heap.size h z/\z.cell? ⟨h.heap.size,0,none⟩=some a/\z.cell? ⟨h.heap.size,1,none⟩=some b/\z.cell? ⟨h.heap.size,2,none⟩=some c/\z.cell? ⟨h.heap.size,3,none⟩=some D:=by
 subst E;have e:∀ i,(h.alloc (.cells #[a,b,c,d] t)).cell? ⟨h.heap.size,i,none⟩=(#[a,b,c,d]:Array Value)[i]?:=fun i=>qO _ _ _ _ rfl
 have o:∀ i,i≠3->((h.alloc (.cells #[a,b,c,d] t)).setCell ⟨h.heap.size,3,none⟩ D).cell? ⟨h.heap.size,i,none⟩=(#[a,b,c,d]:Array Value)[i]?:=fun i I=>by
  rw[j9 _ _ _ _ (by intro H;cases H;exact I rfl)];exact e i
 exact⟨ba.setCell lr _,o 0 (by decide),o 1 (by decide),o 2 (by decide),qT _ _ _ (by rw[e 3];rfl)⟩
theorem Ls {cs:List lI}{k:Nat}{per:Int}{ns:List Int}{c p:Int}(h:Ea cs k per ns c p):0<=c/\c<=9:=by
 rcases h.num with⟨h,-⟩|h <;> omega
theorem Vl (I:Nat->Prop)(g h:Nat)(s:Scr)(w:World)(aB:Bq s)(a9:Dc w I g h s)(ai:List UInt8)(z:oA)(D:Nat)(nm:List Int)(Z:GV w z D nm)(aw:nm.length=8)(ar:∀ n∈nm,0<=n/\n<=9999999)(aE:Apart w I z):Calls Tryz.prog 7 #[.pointer (some ⟨g,0,none⟩),.agg #[Ad Br,Ad ai,.slice z nm.length D]] w fun e w'=>BG (fun c o s1=>Bp s Br (nm.map Go.Lib.itoa) c o s1) I g h s w e w':=by
 have aq:=J3 nm ar;obtain⟨c,p,V⟩:=JM s.cs (Ew s.kb) s.per nm;have ap:JL s (nm.map Go.Lib.itoa) c { s with ns:=nm }:=.inr ⟨by rw[xZ];exact aw,.inr ⟨nm,p,aq,rfl,V⟩⟩;obtain⟨H,ab⟩:∃ H:ByteArray,⟨Br.toArray⟩=H:=⟨_,rfl⟩
 obtain⟨W,ao⟩:∃ W:ByteArray,⟨ai.toArray⟩=W:=⟨_,rfl⟩
 have aS:Ad Br=.string H:=by rw[<- ab]
 have a0:Ad ai=.string W:=by rw[<- ao]
 obtain⟨K,al⟩:=ex nm.length;obtain⟨B,N⟩:=ex w.heap.size;obtain⟨J,v0,v1,v2⟩:=Li w (.string H) (.string W) (.slice z K D) 29;obtain⟨E,a3⟩:=ex (w.alloc (.cells #[.string H,.string W,.slice z K D] 29));rw[a3]at J v0 v1 v2;rw[N]at v0 v1 v2 J;have bg:=qX N;rw[aS,a0,al];obtain⟨bc,u0⟩:=Ao Br BF H ab false (by decide);unfold BF at bc u0;obtain⟨a5,u1⟩:=Ao Br Cu H ab false (by decide);unfold Cu at a5 u1;obtain⟨bb,u2⟩:=Ao Br Br H ab true (by decide);unfold Br at bb u2;obtain⟨ac,am,bm,bt,aj⟩:=a9;have Y:=aj.below (N ▸ J);obtain⟨kb,aN⟩:∃ kb:ByteArray,⟨s.kb.toArray⟩=kb:=⟨_,rfl⟩
 have an:Ad s.kb=.string kb:=by rw[<- aN]
 obtain⟨r,av⟩:=ex s.ns.length;obtain⟨per,U⟩:=ex s.per;obtain⟨bq,bk,bp,bv⟩:E.cell? ⟨g,0,none⟩=some (.slice (some ⟨h,0,none⟩) 8 8)/\E.cell? ⟨g,1,none⟩=some (.string kb)/\E.cell? ⟨g,2,none⟩=some (.int .i64 per)/\E.cell? ⟨g,3,none⟩=some (.slice ac r am):=by rw[<- an,<- U,<- av];exact⟨Y.c0,Y.c1,Y.c2,Y.c3⟩
 obtain⟨O,a'⟩:=ex ((E.alloc (.cells #[.slice (some ⟨h,0,none⟩) 8 8,.string kb,.int .i64 per,.slice ac r am] 41)).setCell ⟨E.heap.size,3,none⟩ (.slice z K D));obtain⟨a1,bj,bl,be,bs⟩:=eP E _ _ _ _ _ _ O a';have Q:=(N ▸ J).trans (a1.mono (N ▸ J).size);have a2:Hid (Calls Tryz.prog 13 #[.pointer (some ⟨g,0,none⟩),.agg #[.slice (some ⟨h,0,none⟩) 8 8,.string kb,.int .i64 per,.slice z K D]] O fun e w'=>Fz I g h s { s with ns:=nm } c O e w'):=by
  have:=SK I g h s O aB (aj.below Q) s.kb s.per z D nm (Z.1.below Q) Z.2.1 Z.2.2.1 Z.2.2.2 (aE.grow Q.size) (by omega) c p V (Ls V);rw[an,U,al]at this;rw[<- U]at this;rw[<- U];exact this
 have a6:Hid (∀ e w',Fz I g h s { s with ns:=nm } c O e w'->BG (fun c o s1=>Bp s Br (nm.map Go.Lib.itoa) c o s1) I g h s w e w'):=fun e w' a4=>Mr (s1:={ s with ns:=nm }) (.inr (.inr (.inl ⟨rfl,ap,fun _=>rfl⟩))) (Ls V).1 Q a4
 have a7:E.cell? ⟨B,2,none⟩=some (.slice z K D):=v2;have bh:(E.alloc (.cells #[.slice (some ⟨h,0,none⟩) 8 8,.string kb,.int .i64 per,.slice ac r am] 41)).cell? ⟨B,2,none⟩=some (.slice z K D):=j7 ba v2;clear ap aq V J al aB aj Y Z aw ar aE aS a0 ab ao aN an av U a1 Q a7;go_in
 go_wp2_with fail;refine a2.o.mono ?_
 rintro e a8 ad;obtain⟨t,rfl⟩:∃ t,e=.returned (Ad t):=⟨_,ad.1⟩
 have bd:=(show Hid (BG (fun c o s1=>Bp s Br (nm.map Go.Lib.itoa) c o s1) I g h s w (.returned (Ad t)) a8)from a6.o _ _ ad)
 clear ad;go_wp2
 go_ret;exact bd.o
structure GL (V:World)(B:Nat)(ca:Value)(kk:ByteArray)(per:Int)(k:Nat)(v:Value)(wr:World):Prop where
 bel:Below V.heap.size V wr
 lt:V.heap.size<wr.heap.size
 c0:wr.cell? ⟨V.heap.size,0,none⟩=some ca
 c1:wr.cell? ⟨V.heap.size,1,none⟩=some (.string kk)
 c2:wr.cell? ⟨V.heap.size,2,none⟩=some (.int .i64 per)
 c3:wr.cell? ⟨V.heap.size,3,none⟩=some v
 fz:wr.frozen? ⟨V.heap.size,3,none⟩=false
 own:wr.ownsRow (V.heap.size+1) 3 1 v k (ints (List.replicate k 1))
 kind:wr.cell? ⟨B,1,none⟩=some (.string kk)
theorem GL.first {h:World}{B:Nat}{D:Value}{z:ByteArray}{per:Int}(H:h.cell? ⟨B,1,none⟩=some (.string z))(t:TypeId):GL h B D z per 0 (.slice none 0 0) (h.alloc (.cells #[D,.string z,.int .i64 per,.slice none 0 0] t)):=by
 have e:∀ i,(h.alloc (.cells #[D,.string z,.int .i64 per,.slice none 0 0] t)).cell? ⟨h.heap.size,i,none⟩=(#[D,.string z,.int .i64 per,.slice none 0 0]:Array Value)[i]?:=fun i=>qO _ _ _ _ rfl
 have E:=(y6 h.heap.size h).alloc lr (.cells #[D,.string z,.int .i64 per,.slice none 0 0] t);exact⟨E,by simp,e 0,e 1,e 2,e 3,vQ h _ _ 3,qQ _ _ _ _,j7 E H⟩
theorem GL.next {h:World}{B:Nat}{W:Value}{V:ByteArray}{per:Int}{k:Nat}{v H:Value}{wr D:World}{o:Obj}(ac:B<h.heap.size)(z:GL h B W V per k v wr)(E:(wr.alloc o).grownBy D v.ownBlock)(U:D.ownsRow (h.heap.size+1) 3 1 H (k+1) (ints (List.replicate k 1)++ints [1])):D.cell? ⟨h.heap.size,3,none⟩=some v/\D.frozen? ⟨h.heap.size,3,none⟩=false/\GL h B W V per (k+1) H (D.setCell ⟨h.heap.size,3,none⟩ H):=by
 have O:Below wr.heap.size wr (wr.alloc o):=ba;have Q:D.heap[h.heap.size]? = (wr.alloc o).heap[h.heap.size]?:=E.block _ (by have:=z.lt;simp;omega) fun e=>by have:=(Aq z.own e.symm).1;omega
 have Y:D.heap[B]? = (wr.alloc o).heap[B]?:=E.block _ (by have:=z.lt;simp;omega) fun e=>by have:=(Aq z.own e.symm).1;omega
 have c:∀ i u,wr.cell? ⟨h.heap.size,i,none⟩=some u->D.cell? ⟨h.heap.size,i,none⟩=some u:=fun i u J=>(yE Q).trans (j7 O J)
 have f:D.frozen? ⟨h.heap.size,3,none⟩=false:=by rw[xY (w:=wr.alloc o) Q,O.frozen (p:=⟨h.heap.size,3,none⟩) z.lt];exact z.fz
 have I:∀ i u,i≠3->wr.cell? ⟨h.heap.size,i,none⟩=some u->(D.setCell ⟨h.heap.size,3,none⟩ H).cell? ⟨h.heap.size,i,none⟩=some u:=fun i u ab J=>by
  rw[j9 _ _ _ _ (by intro K;cases K;exact ab rfl)];exact c i u J
 have Z:Below h.heap.size h D:=(z.bel.alloc z.bel.size _).grown E (by have:=z.lt;simp;omega) fun j N=>by have:=(Aq z.own N).1;omega
 refine⟨c 3 _ z.c3,f,Z.setCell (p:=⟨h.heap.size,3,none⟩) lr _,?_,I 0 _ (by decide) z.c0,I 1 _ (by decide) z.c1,I 2 _ (by decide) z.c2,qT _ _ _ (by rw[c 3 _ z.c3];rfl),by rw[qK];exact f,?_,?_⟩
 ·
  have:=z.lt;have:=E.size;simp at this ⊢
  omega
 · rw[List.replicate_succ',Oc];exact C9 U (S:=fun k=>k=h.heap.size) (But.setCell (p:=⟨h.heap.size,3,none⟩) (But.refl (fun k=>k=h.heap.size) D) rfl _) fun j N=>by have:=(Aq U N).1;show ¬j=_;omega
 rw[j9 _ _ _ _ (by intro K;cases K)];exact(yE Y).trans (j7 O z.kind)
theorem Yz {D:List UInt8}(z:Ie D=true){cs:List lI}{per:Int}{ns:List Int}{c p:Int}(h:Ea cs (kindOf D) per ns c p):c≠9:=by
 have E:kindOf D≠0:=by
  unfold Ie at z;simp only[Bool.or_eq_true,decide_eq_true_eq]at z;rcases z with(((h|h)|h)|h)|h <;> subst h <;> decide
 rintro rfl;rcases h with⟨-,h,-⟩|⟨-,i,h,-⟩|⟨-,-,-,⟨h,-⟩|⟨-,-,⟨-,h⟩|⟨-,-,d,H,h⟩⟩⟩
 · cases h
 · obtain⟨ls,q,-,-,I,-⟩:=h;have:=I.num;omega
 · exact E h
 · cases h
 have:d<=3:=by rcases H with⟨-,⟨h,-⟩|⟨h,-⟩⟩|⟨-,⟨h,-⟩|⟨h,-⟩|⟨h,-⟩⟩|⟨-,⟨h,-⟩|⟨h,-⟩|⟨h,-⟩⟩|⟨-,⟨h,-⟩|⟨h,-⟩|⟨h,-⟩⟩|⟨-,⟨h,-⟩|⟨h,-⟩|⟨h,-⟩⟩ <;> omega
 omega
theorem dK (Z:Nat->Prop)(g cb:Nat)(s:Scr)(w:World)(ho:Bq s)(hm:Dc w Z g cb s)(kd:List UInt8)(na:oA)(ncap:Nat)(nm:List Int)(hn:GV w na ncap nm)(h1:nm.length=1)(hr:∀ n∈nm,0<=n/\n<=9999999)(hk:Ie kd=true):Calls Tryz.prog 7 #[.pointer (some ⟨g,0,none⟩),.agg #[Ad Cu,Ad kd,.slice na nm.length ncap]] w fun e w'=>BG (fun c o s1=>Bp s Cu (kd::nm.map Go.Lib.itoa) c o s1) Z g cb s w e w':=by
 obtain⟨per,rfl⟩:∃ per,nm=[per]:=by
  match nm,h1 with
  | [per],_=>exact⟨per,rfl⟩
 obtain⟨b,off,rfl,-,hcell⟩:=hn.1.place (by simp);have hpr:=hr per (by simp);have hnw:=LA hpr.1 hpr.2;obtain⟨c,p,hgi⟩:=JM s.cs (Ew kd) per (Bh kd);have hTo:QL s [kd,Go.Lib.itoa per] c { s with kb:=kd,per:=per,ns:=Bh kd }:=.inr ⟨kd,_,rfl,.inr ⟨per,hnw,rfl,c,p,hgi,.inr ⟨Yz hk hgi,rfl⟩⟩⟩;obtain⟨ks,hks⟩:∃ ks:ByteArray,⟨Cu.toArray⟩=ks:=⟨_,rfl⟩
 obtain⟨kk,hkk⟩:∃ kk:ByteArray,⟨kd.toArray⟩=kk:=⟨_,rfl⟩
 have ek:Ad Cu=.string ks:=by rw[<- hks]
 have ekk:Ad kd=.string kk:=by rw[<- hkk]
 obtain⟨nn,hnn⟩:=ex ([per].length);obtain⟨B,hB⟩:=ex w.heap.size;obtain⟨hbV,v0,v1,v2⟩:=Li w (.string ks) (.string kk) (.slice (some ⟨b,off,none⟩) nn ncap) 29;obtain⟨V,hV⟩:=ex (w.alloc (.cells #[.string ks,.string kk,.slice (some ⟨b,off,none⟩) nn ncap] 29));rw[hV]at hbV v0 v1 v2;rw[hB]at v0 v1 v2 hbV;have HB:Hid (w.heap.size=B):=hB;rw[ek,ekk,hnn];obtain⟨t0,u0⟩:=Ao Cu BF ks hks false (by decide);unfold BF at t0 u0;obtain⟨t1,u1⟩:=Ao Cu Cu ks hks true (by decide);unfold Cu at t1 u1;obtain⟨na1,nc1,pa,pc,hpi⟩:=hm;have hpV:=hpi.below (hB ▸ hbV);obtain⟨y0,y1,y2,y3⟩:V.cell? ⟨g,0,none⟩=some (.slice (some ⟨cb,0,none⟩) 8 8)/\V.cell? ⟨g,1,none⟩=some (Ad s.kb)/\V.cell? ⟨g,2,none⟩=some (.int .i64 s.per)/\V.cell? ⟨g,3,none⟩=some (.slice na1 s.ns.length nc1):=⟨hpV.c0,hpV.c1,hpV.c2,hpV.c3⟩
 obtain⟨kb0,hkb0⟩:∃ kb0:ByteArray,⟨s.kb.toArray⟩=kb0:=⟨_,rfl⟩
 have ekb:Ad s.kb=.string kb0:=by rw[<- hkb0]
 obtain⟨n0,hn0⟩:=ex s.ns.length;obtain⟨p0,hp0⟩:=ex s.per;rw[ekb]at y1;rw[hp0]at y2;rw[hn0]at y3;have z0:V.cell? ⟨b,off,none⟩=some (.int .i64 per):=j7 (hB ▸ hbV) (hcell 0 per rfl);have HFi:Hid (GL V B (.slice (some ⟨cb,0,none⟩) 8 8) kk per 0 (.slice none 0 0) (V.alloc (.cells #[.slice (some ⟨cb,0,none⟩) 8 8,.string kk,.int .i64 per,.slice none 0 0] 41))):=GL.first v1 41;have f1:∀ o,(V.alloc o).cell? ⟨B,1,none⟩=some (.string kk):=fun o=>j7 ba v1
 have f2:∀ o,(V.alloc o).cell? ⟨B,2,none⟩=some (.slice (some ⟨b,off,none⟩) nn ncap):=fun o=>j7 ba v2
 have f3:∀ o,(V.alloc o).cell? ⟨b,off,none⟩=some (.int .i64 per):=fun o=>j7 ba z0
 have gl:=hpi.gl;have cl:=hpi.cl;have HBe:Hid (∀ X v,GL V B (.slice (some ⟨cb,0,none⟩) 8 8) kk per (Bh kd).length v X->Bh kd=List.replicate (Bh kd).length 1->Calls Tryz.prog 13 #[.pointer (some ⟨g,0,none⟩),.agg #[.slice (some ⟨cb,0,none⟩) 8 8,.string kk,.int .i64 per,v]] X fun e w'=>BG (fun c o s1=>Bp s Cu (kd::[per].map Go.Lib.itoa) c o s1) Z g cb s w e w'):=fun X v hX hrep=>by
  have hbX:Below w.heap.size w X:=(hB ▸ hbV).trans (hX.bel.mono (hB ▸ hbV).size);have hown:=hX.own;rw[<- hrep]at hown;obtain⟨a',cap',rfl,q1,q2,q3,q4⟩:=Iq hown;have hap:Apart X Z a':=fun ad e=>by
   subst e;have hk:(Value.slice (some ad) (Bh kd).length cap').ownBlock=some ad.block:=by
    obtain⟨-,⟨e',-⟩|⟨b',cap',cur,e',-⟩⟩:=hown
    · cases e'
    cases e'
    rfl
   have hlt:=Aq hown hk;have hs:=(hB ▸ hbV:Below w.heap.size w V).size;exact⟨fun hz=>by have:=hpi.zl _ hz;omega,hlt.2⟩
  have:=SK Z g cb s X ho (hpi.below hbX) kd per a' cap' (Bh kd) q3 q1 q2 q4 hap (by unfold Bh;split <;> decide) c p hgi (Ls hgi);rw[ekk]at this;exact this.mono fun e w' h=>Mr (s1:={ s with kb:=kd,per:=per,ns:=Bh kd }) (.inr (.inl ⟨rfl,hTo,fun _=>rfl⟩)) (Ls hgi).1 hbX h
 have hBV:B<V.heap.size:=by rw[<- hV];simp;omega
 have hn1:nn=1:=by rw[<- hnn];rfl
 subst hn1;obtain⟨i0,hi,hz0,hz1,hz2⟩:=vL Tryz.infoInt;have HBV:Hid (B<V.heap.size):=hBV;by_cases hf:kd=Gv
 ·
  obtain⟨tf,uf⟩:=Ao kd Gv kk hkk true (qM hf);unfold Gv at tf uf;have hFn:Bh kd=[]:=by unfold Bh;rw[if_pos hf]
  have HC:=HBe.o _ (.slice none 0 0) (by rw[hFn];exact HFi.o) (by rw[hFn];rfl);have HCc:Hid (Calls Tryz.prog 13 #[.pointer (some ⟨g,0,none⟩),.agg #[.slice (some ⟨cb,0,none⟩) 8 8,.string kk,.int .i64 per,.slice none 0 0]] (V.alloc (.cells #[.slice (some ⟨cb,0,none⟩) 8 8,.string kk,.int .i64 per,.slice none 0 0] 41)) fun e w'=>BG (fun c o s1=>Bp s Cu (kd::[per].map Go.Lib.itoa) c o s1) Z g cb s w e w'):=HC;obtain⟨-,-,x0,x1,x2,x3,xf,-,xk⟩:=HFi.o;clear HC hTo hnw hgi hbV hnn ho hpi hpV hn h1 hr hk ek ekk hks hkk hcell hpr hkb0 ekb hn0 hp0 hBV hf hFn HBe HFi gl cl;go_in
  go_wp2_with fail;obtain⟨X,hX⟩:=ex (V.alloc (.cells #[.slice (some ⟨cb,0,none⟩) 8 8,.string kk,.int .i64 per,.slice none 0 0] 41));rw[hX]at HCc x0 x1 x2 x3 xf xk ⊢;clear hX f1 f2 f3 v0 v1 v2 y0 y1 y2 y3 z0;go_loopg [6] 1 (fun gk i wr=>gk=1/\i=.int .i64 0/\X=wr)
  case atStart=>exact⟨rfl,rfl,rfl⟩
  case round=>
   obtain⟨-,rfl,rfl⟩:=hrel;go_wp2_with fail;refine HCc.o.mono ?_
   rintro e w1 hans;obtain⟨t,rfl⟩:∃ t,e=.returned (Ad t):=by obtain⟨c,o,s1,-,-,h,-⟩:=hans;exact⟨_,h⟩
   have HE1:=(show Hid (BG (fun c o s1=>Bp s Cu (kd::[per].map Go.Lib.itoa) c o s1) Z g cb s w (.returned (Ad t)) w1)from hans)
   clear hans;go_wp2
   go_ret;exact HE1.o
 obtain⟨tf,uf⟩:=Ao kd Gv kk hkk false (qF hf);unfold Gv at tf uf;have hFn:Bh kd=List.replicate 8 1:=by unfold Bh;rw[if_neg hf];rfl
 have hF8:(Bh kd).length=8:=by rw[hFn];rfl
 have HB8:Hid (∀ X v,GL V B (.slice (some ⟨cb,0,none⟩) 8 8) kk per 8 v X->Calls Tryz.prog 13 #[.pointer (some ⟨g,0,none⟩),.agg #[.slice (some ⟨cb,0,none⟩) 8 8,.string kk,.int .i64 per,v]] X fun e w'=>BG (fun c o s1=>Bp s Cu (kd::[per].map Go.Lib.itoa) c o s1) Z g cb s w e w'):=fun X v hX=>HBe.o X v (by rw[hF8];exact hX) (by rw[hF8];exact hFn)
 clear hTo hnw hgi hbV hnn ho hpi hpV hn h1 hr hk ek ekk hks hkk hcell hpr hkb0 ekb hn0 hp0 hf hFn hF8 HBe gl cl;go_in
 go_wp2_with fail;clear f1 f2 f3 v0 v1 v2 y0 y1 y2 y3 z0;go_loopg [6] 8 (fun gk i wr=>∃(k:Nat)(v:Value),gk+k=8/\i=.int .i64 k/\GL V B (.slice (some ⟨cb,0,none⟩) 8 8) kk per k v wr)
 case atStart=>exact⟨0,_,rfl,rfl,HFi.o⟩
 case round=>
  obtain⟨k,v,hgk,rfl,hat⟩:=hrel;have x3:=hat.c3;have xk:=hat.kind;by_cases hk8:k<8
  ·
   have hd8:decide ((k:Int)<8)=true:=qM (by omega);have HAt:Hid (GL V B (.slice (some ⟨cb,0,none⟩) 8 8) kk per k v wr):=hat;have HRow:Hid ((wr.alloc (.cells #[.int .i64 1] 3)).ownsRow (V.heap.size+1) 3 1 v k (ints (List.replicate k 1))):=Ah hat.own (fun g' _ hg'=>(ba:Below wr.heap.size wr (wr.alloc _)).block g' hg');have HNew:Hid (∀ j u,(ints [1])[j]? = some u->(wr.alloc (.cells #[.int .i64 1] 3)).cell? (Addr.add ⟨wr.heap.size,0,none⟩ j)=some u):=World.news_of_block (cs:=#[.int .i64 1]) (t:=3) (vZ wr _);have HBs:Hid (V.heap.size+1<=(wr.alloc (.cells #[.int .i64 1] 3)).heap.size):=by have:=hat.lt;show _<=_;simp;omega
   clear hat;go_wp2_with (at_builtin;go_must (refine wpList_append_lies _ rfl _ _ 27 rfl (V.heap.size+1) 3 i0 (.int .i64 0) 1 8 Tryz.underlying27 hi hz0 hz1 hz2 rfl (by decide) v k (ints (List.replicate k 1)) rfl HRow.o ⟨wr.heap.size,0,none⟩ 1 1 (ints [1]) rfl rfl HNew.o (D7 _) (by decide) (by unfold maxLen;omega) (by omega) HBs.o _ rfl ?_;intro g5 cap5 w5 ho5 hg5 hat5 hlt5;obtain⟨x5,f5,h5⟩:=HAt.o.next HBV.o hg5 ho5;have H5:=(show Hid (GL V B (.slice (some ⟨cb,0,none⟩) 8 8) kk per (k+1) (.slice (some ⟨g5,0,none⟩) (k+1) cap5) (w5.setCell ⟨V.heap.size,3,none⟩ (.slice (some ⟨g5,0,none⟩) (k+1) cap5)))from h5);clear ho5 hg5 hat5 hlt5 h5))
   go_roundg (gk-1)
   case measure=>omega
   case rel=>exact⟨k+1,_,by omega,by go_num,H5.o⟩
  obtain rfl:k=8:=by omega
  have HAt:Hid (GL V B (.slice (some ⟨cb,0,none⟩) 8 8) kk per 8 v wr):=hat;have x0:=hat.c0;have x1:=hat.c1;have x2:=hat.c2;clear hat hk8 hgk;go_wp2_with fail;refine(HB8.o wr v HAt.o).mono ?_
  rintro e w1 hans;obtain⟨t,rfl⟩:∃ t,e=.returned (Ad t):=by obtain⟨c,o,s1,-,-,h,-⟩:=hans;exact⟨_,h⟩
  have HE1:=(show Hid (BG (fun c o s1=>Bp s Cu (kd::[per].map Go.Lib.itoa) c o s1) Z g cb s w (.returned (Ad t)) w1)from hans)
  clear hans;go_wp2
  go_ret;exact HE1.o
theorem Xd (ac:Nat->Prop)(g O:Nat)(s:Scr)(w:World)(bN:Bq s)(cN:Dc w ac g O s)(bc:List UInt8)(cb:oA)(Y:Nat)(nm:List Int)(aw:GV w cb Y nm)(b7:nm.length=3)(bb:∀ n∈nm,0<=n/\n<=9999999)(b':∀ f,nm[0]? = some f->f<=9):Calls Tryz.prog 7 #[.pointer (some ⟨g,0,none⟩),.agg #[Ad Bd,Ad bc,.slice cb nm.length Y]] w fun e w'=>BG (fun c o s1=>Bp s Bd (nm.map Go.Lib.itoa) c o s1) ac g O s w e w':=by
 obtain⟨f,x,y,rfl⟩:∃ f x y,nm=[f,x,y]:=by
  match nm,b7 with
  | [f,x,y],_=>exact⟨f,x,y,rfl⟩
 obtain⟨b,D,rfl,-,av⟩:=aw.1.place (by simp);have b5:=OC (bb f (by simp)).1 (b' f rfl);have bq:=J3 [x,y] fun n aw=>bb n (qG _ aw)
 obtain⟨c,p,a1⟩:=K7 (s.ps++[⟨f,x,y⟩]);have bg:Lp s ([f,x,y].map Go.Lib.itoa) c { s with ps:=s.ps++[⟨f,x,y⟩] }:=.inr ⟨_,_,_,rfl,.inr ⟨f,b5,.inr ⟨x,y,p,bq,rfl,a1⟩⟩⟩;have ar:0<=c/\c<=9:=by
  rcases IL a1 with N|N|N <;> omega
 obtain⟨H,U⟩:∃ H:ByteArray,⟨Bd.toArray⟩=H:=⟨_,rfl⟩
 obtain⟨ai,b3⟩:∃ ai:ByteArray,⟨bc.toArray⟩=ai:=⟨_,rfl⟩
 have b9:Ad Bd=.string H:=by rw[<- U]
 have ch:Ad bc=.string ai:=by rw[<- b3]
 obtain⟨a0,be⟩:=ex ([f,x,y].length);obtain⟨B,a6⟩:=ex w.heap.size;obtain⟨ao,v0,v1,v2⟩:=Li w (.string H) (.string ai) (.slice (some ⟨b,D,none⟩) a0 Y) 29;obtain⟨z,cy⟩:=ex (w.alloc (.cells #[.string H,.string ai,.slice (some ⟨b,D,none⟩) a0 Y] 29));rw[cy]at ao v0 v1 v2;rw[a6]at v0 v1 v2 ao;have c3:=qX a6;rw[b9,ch,be];obtain⟨cQ,u0⟩:=Ao Bd BF H U false (by decide);unfold BF at cQ u0;obtain⟨ck,u1⟩:=Ao Bd Cu H U false (by decide);unfold Cu at ck u1;obtain⟨cE,u2⟩:=Ao Bd Br H U false (by decide);unfold Br at cE u2;obtain⟨cx,u3⟩:=Ao Bd Bd H U true (by decide);unfold Bd at cx u3;obtain⟨cY,cX,cA,co,W⟩:=cN;have aN:=W.below (a6 ▸ ao);have Z:Below w.heap.size w z:=a6 ▸ ao;have cd:=aN.c4;have cu:=bN.pks.few;obtain⟨m,a3⟩:=ex s.ps.length;have aB:=qX a3;have ca:=qY aN.pks.pks aN.pks.none_;have aE:z.cell? ⟨b,D,none⟩=some (.int .i64 f):=j7 Z (av 0 f rfl);have bt:z.cell? ⟨b,D+1,none⟩=some (.int .i64 x):=j7 Z (av 1 x rfl);have bp:z.cell? ⟨b,D+2,none⟩=some (.int .i64 y):=j7 Z (av 2 y rfl);have cf:Hid (∀ h,Below z.heap.size z h->h.cell? ⟨B,2,none⟩=some (.slice (some ⟨b,D,none⟩) a0 Y)/\h.cell? ⟨b,D,none⟩=some (.int .i64 f)/\h.cell? ⟨b,D+1,none⟩=some (.int .i64 x)/\h.cell? ⟨b,D+2,none⟩=some (.int .i64 y)):=fun h Q=>⟨j7 Q v2,j7 Q aE,j7 Q bt,j7 Q bp⟩
 have cw:=W.gl;have cR:=W.cl;have cg:Hid (∀ h v,Below z.heap.size z h -> BD h z.heap.size v (s.ps ++ [⟨f,x,y⟩]) -> (∃ u,h.cell? ⟨g,4,none⟩=some u) /\ h.frozen? ⟨g,4,none⟩=false /\ g < h.heap.size /\
   (c=0->∀ K,Below (h.setCell ⟨g,4,none⟩ v).heap.size (h.setCell ⟨g,4,none⟩ v) K->BG (fun c o s1=>Bp s Bd ([f,x,y].map Go.Lib.itoa) c o s1) ac g O s w (.returned (Ad (if c=0 then AP else AV c))) K) /\
   (c ≠ 0 -> ∀ K,Below h.heap.size h K -> BG (fun c o s1=>Bp s Bd ([f,x,y].map Go.Lib.itoa) c o s1) ac g O s w (.returned (Ad (if c=0 then AP else AV c))) K)):=fun h v Q a8=>by
  have a':=Z.tr Q;have an:=W.below a';obtain⟨V,I,rfl,cq⟩:=BD.value a8;refine⟨⟨_,an.c4⟩,an.fg 4,an.gl,fun bk K ad=>?_,fun bk K ad=>?_⟩
  ·
   obtain ⟨bT,bx⟩:=an.setPks cq (fun bs e=>by
    subst e;have cn:(Value.slice (some bs) (s.ps++[(⟨f,x,y⟩:Pk)]).length I).ownBlock=some bs.block:=by
     obtain⟨-,⟨J,-⟩|⟨cV,I,cT,J,-⟩⟩:=a8
     · cases J
     cases J
     rfl
    have cG:=Aq a8 cn;have:=Z.size;exact ⟨fun cj=>by have:=W.zl _ cj;omega,cG.2⟩)
   exact⟨c,AP,_,.inr (.inr (.inr (.inl ⟨rfl,bg,fun _=>rfl⟩))),ar.1,rfl,((But.ofBelow a').trans bx).trans (.ofBelow ad),.inl ⟨bk,_,_,_,_,bT.below ad⟩⟩
  exact⟨c,AP,_,.inr (.inr (.inr (.inl ⟨rfl,bg,fun _=>rfl⟩))),ar.1,rfl,(But.ofBelow a').trans (.ofBelow ad),.inr ⟨bk,_,_,_,_,an.below ad⟩⟩
 have bl:Hid (∀ h,qW 15 #[.int .i64 c] h (Ad (if c=0 then AP else AV c))):=fun h=>Zj c ar h
 have cv:Hid (∀ h V I,CU h V I (s.ps++[⟨f,x,y⟩])->qW 14 #[.slice V (m+1) I] h (.agg #[.int .i64 c,.int .i64 p])):=fun h V I N=>by
  have:=Nz V I (s.ps++[⟨f,x,y⟩]) h N.pks N.cap N.max c p a1;rw[qJ,a3]at this;exact this
 have cp:a0=3:=by rw[<- be];rfl
 subst cp;obtain⟨cI,cJ,cl,cH,cP⟩:=vL Tryz.infoPkt;obtain⟨b6,b4⟩:=ex (if c=0 then AP else AV c);rw[b4]at cg bl;rw[a3]at cd cu;clear bg b5 bq a1 ar ao be bN W aN aw b7 bb b' b9 ch U b3 av Z a3 cw cR b4;go_in
 go_wp2_with (at_builtin;go_must (refine Bf z rfl _ _ rfl z.heap.size (.slice none 0 0) [] s.ps cA m co aB.o rfl rfl (qQ _ _ _ _) ca.o.1 ca.o.2 (by rw[aB.o];simp;omega) lr ?_;intro a9 E bw;have a4:=(show Hid (BD E z.heap.size a9 s.ps/\Below z.heap.size z E)from bw);clear bw))
 obtain⟨cU,c5,b1,cL⟩:=cf.o E a4.o.2;have bv:Hid ((E.drew.alloc (.cells #[.int .i64 f,.int .i64 x,.int .i64 y] 50)).ownsRow z.heap.size 50 3 a9 m (BV s.ps)):=by
  have:=BD.later a4.o.1 (((y6 _ E).drew).alloc lr (.cells #[.int .i64 f,.int .i64 x,.int .i64 y] 50));unfold BD at this;rw[aB.o]at this;exact this
 have bj:Hid (Below z.heap.size z (E.drew.alloc (.cells #[.int .i64 f,.int .i64 x,.int .i64 y] 50))):=a4.o.2.drew.alloc a4.o.2.size _;have cD:Hid (∀ q u,(BV [⟨f,x,y⟩])[q]? = some u->(E.drew.alloc (.cells #[.int .i64 f,.int .i64 x,.int .i64 y] 50)).cell? ((⟨E.heap.size,0,none⟩:Addr).add q)=some u):=World.news_of_block (cs:=#[.int .i64 f,.int .i64 x,.int .i64 y]) (t:=50) (vZ E.drew _);clear v0 v1 v2 cd aE bt bp;go_wp2_with fail;go_region_held_law (fun w'=>w'.cell? ⟨B,2,none⟩=some (.slice (some ⟨b,D,none⟩) 3 Y)/\w'.cell? ⟨b,D,none⟩=some (.int .i64 f)/\w'.cell? ⟨b,D+1,none⟩=some (.int .i64 x)/\w'.cell? ⟨b,D+2,none⟩=some (.int .i64 y)) (go_keep)
  (first
   | (refine step_append_lies _ rfl _ _ 42 rfl z.heap.size 50 cI (.agg #[.int .i64 0,.int .i64 0,.int .i64 0]) 3 24 Tryz.underlying42 cJ cl cH cP rfl (by decide) a9 m (BV s.ps) rfl bv.o ⟨E.heap.size,0,none⟩ 1 1 (BV [⟨f,x,y⟩]) rfl rfl cD.o (Kn _) (by decide) (by unfold maxLen;omega) (by omega) bj.o.size _ rfl ?_
      intro b0 cc am ce b2 ct cC;have a5:=qY (BD.snoc (by rw[aB.o];exact ce)) (bj.o.grown b2 bj.o.size (fun q cm=>(Aq bv.o cm).1));obtain⟨cW,bT,bx,c2⟩:=cf.o am a5.o.2;clear ce b2 ct cC)
   | fail)
 all_goals
  have cF:Hid (CU am (some ⟨b0,0,none⟩) cc (s.ps++[⟨f,x,y⟩])):=by
   obtain⟨V,I,J,b8⟩:=BD.value a5.o.1;injection J with b1 cL cM
   rw[<- b1,<- cM]at b8;exact b8
  go_wp2_with fail;refine(cv.o am _ _ cF.o).mono ?_
  rintro e ap ⟨rfl,a2⟩;have aq:Below am.heap.size am (ap.alloc (.cells #[.int .i64 c,.int .i64 p] 52)):=a2.alloc a2.size _;have aS:=qY (a5.o.2.tr aq) (a5.o.1.later aq);obtain⟨⟨u,c6⟩,c0,cS,bd,bm⟩:=cg.o _ _ aS.o.1 aS.o.2;have aE:(ap.alloc (.cells #[.int .i64 c,.int .i64 p] 52)).cell? ⟨ap.heap.size,0,none⟩=some (.int .i64 c):=by rw[qO _ _ _ _ rfl];rfl
  by_cases ab:c=0
  ·
   have ci:(c==0)=true:=by simpa using ab
   have a7:=(show Hid _ from bd ab)
   have c1:((ap.alloc (.cells #[.int .i64 c,.int .i64 p] 52)).setCell ⟨g,4,none⟩ (.slice (some ⟨b0,0,none⟩) (m+1) cc)).cell? ⟨ap.heap.size,0,none⟩=some (.int .i64 c):=by
    rw[j9 _ _ _ _ (by intro J;cases J)];exact aE
   clear bd bm a2 aq aS ab;go_wp2_with fail;refine(bl.o _).mono ?_
   rintro e aj ⟨rfl,al⟩;have bh:=(show Hid (BG (fun c o s1=>Bp s Bd ([f,x,y].map Go.Lib.itoa) c o s1) ac g O s w (.returned (Ad b6)) aj)from a7.o aj al)
   clear al;go_wp2
   go_ret;exact bh.o
  have ci:(c==0)=false:=by simpa using ab
  have a7:=(show Hid _ from bm ab)
  clear bd bm a2 aq aS ab;go_wp2_with fail;refine(bl.o _).mono ?_
  rintro e aj ⟨rfl,al⟩;have bh:=(show Hid (BG (fun c o s1=>Bp s Bd ([f,x,y].map Go.Lib.itoa) c o s1) ac g O s w (.returned (Ad b6)) aj)from a7.o aj al)
  clear al;go_wp2
  go_ret;exact bh.o
open Go.Lib
def F7 (l:List Sn):List UInt8:=join (l.map fun x=>Dv x.num x.beg x.fin) [32]
def Im (l:List Sn):List UInt8:=if l=[]then []else F7 l++[32]
theorem Ry (xs:List (List UInt8))(x:List UInt8):joinTail [32] (xs++[x])=joinTail [32] xs++([32]++x):=by simp[joinTail]
theorem KQ (l:List Sn)(x:Sn):F7 (l++[x])=Im l++Dv x.num x.beg x.fin:=by
 unfold Im F7;cases l with
 | nil=>
  rw[if_pos rfl];simp[join_cons,joinTail]
 | cons y r=>
  rw[if_neg (by simp),List.map_append,yS,yL,join_cons,join_cons,yS,List.map_nil,Ry];simp
theorem aV (a b c:Int):1<=(Dv a b c).length:=by simp[Dv];omega
theorem XB {l:List Sn}(z:F7 l=[]):l=[]:=by
 rcases List.eq_nil_or_concat l with h|⟨r,x,h⟩
 · exact h
 rw[List.concat_eq_append]at h;rw[h,KQ]at z;have:=aV x.num x.beg x.fin;have D:(Im r++Dv x.num x.beg x.fin).length=0:=by rw[z];rfl
 rw[qJ]at D;omega
def Dr (zs:List Int):Int:=zs.foldl max 0
theorem Ug (zs:List Int)(h:Int):Dr (zs++[h])=max (Dr zs) h:=by simp[Dr]
theorem WG {qs:List Pk}{l:List Sn}(z:∀ h∈BH qs l,0<=h):Dr (BH qs l)=Fu qs l:=by
 unfold Dr Fu;cases e:BH qs l with
 | nil=>rfl
 | cons h zs=>
  rw[e]at z;have:=z h (by simp);rw[List.foldl_cons,show max 0 h=h by omega]
theorem LZ {zs:List Int}(z:∀ h∈zs,0<=h/\h<=1125899906842624):0<=Dr zs/\Dr zs<=1125899906842624:=by
 have key:∀(zs:List Int)(a:Int),(∀ h∈zs,0<=h/\h<=1125899906842624)->0<=a/\a<=1125899906842624->0<=zs.foldl max a/\zs.foldl max a<=1125899906842624:=by
  intro zs;induction zs with
  | nil=>intro a _ z;exact z
  | cons h zs E=>
   intro a z H;have:=z h (by simp);exact E (max a h) (fun y D=>z y (qG _ D)) (by omega)
 exact key zs 0 z (by decide)
end Go.Proofs.YtejlihcdfffafaaGreatDoor
