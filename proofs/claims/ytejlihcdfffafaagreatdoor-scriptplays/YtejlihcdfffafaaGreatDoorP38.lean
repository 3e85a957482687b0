import Derived.Test.YtejlihcdfffafaaGreatDoorP37
import Derived.Test.YtejlihcdfffafaaGreatDoorP21
set_option maxHeartbeats 4000000
set_option maxRecDepth 100000
namespace Go.Proofs.YtejlihcdfffafaaGreatDoor
open Go.RowKit
theorem O1 {w:World}{z:Array Oper}{o:Oper}{a:Act}{D:Act->World->Prop}{Y:Exit->Act->World->Prop}{I:Prop}(V:o.guard=none)(Q:o.type=42)(s x:Operand)
  (E:o.op=.call { callee:=.builtin .append,args:=#[s,x],argTypes:=#[42,42] })
  (N:Nat) (pv:Value) (ps:List Pk) (q:Pk) (hs:a.eval s=pv) (h:BD w N pv ps) (hN:N<=w.heap.size) (ad:Addr) (c:Nat) (hx:a.eval x=.slice (some ad) 1 c) (hq:Aw w (some ad) [q]) (hn:ps.length<=1000)
  (hK:∀ g cap w',BD w' N (.slice (some ⟨g,0,none⟩) (ps.length+1) cap) (ps++[q])->BD w' N pv ps->But (fun k=>pv.ownBlock=some k) w w'->(pv.ownBlock=some g\/w.heap.size<=g)->D (a.put o.dst (.slice (some ⟨g,0,none⟩) (ps.length+1) cap)) w') :
  if Region.wanted o (yielded z a.tmps)=true then Oper.wp Tryz.prog o a w D Y else I:=by
 have J:Region.wanted o (yielded z a.tmps)=true:=by simp[Region.wanted,V]
 rw[if_pos J];obtain⟨g,cap,w',H,W,O,K,U⟩:=PG w N pv ps q ad c h hN hq hn;unfold Oper.wp;simp[execOp,E,Q,resolve,invoke,builtin,hs,hx,H,Result.andThen]
 exact hK g cap w' W O K U
theorem CF.keep {w N:World}{K g H:Nat}{U:oA}{W:Nat}{D:Value}{s:Scr}(h:CF w K g H U W D s)(z:But (fun k=>D.ownBlock=some k) w N)(ac:BD N K D s.ps):CF N K g H U W D s:=by
 have ai:=h.gN;have aj:=h.cN;have al:=h.wN;have V:∀ k,D.ownBlock=some k->K<=k/\k<w.heap.size:=fun k J=>Aq h.pks J
 have Y:¬D.ownBlock=some g:=fun J=>by have:=(V g J).1;omega
 have O:¬D.ownBlock=some H:=fun J=>by have:=(V H J).1;omega
 have Z:g<w.heap.size:=by omega
 have ad:H<w.heap.size:=by omega
 have I:∀ i,N.cell? ⟨g,i,none⟩=w.cell? ⟨g,i,none⟩:=fun i=>z.cell (p:=⟨g,i,none⟩) Z Y
 refine⟨h.gN,h.cN,h.ne,qI h.wN z.size,(I 0).trans h.c0,(I 1).trans h.c1,(I 2).trans h.c2,(I 3).trans h.c3,(I 4).trans h.c4,fun i=>by rw[z.frozen (p:=⟨g,i,none⟩) Z Y];exact h.fg i,fun i=>by rw[z.frozen (p:=⟨H,i,none⟩) ad O];exact h.fc i,Dw h.nums z (fun E e=>(h.nfar E e).2.2),h.nle,h.nmax,h.nnil,(fun E e=>⟨(h.nfar E e).1,qD (h.nfar E e).2.1 z.size,(h.nfar E e).2.2⟩),ac,fun i ls ab=>?_⟩;obtain⟨a,cap,Q⟩:=h.curves i ls ab;exact⟨a,cap,Q.but z O fun E e=>(Q.far E e).2.2⟩
section
variable (w0:World) (ad:Nat → Addr) (N g cb:Nat) (hS:Site w0 ad N g cb) (s:Scr) (w:World) (hw:Below w0.heap.size w0 w) (hp:AU w N g cb s) (ho:Bq s)
theorem Uj (w0:World)(K:Nat->Addr)(D g E:Nat)(aj:Site w0 K D g E)(s:Scr)(w:World)(a4:zW w0 w)(a0:AU w D g E s)(a':Bq s)(aw:Nat)(ws:List (List UInt8))(aN:CO w (some ⟨aw,0,none⟩) ws)(a2:Fb ws)(c:Int)(s1:Scr)(al:Lp s ws c s1):Calls Tryz.prog 73 #[.pointer (some ⟨g,0,none⟩),.slice (some ⟨aw,0,none⟩) ws.length ws.length] w fun e w'=>BK D g E s s1 c w e w':=by
 have ai:=aj.env.below a4;have a7:Hid (∀ z,zW w z->c=1->BK D g E s s1 c w (.returned (.iface 308 (.pointer (some (K 0))))) z):=fun z H J=>by
  subst J;exact FN a0 H (Bo (ai.below H).errs 0 (by decide)) (by decide)
 have cx:=ai.errs.c0;have aB:Hid (Site w0 K D g E/\zW w0 w/\AU w D g E s/\Bq s/\Env w K):=⟨aj,a4,a0,a',ai⟩
 by_cases W:ws.length=3
 ·
  obtain⟨x,y,V,rfl⟩:∃ x y V,ws=[x,y,V]:=by
   match ws,W with
   | [x,y,V],_=>exact⟨x,y,V,rfl⟩
  have cH:w.cell? ⟨aw,0,none⟩=some (Ad x):=by
   obtain⟨b,cq,e,cG,al⟩:=aN.place (by simp);cases e
   exact al 0 x rfl
  have ci:Hid (Calls Tryz.prog 95 #[Ad x] w fun e w'=>CG (K 0) (Gs x) w e w'):=MW ⟨x.toArray⟩ w (K 0) ai.errs.c0 (by have:=a2.2 x (by simp);show x.toArray.size<=_;simp;omega);have ck:Hid (∀ z,zW w z->Calls Tryz.prog 94 #[.slice (some ⟨aw,1,none⟩) 2 2] z fun e w'=>Js (K 0) (Ev [y,V]) z e w'):=fun z H=>I1 (some ⟨aw,1,none⟩) 2 [y,V] z (K 0) (ai.below H).errs.c0 (P9 (ws:=[x,y,V]) (aN.below H) fun _=>rfl) ⟨by simp,fun u cy=>a2.2 u (qG _ cy)⟩
  have bd:=qX al;clear aN a2 al W aj a4 a0 a' ai;go_in
  go_wp2_with fail;refine ci.o.mono ?_
  rintro e bc ⟨a1,⟨av,rfl⟩|⟨f,av,rfl⟩⟩
  ·
   have U:Hid (BK D g E s s1 c w (.returned (.iface 308 (.pointer (some (K 0))))) bc):=by
    refine a7.o bc a1 ?_
    obtain⟨h,-⟩|⟨b8,bw,b',e,⟨-,h,-⟩|⟨f,h,-⟩⟩:=bd.o
    · exact absurd rfl h
    · exact h
    cases e
    rw[av]at h;cases h
   clear av a1;go_wp2
   go_ret;exact U.o
  have ac:=qY a1 av;clear av a1 cx;go_wp2_with fail;refine(ck.o bc ac.o.1).mono ?_
  rintro e I ⟨aS,⟨ab,rfl⟩|⟨ns,G,ab,rfl,ch,bN,b0⟩⟩
  ·
   have U:Hid (BK D g E s s1 c w (.returned (.iface 308 (.pointer (some (K 0))))) I):=by
    refine a7.o I (ac.o.1.tr aS) ?_
    obtain⟨h,-⟩|⟨b8,bw,b',e,⟨h,-⟩|⟨ct,h,⟨-,J,-⟩|⟨a,b,p,J,-⟩⟩⟩:=bd.o
    · exact absurd rfl h
    ·
     cases e
     rw[ac.o.2]at h;cases h
    · exact J
    cases e
    rw[ab]at J;cases J
   clear ab aS;go_wp2
   go_ret;exact U.o
  obtain⟨a,b,rfl⟩:∃ a b,ns=[a,b]:=by
   have:=EZ ab
   match ns,this with
   | [a,b],_=>exact⟨a,b,rfl⟩
  obtain⟨p,hs1,b4⟩:∃ p,s1={ s with ps:=s.ps++[⟨f,a,b⟩] }/\EF (s.ps++[⟨f,a,b⟩]) c p:=by
   obtain⟨h,-⟩|⟨b8,bw,b',e,⟨h,-⟩|⟨ct,h,⟨J,-⟩|⟨cg,co,p,J,cb,W⟩⟩⟩:=bd.o
   · exact absurd rfl h
   ·
    cases e
    rw[ac.o.2]at h;cases h
   ·
    cases e
    rw[ab]at J;cases J
   cases e
   rw[ac.o.2]at h;obtain rfl:=Option.some.inj h;rw[ab]at J;cases J
   exact⟨p,cb,W⟩
  have aE:=ac.o.1.tr aS;obtain⟨bm,bk,Y,am⟩:=aB.o.2.2.1;have be:=am.below aE;obtain⟨v0,v1⟩:I.cell? ⟨G,0,none⟩=some (.int .i64 a)/\I.cell? ⟨G,1,none⟩=some (.int .i64 b):=by
   rcases b0 with h|⟨co,cq,e,-,h⟩
   · cases h
   cases e
   exact⟨h 0 a rfl,h 1 b rfl⟩
  have a9:zW I (I.drew.alloc (.cells #[.int .i64 f,.int .i64 a,.int .i64 b] 50)):=(br.drew).alloc lr _;have Z:=qY (be.below a9) (aE.tr a9);have cd:=qX (JG I.drew f a b);have bT:Hid (Y.ownBlock≠some g/\Y.ownBlock≠some G/\g<I.heap.size/\G<I.heap.size):=by
   have J:=am.gN;have cb:=am.wN;have W:=ac.o.1.size;have cF:=aE.size;exact⟨fun e=>by have:=(Aq am.pks e).1;omega,fun e=>by have:=(Aq am.pks e).2;omega,by omega,bN⟩
  have b6:=qY hs1 b4;have ca:=be.c4;have cj:=aB.o.2.2.2.1.pks.few;obtain⟨n,aq⟩:=ex s.ps.length;have a3:=qX aq;have a5:Hid (∀ z,zW I z->z.cell? ⟨g,4,none⟩=some Y/\z.cell? ⟨G,0,none⟩=some (.int .i64 a)/\z.cell? ⟨G,1,none⟩=some (.int .i64 b)):=fun z H=>⟨j7 H ca,j7 H v0,j7 H v1⟩
  clear ab aS aE am be b0 ch bN a9 hs1 b4 aq;go_wp2_with fail;go_region_held_law (fun w'=>w'.cell? ⟨g,4,none⟩=some Y/\w'.cell? ⟨G,0,none⟩=some (.int .i64 a)/\w'.cell? ⟨G,1,none⟩=some (.int .i64 b)) (first | exact a5.o _ (qL br 1) | exact a5.o _ ((br.drew).alloc lr _) | exact aj)
   (first
    | (refine O1 rfl rfl _ _ rfl D Y s.ps ⟨f,a,b⟩ rfl Z.o.1.pks Z.o.1.wN ⟨I.heap.size,0,none⟩ 1 rfl cd.o (by omega) ?_
       intro an ar N b5 b7 ap bx;have Q:=qV b5 b7 ap bx;have aj:N.cell? ⟨g,4,none⟩=some Y /\ N.cell? ⟨G,0,none⟩=some (.int .i64 a) /\ N.cell? ⟨G,1,none⟩=some (.int .i64 b):=by
         obtain⟨cm,b1,cv,b9⟩:=bT.o;obtain⟨ce,cn,cu⟩:=a5.o _ ((br.drew).alloc lr (.cells #[.int .i64 f,.int .i64 a,.int .i64 b] 50));have bb:I.heap.size<=(I.drew.alloc (.cells #[.int .i64 f,.int .i64 a,.int .i64 b] 50)).heap.size:=by simp
         exact⟨(ap.cell (p:=⟨g,4,none⟩) (qD cv bb) cm).trans ce,(ap.cell (p:=⟨G,0,none⟩) (qD b9 bb) b1).trans cn,(ap.cell (p:=⟨G,1,none⟩) (qD b9 bb) b1).trans cu⟩
       clear b5 b7 ap bx)
    | fail)
  all_goals
   have bq:Hid (CF N D g E bm bk Y s/\But (NZ D g E) w N/\zW w0 N):=by
    have b2:But (NZ D g E) w N:=(But.ofBelow Z.o.2).trans (Q.o.2.2.1.mono fun k a8=>.inr (.inr (Aq Z.o.1.pks a8).1));exact⟨Z.o.1.keep Q.o.2.2.1 Q.o.2.1,b2,aB.o.1.later aB.o.2.1 b2⟩
   have bv:Hid (Calls Tryz.prog 96 #[.slice (some ⟨an,0,none⟩) (n+1) ar] N fun e w'=>∃ O,e=.returned O/\Ba w' O c p/\zW N w'):=by
    obtain⟨cg,cE,b3,bt⟩:=BD.value Q.o.1;have cc:(s.ps++[(⟨f,a,b⟩:Pk)]).length=n+1:=by rw[qJ,a3.o];rfl
    rw[cc,a3.o]at b3;cases b3
    have:=NU (some ⟨an,0,none⟩) ar (s.ps++[⟨f,a,b⟩]) N K (aB.o.1.env.below bq.o.2.2).errs bt.pks bt.cap bt.max c p b6.o.2;rw[cc]at this;exact this
   rw[a3.o]at Q ⊢;have bs:Hid (∀ z,zW N z->(∃ u,z.cell? ⟨g,4,none⟩=some u)/\z.frozen? ⟨g,4,none⟩=false/\(c=0->BK D g E s s1 c w (.returned .nilIface) (z.setCell ⟨g,4,none⟩ (.slice (some ⟨an,0,none⟩) (n+1) ar)))/\(∀ O,Ba z O c p->c≠0->BK D g E s s1 c w (.returned O) z)):=fun z H=>by
    have bh:=bq.o.1.below H;have cp:But (NZ D g E) w z:=bq.o.2.1.trans (.ofBelow H);refine⟨⟨_,bh.c4⟩,bh.fg 4,fun bp=>?_,fun O ad bp=>⟨O,p,rfl,ad,cp,.inr ⟨bp,bm,bk,Y,bh⟩⟩⟩;obtain ⟨cf,cw⟩:=Z.o.1.setPks (Q.o.2.2.1.trans (.ofBelow H)) (Q.o.1.later H) (fun k a8=>by
     have:an=k:=Option.some.inj a8;subst this;exact Q.o.2.2.2) (w':=z.setCell ⟨g,4,none⟩ (.slice (some ⟨an,0,none⟩) (n+1) ar)) rfl
    subst bp;exact⟨.nilIface,-1,rfl,DK _,(But.ofBelow Z.o.2).trans cw,.inl ⟨rfl,bm,bk,_,by rw[b6.o.1];exact cf⟩⟩
   clear aj Q Z cd a5 bT a3 cj v0 v1 ca;go_wp2_with fail;refine bv.o.mono ?_
   rintro e bg ⟨O,rfl,ad,a6⟩;obtain⟨⟨u,cC⟩,cA,bl,bj⟩:=bs.o bg a6;by_cases ao:c=0
   ·
    obtain rfl:=ad.none_ ao;have U:=(show Hid (BK D g E s s1 c w (.returned .nilIface) (bg.setCell ⟨g,4,none⟩ (.slice (some ⟨an,0,none⟩) (n+1) ar)))from bl ao)
    clear ad a6 bl bj ao bs bv;go_wp2
    go_ret;exact U.o
   have U:=(show Hid (BK D g E s s1 c w (.returned O) bg)from bj O ad ao)
   obtain⟨cD,v,rfl⟩:=ad.some_ ao;clear ad a6 bl bj ao bs bv;go_wp2
   go_ret;exact U.o
 have cl:((ws.length:Int)==3)=false:=by simp;omega
 have U:Hid (BK D g E s s1 c w (.returned (.iface 308 (.pointer (some (K 0))))) w):=by
  refine a7.o w br ?_
  obtain⟨-,h,-⟩|⟨x,y,V,h,-⟩:=al
  · exact h
  rw[h]at W;exact absurd rfl W
 obtain⟨n,aq⟩:=ex ws.length;rw[aq]at cl ⊢;clear W aN a2 al aq aj a4 a0 a' ai;go_in
 go_wp2
 go_ret;exact U.o
end
def Yj (D H:lI)(w:World)(e:Ending)(w':World):Prop:=∃ a n cap h z L,e=.returned (.tuple #[.slice a n cap,h])/\Cb D H z L/\zW w w'/\(z=0->h=.nilIface/\n=L.length/\AQ w' a L/\L.length<=cap/\cap<=maxLen)/\(z≠0->∃ E v,h=.iface E v)
theorem Vw (I H:oA)(K N:Nat)(D z:lI)(w:World)(O:Nat->Addr)(ai:A8 w O)(Y:AQ w I D)(ac:AQ w H z)(ad:Ak D)(V:Ak z):Calls Tryz.prog 110 #[.slice I D.length K,.slice H z.length N] w fun e w'=>Yj D z w e w':=by
 rcases VO (BL D z)with h|⟨j,W,ap,E⟩
 ·
  refine(jJ I H K N D z w (O 2) ai.c2 Y ac ad V h).mono ?_
  rintro e w' ⟨Z,J,U,E,⟨Q,rfl⟩|⟨Q,v,rfl,ab⟩⟩
  · exact⟨none,0,0,_,3,[],rfl,.inr ⟨h,_,⟨Z,J,U,rfl⟩,.inl ⟨by rw[xJ];exact Q,rfl,rfl⟩⟩,E,fun h=>absurd h (by decide),fun _=>⟨_,_,rfl⟩⟩
  obtain⟨a,n,cap,rfl⟩:∃ a n cap,v=.slice a n cap:=by
   obtain⟨-,⟨rfl,-⟩|⟨g,cap,av,rfl,-⟩⟩:=ab
   · exact⟨_,_,_,rfl⟩
   exact⟨_,_,_,rfl⟩
  obtain⟨ar,an,ao,am⟩:=ab.lies;exact⟨a,n,cap,_,0,_,rfl,.inr ⟨h,_,⟨Z,J,U,rfl⟩,.inr ⟨by rw[xJ];exact Q,rfl,rfl⟩⟩,E,fun _=>⟨rfl,ar,am,an,ao⟩,fun h=>absurd rfl h⟩
 refine(bM I H K N D z w (O 1) ai.c1 Y ac ad V j W ap E).mono ?_
 rintro e w' ⟨rfl,al⟩;refine⟨none,0,0,_,2,[],rfl,.inl ⟨fun aj=>?_,rfl,rfl⟩,al,fun h=>absurd h (by decide),fun _=>⟨_,_,rfl⟩⟩;obtain⟨⟨x,y⟩,J,aq⟩:=Ab _ j W;have:=E x y J;rw[aj _ aq]at this;cases this
theorem Tryz.callIsEmpty (args:Array Value)(h:World):Sem.run Tryz.prog (callFunc 109 args) h=.ok (.enter 109 args) h:=by kernel_rfl
def J6 (w:World)(b z:Nat)(cs:List lI):Prop:=∀(i:Nat) ls,cs[i]? = some ls->∃ h cap,w.cell? ⟨b,z+i,none⟩=some (.slice h ls.length cap)/\AQ w h ls/\ls.length<=cap/\cap<=maxLen/\(h=none->ls=[]/\cap=0)
theorem PM (b O al:Nat)(cs:List lI)(w:World)(h:J6 w b O cs)(N:cs.length=8)(j:Nat)(J:Kv cs j):Calls Tryz.prog 108 #[.slice (some ⟨b,O,none⟩) 8 al,.func (.func 109) #[] #[]] w fun e w'=>e=.returned (.int .i64 (if j<8 then(j:Int)else -1))/\w'=w:=by
 have aj:=qX h;have V:=qX J;have ac:=qX N;have an:=J.1;have am:=Tryz.callIsEmpty;clear h J N;go_in
 go_wp2_with fail;go_loopg [8] 8 (fun ai Z wr=>∃ k:Nat,Z=.int .i64 k/\k<=j/\8-k<=ai/\w=wr)
 case atStart=>exact⟨0,rfl,qR _,lr,rfl⟩
 case round=>
  obtain⟨k,rfl,ap,ao,rfl⟩:=hrel;by_cases ad:k<8
  ·
   have Y:(k:Int)<8:=by omega
   obtain⟨ls,z,-⟩:=Ab cs k (by rw[ac.o];exact ad);obtain⟨H,cap,W,-,-,-,-⟩:=aj.o k ls z;have D:=Cx z;obtain⟨n,E⟩:=ex ls.length;rw[E]at W;by_cases Q:k<j
   ·
    have K:=V.o.2.1 k Q;rw[D]at K;have I:=qX (Eo H n cap w false (by have:=yH.2 K;simp;omega));clear z D K E;go_wp2_with fail;refine I.o.mono ?_
    rintro e ab ⟨rfl,rfl⟩;go_wp2
    go_roundg (8-(k+1))
    case measure=>omega
    case rel=>exact⟨k+1,by go_num,Q,lr,rfl⟩
   obtain rfl:k=j:=by omega
   have U:ls=[]:=by
    rcases V.o.2.2 with h|h
    · omega
    rw[<- D];exact h
   have I:Hid (Calls Tryz.prog 109 #[.slice H n cap] w fun e w'=>e=.returned (.bool true)/\w'=w):=Eo H n cap w true (by rw[<- E,U];rfl);clear z D U E;go_wp2_with fail;refine I.o.mono ?_
   rintro e ab ⟨rfl,rfl⟩;go_wp2
   go_ret;exact⟨rfl,rfl⟩
  have Y:¬(k:Int)<8:=by omega
  obtain rfl:k=8:=by omega
  obtain rfl:j=8:=by omega
  go_wp2
  go_ret;exact⟨rfl,rfl⟩
def EJ (cs:List lI)(w:World)(e:Ending)(w':World):Prop:=zW w w'/\((∃ a cap L,EH Cb cs L/\e=.returned (.tuple #[.slice a L.length cap,.nilIface])/\AQ w' a L/\L.length<=cap/\cap<=maxLen)\/(Iz Cb cs/\∃ h v,e=.returned (.tuple #[.slice none 0 0,.iface h v])))
theorem jb (cs:List lI):∃ j,Kv cs j:=by
 by_cases D:∃ i,i<8/\Ae cs i=[]
 · obtain⟨j,⟨I,E⟩,H⟩:=Vu D;exact⟨j,by omega,fun i z h=>H i z ⟨by omega,h⟩,.inr E⟩
 exact⟨8,lr,fun i z h=>D ⟨i,z,h⟩,.inl rfl⟩
theorem Uy (b5:oA)(Y:Nat)(cs:List lI)(w:World)(bb:Nat->Addr)(bm:A8 w bb)(bN:Hf w b5 cs)(a1:cs.length=8)(cc:cs.length<=Y)(b4:Cj cs 8):Calls Tryz.prog 80 #[.slice b5 cs.length Y] w fun e w'=>EJ cs w e w':=by
 obtain⟨b,ai,rfl,-,b7⟩:=bN.place (by omega);have bw:J6 w b ai cs:=b7;obtain⟨j,a7⟩:=jb cs;have cj:=a7.1;have am:=(show Hid (Calls Tryz.prog 108 #[.slice (some ⟨b,ai,none⟩) 8 Y,.func (.func 109) #[] #[]] w fun e w'=>e=.returned (.int .i64 (if j<8 then(j:Int)else -1))/\w'=w)from PM b ai Y cs w bw a1 j a7)
 have bl:=qX bw;have b':=qX bm;have be:=qX a1;have bv:Hid (Dm (Ae cs)):=fun f ca=>by
  obtain⟨ls,O,-⟩:=Ab cs f (by rw[a1];exact ca);rw[Cx O];exact b4 f ls ca O
 have I:=qX a7;rw[a1]at cc ⊢;have cm:Y≠1:=by omega
 have cl:∀ i,i<8->i≠Y:=fun i ct=>by omega
 have cu:=bm.c3;clear bm bN a1 b4 b7 bw a7;by_cases cf:j=0
 ·
  subst cf;have Q:Hid (Iz Cb cs):=by
   rcases I.o.2.2 with z|z
   · omega
   exact .inl z
  rw[if_pos (by omega)]at am;go_in
  go_wp2_with fail;refine am.o.mono ?_
  rintro e W ⟨rfl,rfl⟩;go_wp2
  go_quiet (fail);go_wp2
  go_ret2;exact⟨qL br nq,.inr ⟨Q.o,_,_,rfl⟩⟩
 have bq:1<=j:=by omega
 obtain⟨bx,a9,-⟩:=Ab cs 0 (by rw[be.o];omega);obtain⟨bh,a8,b2,b6,bT,b3,-⟩:=bl.o 0 bx a9;have b0:=Cx a9;have U:Hid ((AQ w bh (Ae cs 0)/\(Ae cs 0).length<=a8/\a8<=maxLen)/\bx.length=(Ae cs 0).length):=by rw[b0];exact⟨⟨b6,bT,b3⟩,rfl⟩
 have b1:Hid (Ae cs 0≠[]/\Ak (Ae cs 0)):=by
  have z:=I.o.2.1 0 bq;refine⟨z,?_⟩;rcases bv.o 0 (by omega)with bp|bp
  · exact absurd bp z
  exact bp
 obtain⟨cp,b9⟩:=ex bx.length;rw[b9]at b2 U;rw[Nat.add_zero]at b2;clear a9 b6 bT b3 b0 b9;have co:((j:Int)==0)=false:=by simp;omega
 have cq:(j:Int)-1=((j-1:Nat):Int):=by omega
 have cv:j<=Y:=by omega
 have ck:(1:Int)<=(j:Int):=by omega
 by_cases b8:j<8
 ·
  rw[if_pos b8]at am;have cn:j≠Y:=by omega
  go_in
  go_wp2_with fail;refine am.o.mono ?_
  rintro e W ⟨rfl,rfl⟩;go_wp2_with fail;go_loopg [5,27] 8 (fun bk bd a' wr=>∃(q:Nat)(a:oA)(cap:Nat)(M:lI),bd=.slice a M.length cap/\a'=.int .i64 q/\q+1<=j/\j-q<=bk/\Hid (Gm Cb cs (q+1) M/\Ak M/\AQ wr a M/\M.length<=cap/\cap<=maxLen)/\Hid (zW W wr))
  case atStart=>exact⟨0,bh,a8,Ae cs 0,by rw[U.o.2],rfl,by omega,by omega,⟨rfl,b1.o.2,U.o.1.1,U.o.1.2.1,U.o.1.2.2⟩,br⟩
  case round=>
   obtain⟨q,a,cap,M,rfl,rfl,ch,cg,h,E⟩:=hrel;by_cases bt:q+1<j
   ·
    have ad:(q:Int)<((j-1:Nat):Int):=by omega
    obtain⟨t,K⟩:=ex (j-1);rw[K]at ad;obtain⟨ls,O,-⟩:=Ab cs (q+1) (by rw[be.o];omega);obtain⟨aS,a0,ap,ar,bg,bc,-⟩:=bl.o (q+1) ls O;have aB:=j7 E.o ap;have N:=Cx O;have V:=I.o.2.1 (q+1) bt;rw[N]at V;have aj:Ak ls:=by
     rcases bv.o (q+1) (by omega)with z|z
     · rw[N]at z;exact absurd z V
     rw[N]at z;exact z
    have J:=(show Hid (Calls Tryz.prog 110 #[.slice a M.length cap,.slice aS ls.length a0] wr fun e w'=>Yj M ls wr e w')from Vw a aS cap a0 M ls wr bb (b'.o.below E.o) h.o.2.2.1 (ar.below E.o) h.o.2.1 aj)
    have aq:=qZ N V aj;rw[show ai+(q+1)=ai+1+q by omega]at aB;obtain⟨cd,a2⟩:=ex ls.length;obtain⟨ce,an⟩:=ex M.length;rw[a2]at aB J;rw[an]at J ⊢;clear O ap ar bg bc N V aj a2 an K;go_wp2_with fail;refine J.o.mono ?_
    rintro e ao ⟨a3,ci,ac,cb,a6,L,rfl,hrel,ab,Z,al⟩;have aw:=qX (E.o.tr ab);by_cases H:a6=0
    ·
     obtain⟨rfl,a5,av,a4,aN⟩:=Z H;have bj:Hid (Gm Cb cs (q+1+1) L/\Ak L/\AQ ao a3 L/\L.length<=ac/\ac<=maxLen):=by
      rw[H]at hrel;have D:=aq.o;exact⟨Mx h.o.1 (by rw[D.1];exact D.2.1) (by rw[D.1];exact hrel),JX.ok M ls L h.o.2.1 D.2.2 hrel,av,a4,aN⟩
     have bs:=qX a5;clear hrel ab Z al H a5 av a4 aN J h E;go_wp2
     go_roundg (j-(q+1))
     case measure=>omega
     case rel=>exact⟨q+1,a3,ac,L,by rw[bs.o],by go_num,by omega,lr,bj,aw⟩
    obtain⟨aE,v,rfl⟩:=al H;have Q:Hid (EJ cs W (.returned (.tuple #[.slice none 0 0,.iface aE v])) ao):=by
     have D:=aq.o;exact⟨aw.o,.inr ⟨.inr ⟨I.o.2.1 0 (by omega),q+1,M,a6,L,by omega,by omega,h.o.1,by rw[D.1];exact D.2.1,by rw[D.1];exact hrel,H⟩,aE,v,rfl⟩⟩
    clear hrel ab Z al H J h E;go_wp2
    go_ret2;exact Q.o
   have ad:¬(q:Int)<((j-1:Nat):Int):=by omega
   obtain⟨t,K⟩:=ex (j-1);rw[K]at ad;obtain rfl:q=t:=by omega
   have Q:Hid (EJ cs W (.returned (.tuple #[.slice a M.length cap,.nilIface])) wr):=by
    refine⟨E.o,.inl ⟨a,cap,M,⟨I.o.2.1 0 (by omega),j,bq,I.o.1,?_,I.o.2.2⟩,rfl,h.o.2.2⟩⟩;rw[show j=q+1 by omega];exact h.o.1
   clear h E K;go_wp2
   go_ret2;exact Q.o
 rw[if_neg b8]at am;obtain rfl:j=8:=by omega
 go_in
 go_wp2_with fail;refine am.o.mono ?_
 rintro e W ⟨rfl,rfl⟩;go_wp2_with fail;go_loopg [5,27] 8 (fun bk bd a' wr=>∃(q:Nat)(a:oA)(cap:Nat)(M:lI),bd=.slice a M.length cap/\a'=.int .i64 q/\q+1<=8/\8-q<=bk/\Hid (Gm Cb cs (q+1) M/\Ak M/\AQ wr a M/\M.length<=cap/\cap<=maxLen)/\Hid (zW W wr))
 case atStart=>exact⟨0,bh,a8,Ae cs 0,by rw[U.o.2],rfl,by omega,by omega,⟨rfl,b1.o.2,U.o.1.1,U.o.1.2.1,U.o.1.2.2⟩,br⟩
 case round=>
  obtain⟨q,a,cap,M,rfl,rfl,ch,cg,h,E⟩:=hrel;by_cases bt:q+1<8
  ·
   have ad:(q:Int)<((8-1:Nat):Int):=by omega
   obtain⟨t,K⟩:=ex (8-1);rw[K]at ad;obtain⟨ls,O,-⟩:=Ab cs (q+1) (by rw[be.o];omega);obtain⟨aS,a0,ap,ar,bg,bc,-⟩:=bl.o (q+1) ls O;have aB:=j7 E.o ap;have N:=Cx O;have V:=I.o.2.1 (q+1) bt;rw[N]at V;have aj:Ak ls:=by
    rcases bv.o (q+1) (by omega)with z|z
    · rw[N]at z;exact absurd z V
    rw[N]at z;exact z
   have J:=(show Hid (Calls Tryz.prog 110 #[.slice a M.length cap,.slice aS ls.length a0] wr fun e w'=>Yj M ls wr e w')from Vw a aS cap a0 M ls wr bb (b'.o.below E.o) h.o.2.2.1 (ar.below E.o) h.o.2.1 aj)
   have aq:=qZ N V aj;rw[show ai+(q+1)=ai+1+q by omega]at aB;obtain⟨cd,a2⟩:=ex ls.length;obtain⟨ce,an⟩:=ex M.length;rw[a2]at aB J;rw[an]at J ⊢;clear O ap ar bg bc N V aj a2 an K;go_wp2_with fail;refine J.o.mono ?_
   rintro e ao ⟨a3,ci,ac,cb,a6,L,rfl,hrel,ab,Z,al⟩;have aw:=qX (E.o.tr ab);by_cases H:a6=0
   ·
    obtain⟨rfl,a5,av,a4,aN⟩:=Z H;have bj:Hid (Gm Cb cs (q+1+1) L/\Ak L/\AQ ao a3 L/\L.length<=ac/\ac<=maxLen):=by
     rw[H]at hrel;have D:=aq.o;exact⟨Mx h.o.1 (by rw[D.1];exact D.2.1) (by rw[D.1];exact hrel),JX.ok M ls L h.o.2.1 D.2.2 hrel,av,a4,aN⟩
    have bs:=qX a5;clear hrel ab Z al H a5 av a4 aN J h E;go_wp2
    go_roundg (8-(q+1))
    case measure=>omega
    case rel=>exact⟨q+1,a3,ac,L,by rw[bs.o],by go_num,by omega,lr,bj,aw⟩
   obtain⟨aE,v,rfl⟩:=al H;have Q:Hid (EJ cs W (.returned (.tuple #[.slice none 0 0,.iface aE v])) ao):=by
    have D:=aq.o;exact⟨aw.o,.inr ⟨.inr ⟨I.o.2.1 0 (by omega),q+1,M,a6,L,by omega,by omega,h.o.1,by rw[D.1];exact D.2.1,by rw[D.1];exact hrel,H⟩,aE,v,rfl⟩⟩
   clear hrel ab Z al H J h E;go_wp2
   go_ret2;exact Q.o
  have ad:¬(q:Int)<((8-1:Nat):Int):=by omega
  obtain⟨t,K⟩:=ex (8-1);rw[K]at ad;obtain rfl:q=t:=by omega
  have Q:Hid (EJ cs W (.returned (.tuple #[.slice a M.length cap,.nilIface])) wr):=by
   refine⟨E.o,.inl ⟨a,cap,M,⟨I.o.2.1 0 (by omega),8,bq,I.o.1,?_,I.o.2.2⟩,rfl,h.o.2.2⟩⟩;rw[show 8=q+1 by omega];exact h.o.1
  clear h E K;go_wp2
  go_ret2;exact Q.o
theorem dJ (H E:oA)(J K:Nat)(D h:lI)(w:World)(ac:AQ w H D)(ad:AQ w E h)(Y:Ak D)(Q:Ak h):Calls Tryz.prog 37 #[.slice H D.length J,.slice E h.length K] w fun e w'=>∃ a cap z L,e=.returned (.tuple #[.slice a L.length cap,.int .i64 z])/\Cb D h z L/\AQ w' a L/\L.length<=cap/\cap<=maxLen/\zW w w':=by
 refine(dY H E J K D h w ac ad Y.2.1 Q.2.1 Y.2.2 Q.2.2).mono ?_
 rintro e w' O;obtain⟨z,L,U⟩:∃ z L,Cb D h z L:=by
  obtain⟨-,⟨al,-⟩|⟨N,R,W,-⟩⟩:=O
  · exact⟨2,[],.inl ⟨al,rfl,rfl⟩⟩
  rcases qC 6 R.length with I|I
  · exact⟨3,[],.inr ⟨N,R,SQ W,.inl ⟨I,rfl,rfl⟩⟩⟩
  exact⟨0,R,.inr ⟨N,R,SQ W,.inr ⟨I,rfl,rfl⟩⟩⟩
 obtain⟨v,rfl,V,Z⟩:=fo O U;obtain⟨a,n,cap,rfl⟩:∃ a n cap,v=.slice a n cap:=by
  obtain⟨-,⟨rfl,-⟩|⟨g,cap,am,rfl,-⟩⟩:=V
  · exact⟨_,_,_,rfl⟩
  exact⟨_,_,_,rfl⟩
 obtain⟨rfl,ai,aj,ab⟩:=V.lies;exact⟨a,cap,z,L,rfl,U,ab,ai,aj,Z⟩
theorem V8 (a:oA)(cap:Nat)(L:lI)(per:Int)(w:World)(z:Nat->Addr)(J:A8 w z)(E:AQ w a L)(I:L.length<=cap)(D:cap<=maxLen)(N:Ak L)(K:1<=per)(H:per<=1000):Calls Tryz.prog 28 #[.slice a L.length cap,.int .i64 per] w fun e w'=>∃ o,Ct per L o/\NumEnd o w e w':=by
 by_cases O:Gy L*per<=1000
 ·
  refine(fD a cap L per w E I D ⟨N,K,H⟩ O).mono ?_
  rintro e w' ⟨d,rfl,Q,h⟩;exact⟨some d,.inl ⟨d,rfl,Q,O⟩,h,.inr ⟨d,rfl,rfl⟩⟩
 refine(WS a cap L per w z J E I D ⟨N,K,H⟩ (by omega)).mono ?_
 rintro e w' ⟨rfl,h⟩;exact⟨none,.inr ⟨rfl,by omega⟩,h,.inl ⟨rfl,_,rfl,Bo (J.below h) 3 (by omega)⟩⟩
theorem YV (a:oA)(cap:Nat)(L:lI)(per:Int)(w:World)(D:Nat->Addr)(E:A8 w D)(I:AQ w a L)(K:L.length<=cap)(H:cap<=maxLen)(O:Ak L)(N:1<=per)(J:per<=1000):Calls Tryz.prog 29 #[.slice a L.length cap,.int .i64 per] w fun e w'=>∃ o,Dl per L o/\NumEnd o w e w':=by
 refine(fV a cap L per w D E I K H ⟨O,N,J⟩).mono ?_
 rintro e w' ⟨z,⟨n,h,rfl⟩|⟨h,rfl⟩⟩
 · exact⟨some (per*n),.inl ⟨n,rfl,h⟩,z,.inr ⟨_,rfl,rfl⟩⟩
 exact⟨none,.inr ⟨rfl,h⟩,z,.inl ⟨rfl,_,rfl,Bo (E.below z) 3 (by omega)⟩⟩
theorem Tryz.callDelay (args:Array Value)(h:World):Sem.run Tryz.prog (callFunc 28 args) h=.ok (.enter 28 args) h:=by kernel_rfl
theorem Tryz.callBusy (args:Array Value)(h:World):Sem.run Tryz.prog (callFunc 29 args) h=.ok (.enter 29 args) h:=by kernel_rfl
section
variable (ca:Option Addr) (m ccap:Nat) (kb:ByteArray) (per:Int) (na:Option Addr) (r ncap:Nat) (w:World)
theorem QZ (c p:Int)(N:0<c)(I:Ki w (.agg #[.slice ca m ccap,.string kb,.int .i64 per,.slice na r ncap]) c p):Calls Tryz.prog 58 #[.agg #[.slice ca m ccap,.string kb,.int .i64 per,.slice na r ncap]] w fun e w'=>∃ h,e=.returned (.tuple #[.int .i64 0,h])/\Ba w' h c p/\zW w w':=by
 have D:zW w (w.alloc (.cells #[.slice ca m ccap,.string kb,.int .i64 per,.slice na r ncap] 78)):=ba;have E:=(show Hid (Calls Tryz.prog 79 #[.agg #[.slice ca m ccap,.string kb,.int .i64 per,.slice na r ncap]] (w.alloc (.cells #[.slice ca m ccap,.string kb,.int .i64 per,.slice na r ncap] 78)) fun e w'=>∃ h,e=.returned h/\Ba w' h c p/\Below (w.alloc (.cells #[.slice ca m ccap,.string kb,.int .i64 per,.slice na r ncap] 78)).heap.size (w.alloc (.cells #[.slice ca m ccap,.string kb,.int .i64 per,.slice na r ncap] 78)) w')from I _ D)
 have J:=qX D;clear I D;go_in
 go_wp2_with fail;refine E.o.mono ?_
 rintro e O ⟨h,rfl,z,H⟩;obtain⟨Q,v,rfl⟩:=z.some_ (by omega);have K:=qY z (J.o.tr H);clear z H E;go_wp2
 go_ret2;exact⟨_,rfl,K.o⟩
theorem QE (cs:List lI)(k:Nat)(bb:kindOf kb.toList=k)(U:Nat->Addr)(bh:A8 w U)(a6:1<=per)(a':per<=1000)(bc:Dm (Ae cs))(a2:Ki w (.agg #[.slice ca m ccap,.string kb,.int .i64 per,.slice na r ncap]) 0 (-1))(bj:∀ am,zW w am->Calls Tryz.prog 80 #[.slice ca m ccap] am fun e w'=>EJ cs am e w'):Calls Tryz.prog 58 #[.agg #[.slice ca m ccap,.string kb,.int .i64 per,.slice na r ncap]] w fun e w'=>∃ o,Df Cb Ct Dl cs k per o/\NumEnd o w e w':=by
 have aN:zW w (w.alloc (.cells #[.slice ca m ccap,.string kb,.int .i64 per,.slice na r ncap] 78)):=ba;have a4:=Dk w (.slice ca m ccap) kb per (.slice na r ncap) 78;have be:=(show Hid (Calls Tryz.prog 79 #[.agg #[.slice ca m ccap,.string kb,.int .i64 per,.slice na r ncap]] (w.alloc (.cells #[.slice ca m ccap,.string kb,.int .i64 per,.slice na r ncap] 78)) fun e w'=>∃ O,e=.returned O/\Ba w' O 0 (-1)/\Below (w.alloc (.cells #[.slice ca m ccap,.string kb,.int .i64 per,.slice na r ncap] 78)).heap.size (w.alloc (.cells #[.slice ca m ccap,.string kb,.int .i64 per,.slice na r ncap] 78)) w')from a2 _ aN)
 have bv:=qX aN;have bs:=qX a4;have bt:=qX bj;have J:=qX bh;have bp:=qX bc;have ai:=JK kb;rw[bb]at ai;have bl:=ai.t1;have u1:=ai.u1;have b1:=Tryz.callDelay;have bx:=Tryz.callBusy;clear a2 aN a4 bj bh bc ai bb;obtain⟨bw,aB⟩:=ex (decide (k=1));rw[aB]at bl u1;have bd:=qX aB;clear aB;go_in
 go_wp2_with fail;refine be.o.mono ?_
 rintro e bT ⟨O,rfl,a8,an⟩;obtain rfl:=a8.none_ rfl;have aE:=qX (bv.o.tr an);have a9:=qX (bs.o.later an);have b2:=a9.o.c0;clear a8 an be;go_wp2_with fail;refine(bt.o _ aE.o).mono ?_
 rintro e D ⟨ab,⟨a,cap,L,aw,rfl,aq,ap,ao⟩|⟨a3,a0,v,rfl⟩⟩
 ·
  have I:=qX (aE.o.tr ab);have aS:=qX (a9.o.later ab);have av:Ak L:=by
   obtain⟨bm,q,-,bk,bq,-⟩:=aw;exact IQ JX bp.o bm q L bk bq
  have bN:=aS.o.c1;have b0:=aS.o.c2;have a5:=qX aw;have V:=(show Hid (Calls Tryz.prog 28 #[.slice a L.length cap,.int .i64 per] D fun e w'=>∃ o,Ct per L o/\NumEnd o D e w')from V8 a cap L per D U (J.o.below I.o) aq ap ao av a6 a')
  have W:=(show Hid (Calls Tryz.prog 29 #[.slice a L.length cap,.int .i64 per] D fun e w'=>∃ o,Dl per L o/\NumEnd o D e w')from YV a cap L per D U (J.o.below I.o) aq ap ao av a6 a')
  obtain⟨n,aj⟩:=ex L.length;rw[aj]at V W ⊢;have bg:Hid (∀ o z,Df Cb Ct Dl cs k per o->zW D z->o=none->∃ ad,z.cell? ⟨1,0,none⟩=some (.iface 308 (.pointer (some ad)))/\∀ q,∃ o,Df Cb Ct Dl cs k per o/\NumEnd o w (.returned (.tuple #[.int .i64 0,.iface 308 (.pointer (some ad))])) (z.drewN q)):=fun o z h al aj=>by
   have ar:=I.o.tr al;refine⟨U 3,(J.o.below ar).c3,fun q=>⟨none,by rw[aj]at h;exact h,qL ar q,.inl ⟨rfl,_,rfl,Bo (J.o.below (qL ar q)) 3 (by omega)⟩⟩⟩
  have a1:Hid (∀ d z,Df Cb Ct Dl cs k per (some d)->zW D z->∃ o,Df Cb Ct Dl cs k per o/\NumEnd o w (.returned (.tuple #[.int .i64 d,.nilIface])) z):=fun d z h al=>⟨some d,h,I.o.tr al,.inr ⟨d,rfl,rfl⟩⟩
  clear ab aw aq ap ao av aj;cases bw with
  | true=>
   have Q:k=1:=by have:=bd.o;simpa using this
   have K:Hid (∀ o,Ct per L o->Df Cb Ct Dl cs k per o):=fun o h=>.inr ⟨L,a5.o,.inl ⟨Q,h⟩⟩
   clear Q W;go_wp2_with fail;refine V.o.mono ?_
   rintro e z ⟨o,h,H,⟨ac,O,rfl,N⟩|⟨d,Y,rfl⟩⟩
   ·
    obtain⟨a0,v,rfl⟩:=N.some_ (by decide);obtain⟨ad,a7,Z⟩:=bg.o o z (K.o o h) H ac;have E:=qX Z;clear h H ac N Z V;go_wp2
    go_quiet (fail);go_wp2
    go_ret2;exact E.o nq
   rw[Y]at h;have E:=qX (a1.o d z (K.o _ h) H);clear h H Y V;go_wp2
   go_ret2;exact E.o
  | false=>
   have Q:k≠1:=by have:=bd.o;simpa using this
   have K:Hid (∀ o,Dl per L o->Df Cb Ct Dl cs k per o):=fun o h=>.inr ⟨L,a5.o,.inr ⟨Q,h⟩⟩
   clear Q V;go_wp2_with fail;refine W.o.mono ?_
   rintro e z ⟨o,h,H,⟨ac,O,rfl,N⟩|⟨d,Y,rfl⟩⟩
   ·
    obtain⟨a0,v,rfl⟩:=N.some_ (by decide);obtain⟨ad,a7,Z⟩:=bg.o o z (K.o o h) H ac;have E:=qX Z;clear h H ac N Z W;go_wp2
    go_quiet (fail);go_wp2
    go_ret2;exact E.o nq
   rw[Y]at h;have E:=qX (a1.o d z (K.o _ h) H);clear h H Y W;go_wp2
   go_ret2;exact E.o
 have I:=qX (aE.o.tr ab);have a7:=(J.o.below I.o).c3;have E:Hid (∀ q,∃ o,Df Cb Ct Dl cs k per o/\NumEnd o w (.returned (.tuple #[.int .i64 0,.iface 308 (.pointer (some (U 3)))])) (D.drewN q)):=fun q=>⟨none,.inl ⟨a3,rfl⟩,qL I.o q,.inl ⟨rfl,_,rfl,Bo (J.o.below (qL I.o q)) 3 (by omega)⟩⟩
 clear ab a3;go_wp2
 go_quiet (fail);go_wp2
 go_ret2;exact E.o nq
end
theorem FB:Yh Cb Ct Dl where
 way:=JX
 sumOf:=dJ
 delay1:=Ti
 busy1:=VG
 delay:=V8
 busy:=YV
 bad:=fun E D cs kb per I K ns w H c p N O W V=>QZ E _ D kb per I _ K w c p V fun J z=>EY E D cs kb per I K ns J H c p (N.below z) (O.below z) W
 good:=fun E D cs kb per I K ns w H N O h=>by
  refine QE E _ D kb per I _ K w cs _ rfl H N h.per.1 h.per.2 (fun f U=>?_) (fun J z=>EY E D cs kb per I K ns J H 0 (-1) (N.below z) (O.below z) ?_) (fun J z=>Uy E D cs J H (N.below z) (O.curves.below z) h.len O.cfit h.curves)
  · obtain⟨ls,Q,-⟩:=Ab cs f (by rw[h.len];exact U);rw[Cx Q];exact h.curves f ls U Q
  exact .inr (.inr ⟨h.len,h.curves,rfl,.inr ⟨h.kind.1,h.kind.2,.inr ⟨h.per.1,h.per.2,0,h.nums,rfl⟩⟩⟩)
def Dz (c n:Int)(w:World)(e:Ending)(w':World):Prop:=∃ z h p,e=.returned (.tuple #[.int .i64 z,h])/\Ba w' h c p/\(c=0->z=n)/\zW w w'
def Pd (c:Int)(l:List Sn)(w:World)(e:Ending)(w':World):Prop:=
 ∃ D n z h p,e=.returned (.tuple #[.slice D n z,h])/\Ba w' h c p/\(c=0->n=l.length/\Ji w' D z l)/\zW w w'
theorem Mj {s:Scr}{f:Nat}{ls:lI}(h:s.cs[f]? = some ls):Ae s.cs f=ls:=Cx h
section
variable (w0:World) (ad:Nat → Addr) (N g cb:Nat) (hS:Site w0 ad N g cb) (s:Scr) (w:World) (hw:Below w0.heap.size w0 w) (hp:AU w N g cb s) (ho:Bq s)
theorem aL (w0:World)(D:Nat->Addr)(a5 g a9:Nat)(a0:Site w0 D a5 g a9)(s:Scr)(w:World)(aS:zW w0 w)(a3:AU w a5 g a9 s)(av:Bq s)(al:Nat)(ws:List (List UInt8))(an:CO w (some ⟨al,0,none⟩) ws)(ai:Fb ws)(c n:Int)(I:ZW s ws c n):Calls Tryz.prog 74 #[.pointer (some ⟨g,0,none⟩),.slice (some ⟨al,0,none⟩) ws.length ws.length] w fun e w'=>Dz c n w e w':=by
 have U:=a0.env.below aS;have ar:Hid (∀ E,zW w E->c=1->Dz c n w (.returned (.tuple #[.int .i64 0,.iface 308 (.pointer (some (D 0)))])) E):=fun E am z=>by
  subst z;exact⟨0,_,-1,rfl,Bo (U.below am).errs 0 (by decide),(fun h=>by cases h),am⟩
 have bm:=U.errs.c0;have aB:=qZ a3 av U;by_cases O:ws.length=2
 ·
  obtain⟨x,y,rfl⟩:∃ x y,ws=[x,y]:=by
   match ws,O with
   | [x,y],_=>exact⟨x,y,rfl⟩
  obtain⟨bj,a8⟩:w.cell? ⟨al,0,none⟩=some (Ad x)/\w.cell? ⟨al,1,none⟩=some (Ad y):=by
   obtain⟨b,b2,e,bw,I⟩:=an.place (by simp);cases e
   exact⟨I 0 x rfl,I 1 y rfl⟩
  have bb:Hid (Calls Tryz.prog 88 #[Ad x] w fun e w'=>CG (D 0) (Em x) w e w'):=Ot ⟨x.toArray⟩ w (D 0) U.errs.c0 (by have:=ai.2 x (by simp);show x.toArray.size<=_;simp;omega);have a':Hid (∀ E,zW w E->Calls Tryz.prog 90 #[Ad y] E fun e w'=>CG (D 0) (Fp y) E e w'):=fun E am=>GX ⟨y.toArray⟩ E (D 0) (U.below am).errs.c0 (by have:=ai.2 y (by simp);show y.toArray.size<=_;simp;omega)
  have a1:=qX I;clear an ai I O a0 aS a3 av U;go_in
  go_wp2_with fail;refine bb.o.mono ?_
  rintro e aw ⟨ab,⟨K,rfl⟩|⟨f,K,rfl⟩⟩
  ·
   have J:Hid (Dz c n w (.returned (.tuple #[.int .i64 0,.iface 308 (.pointer (some (D 0)))])) aw):=by
    refine ar.o aw ab ?_
    obtain⟨h,-⟩|⟨be,a7,e,⟨-,h⟩|⟨f,h,-⟩⟩:=a1.o
    · exact absurd rfl h
    · exact h
    cases e
    rw[K]at h;cases h
   clear K ab;go_wp2
   go_ret2;exact J.o
  have bs:0<=f/\f<8:=by
   unfold Em at K;obtain⟨aN,-,ao⟩:=Option.bind_eq_some_iff.1 K;split at ao
   · rename_i h8;cases ao;exact h8
   cases ao
  have N:=qY ab K;have bh:=j7 ab a8;clear K ab bm bj a8;go_wp2_with fail;refine(a'.o aw N.o.1).mono ?_
  rintro e W ⟨ad,⟨Q,rfl⟩|⟨t,Q,rfl⟩⟩
  ·
   have J:Hid (Dz c n w (.returned (.tuple #[.int .i64 0,.iface 308 (.pointer (some (D 0)))])) W):=by
    refine ar.o W (N.o.1.tr ad) ?_
    obtain⟨h,-⟩|⟨be,a7,e,⟨h,-⟩|⟨bp,h,⟨-,z⟩|⟨t,p,z,-⟩⟩⟩:=a1.o
    · exact absurd rfl h
    ·
     cases e
     rw[N.o.2]at h;cases h
    · exact z
    cases e
    rw[Q]at z;cases z
   clear Q ad;go_wp2
   go_ret2;exact J.o
  have V:=N.o.1.tr ad;obtain⟨p,aj,aE⟩:∃ p,Ch (Ae s.cs f.toNat) c p/\(c=0->n=Bu t (Ae s.cs f.toNat)):=by
   obtain⟨h,-⟩|⟨be,a7,e,⟨h,-⟩|⟨bp,h,⟨z,-⟩|⟨b1,p,z,O,bt⟩⟩⟩:=a1.o
   · exact absurd rfl h
   ·
    cases e
    rw[N.o.2]at h;cases h
   ·
    cases e
    rw[Q]at z;cases z
   cases e
   rw[N.o.2]at h;obtain rfl:=Option.some.inj h;rw[Q]at z;obtain rfl:=Option.some.inj z;exact⟨p,O,bt⟩
  have bv:=Qt Q;obtain⟨Y,rfl⟩:∃ Y:Nat,f=Y:=⟨f.toNat,by omega⟩
  have bk:Y<8:=by omega
  obtain⟨bx,b0,bN,bd⟩:=aB.o.1;have a2:=bd.below V;obtain⟨ls,ap,-⟩:=Ab s.cs Y (by rw[aB.o.2.1.gate.len];exact bk);obtain⟨a,cap,H⟩:=a2.curves Y ls ap;rw[yB,Mj ap]at aj aE;have bc:Hid (Calls Tryz.prog 97 #[.slice a ls.length cap,.int .i64 t] W fun e w'=>Dz c n w e w'):=by
   by_cases aq:c=0
   ·
    subst aq;refine(jZ a cap ls t W H.lies aj.ok.1 H.le H.max bv.1 (by omega)).mono ?_
    rintro e w' ⟨rfl,a4⟩;exact⟨_,_,-1,rfl,DK _,fun _=>(aE rfl).symm,V.tr a4⟩
   refine(dC a cap ls t W D (aB.o.2.2.below V).errs H.lies H.le H.max c p aj aq).mono ?_
   rintro e w' ⟨bT,v,rfl,ac,a4⟩;exact⟨0,_,p,rfl,ac,fun h=>absurd h aq,V.tr a4⟩
  have b3:=a2.c0;have bg:=H.cell;obtain⟨m,Z⟩:=ex ls.length;rw[Z]at bg bc;clear Q ad V aj aE bd a2 H ap Z bh N a' bb bs;go_wp2_with fail;refine bc.o.mono ?_
  rintro e bq ⟨aN,a6,q,rfl,ac⟩;have J:Hid (Dz c n w (.returned (.tuple #[.int .i64 aN,a6])) bq):=⟨aN,a6,q,rfl,ac⟩
  clear ac;go_wp2
  go_ret2;exact J.o
 have bl:((ws.length:Int)==2)=false:=by simp;omega
 have J:Hid (∀ q,Dz c n w (.returned (.tuple #[.int .i64 0,.iface 308 (.pointer (some (D 0)))])) (w.drewN q)):=fun q=>by
  refine ar.o _ (qL br q) ?_
  obtain⟨-,h⟩|⟨x,y,h,-⟩:=I
  · exact h
  rw[h]at O;exact absurd rfl O
 obtain⟨m,Z⟩:=ex ws.length;rw[Z]at bl ⊢;clear O an ai I Z a0 aS a3 av U;go_in
 go_wp2
 go_quiet (fail);go_wp2
 go_ret2;exact J.o nq
theorem Q5 {cs:List lI}{k:Nat}{per:Int}{ns:List Int}{ps:List Pk}{p:Int}(h:KG cs k per ns ps 0 p):GA cs k per ns/\Al ps/\∀ i,¬Bg (Ae cs) ps i:=by
 rcases h with⟨-,h⟩|⟨-,-,h⟩|⟨-,-,i,-,-,h,-⟩|⟨E,D,z,-,-⟩
 · omega
 · omega
 · omega
 exact⟨E,D,z⟩
theorem Sm {cs:List lI}{k:Nat}{per:Int}{ns:List Int}{ps:List Pk}{c p:Int}(h:KG cs k per ns ps c p)(z:c≠0):0<c:=by
 rcases h with⟨-,h⟩|⟨-,-,h⟩|⟨-,-,i,-,-,h,-⟩|⟨-,-,-,h,-⟩ <;> omega
def UF (c:Int)(qs:List Pk)(l:List Sn)(w:World)(e:Ending)(w':World):Prop:=
 ∃ D h E H n I z p,e=.returned (.tuple #[.slice D h E,.slice H n I,z])/\Ba w' z c p/\(c=0->h=qs.length/\n=l.length/\CU w' D E qs/\Ji w' H I l)/\zW w w'
theorem Ol (w0:World)(K:Nat->Addr)(Y g h:Nat)(aw:Site w0 K Y g h)(s:Scr)(w:World)(av:zW w0 w)(z:Bq s)(D:oA)(E:Nat)(Z:Value)(al:CF w Y g h D E Z s)(c p:Int)(qs:List Pk)(l:List Sn)(O:KG s.cs (kindOf s.kb) s.per s.ns s.ps c p)(ar:c=0->Cy (Ae s.cs) (kindOf s.kb) s.per s.ns s.ps qs l):Calls Tryz.prog 78 #[.agg #[.slice (some ⟨h,0,none⟩) 8 8,Ad s.kb,.int .i64 s.per,.slice D s.ns.length E],Z] w fun e w'=>UF c qs l w e w':=by
 have am:=aw.env.below av;have ad:=al.gate z.gate.len (Il z (ns:=s.ns) (by rcases z.gate.nums.len with H|H;rw[H.2];decide;omega));obtain⟨ac,an,rfl,ai⟩:=BD.value al.pks;by_cases N:c=0
 ·
  subst N;obtain⟨aB,ab,aq⟩:=Q5 O;have:=Lv.good (some ⟨h,0,none⟩) 8 s.cs ⟨s.kb.toArray⟩ s.per D E s.ns ac an s.ps w K am.errs ad ai (by rw[ByteArray.toList_mk];exact aB) ab aq;rw[z.gate.len]at this;refine this.mono ?_
  rintro e w' ⟨V,I,W,Q,aN,aE,rfl,U,J,aj,ao⟩;rw[ByteArray.toList_mk]at aj;obtain⟨rfl,rfl⟩:=aj.same ab (ar rfl);exact⟨V,_,I,W,_,Q,_,-1,rfl,DK _,fun _=>⟨rfl,rfl,U,J⟩,ao⟩
 have:=Lv.bad (some ⟨h,0,none⟩) 8 s.cs ⟨s.kb.toArray⟩ s.per D E s.ns ac an s.ps w K c p am.errs ad ai (by rw[ByteArray.toList_mk];exact O) (Sm O N);rw[z.gate.len]at this;refine this.mono ?_
 rintro e w' ⟨V,I,W,Q,ap,rfl,U,J⟩;exact⟨V,0,I,W,0,Q,ap,p,rfl,U,fun H=>absurd H N,J⟩
theorem Yp (w0:World)(ai:Nat->Addr)(V g H:Nat)(K:Site w0 ai V g H)(s:Scr)(w:World)(aE:zW w0 w)(a3:AU w V g H s)(ar:Bq s)(c:Int)(l:List Sn)(a1:dO s c l):Calls Tryz.prog 56 #[.pointer (some ⟨g,0,none⟩)] w fun e w'=>Pd c l w e w':=by
 obtain⟨p,am,aq⟩:=a1;obtain⟨qs,Z⟩:∃ qs,c=0->Cy (Ae s.cs) (kindOf s.kb) s.per s.ns s.ps qs l:=by
  by_cases aj:c=0
  · obtain⟨qs,E⟩:=aq aj;exact⟨qs,fun _=>E⟩
  exact⟨[],fun E=>absurd E aj⟩
 obtain⟨O,U,Q,D⟩:=a3;have N:Hid (∀ h,zW w h->Calls Tryz.prog 78 #[.agg #[.slice (some ⟨H,0,none⟩) 8 8,Ad s.kb,.int .i64 s.per,.slice O s.ns.length U],Q] h fun e w'=>UF c qs l h e w'):=fun h z=>Ol w0 ai V g H K s h (aE.tr z) ar O U Q (D.below z) c p qs l am Z
 have av:=D.c0;have ad:=D.c1;have ap:=D.c2;have aS:=D.c3;have al:=D.c4;have I:Hid (∀ h,zW w h->h.cell? ⟨g,0,none⟩=some (.slice (some ⟨H,0,none⟩) 8 8)/\h.cell? ⟨g,1,none⟩=some (Ad s.kb)/\h.cell? ⟨g,2,none⟩=some (.int .i64 s.per)/\h.cell? ⟨g,3,none⟩=some (.slice O s.ns.length U)/\h.cell? ⟨g,4,none⟩=some Q):=fun h z=>⟨j7 z av,j7 z ad,j7 z ap,j7 z aS,j7 z al⟩
 obtain⟨kb,aw⟩:=ex s.kb;obtain⟨per,an⟩:=ex s.per;obtain⟨r,ac⟩:=ex s.ns.length;rw[aw]at I N;rw[an]at I N;rw[ac]at I N;have J:Hid (zW w w.drew):=qL br 1;have K:=I.o _ J.o;clear am aq Z D av ad ap aS al aw an ac aE ar;go_in
 go_wp2_with fail;go_region_held3 (fun w'=>w'.cell? ⟨g,0,none⟩=some (.slice (some ⟨H,0,none⟩) 8 8)/\w'.cell? ⟨g,1,none⟩=some (Ad kb)/\w'.cell? ⟨g,2,none⟩=some (.int .i64 per)/\w'.cell? ⟨g,3,none⟩=some (.slice O r U)/\w'.cell? ⟨g,4,none⟩=some Q)
  (first | exact K)
  (first
  | (go_at_call 78;refine (N.o _ J.o).mono ?_;rintro e a0 ⟨a6,a4,a5,aN,n,ao,ab,q,rfl,aB,W,Y⟩;have a2:Hid (Pd c l w (.returned (.tuple #[.slice aN n ao,ab])) a0):=⟨aN,n,ao,ab,q,rfl,aB,(fun E=>⟨(W E).2.1,(W E).2.2.2⟩),J.o.tr Y⟩;have K:=I.o a0 (J.o.tr Y);clear aB W Y))
 all_goals
  clear K I N J;go_wp2
  go_ret2;exact a2.o
end
end Go.Proofs.YtejlihcdfffafaaGreatDoor
