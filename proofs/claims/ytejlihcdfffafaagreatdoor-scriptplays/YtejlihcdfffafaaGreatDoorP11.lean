import Derived.Test.YtejlihcdfffafaaGreatDoorP10
import Derived.Test.YtejlihcdfffafaaGreatDoorP09
import Derived.Deep.Onto
import Derived.Laws.Rows
set_option maxHeartbeats 8000000
set_option maxRecDepth 100000
namespace Go.Proofs.YtejlihcdfffafaaGreatDoor
open Go.RowKit
theorem Tryz.infoBool:(Tryz.prog.info? 4).map (fun i=>(i.zero,i.size,i.bytes))=some (some (.bool false),1,1):=by kernel_rfl
def EI (per:Int)(ps:List Pk)(h:List Int)(w:World)(e:Ending)(w':World):Prop:=∃ v l,e=.returned v/\DX w' w.heap.size v l/\EE per ps h l/\l.length=ps.length/\zW w w'
theorem KV (a:oA)(cap:Nat)(ps:List Pk)(per:Int)(cl:oA)(cv:Nat)(D:List Int)(w:World)(b1:Aw w a ps)(bc:AR w cl D)(ck:D.length=ps.length)(bk:Al ps)(cE:1<=per)(cS:per<=1000):Calls Tryz.prog 67 #[.slice a ps.length cap,.int .i64 per,.slice cl ps.length cv] w fun e w'=>EI per ps D w e w':=by
 have aB:=qY b1 bk;have bm:=qY bc ck;have cU:=bk.few;clear b1 bc ck bk;obtain⟨n,a6⟩:=ex ps.length;have N:=qX a6;rw[a6]at cU ⊢;have c':∀ w':World,(Instr.makeSlice 120 (.int .i64 n) (.int .i64 n)).run Tryz.prog w'=.ok (.slice (some ⟨w'.heap.size,0,none⟩) n n) (w'.alloc (.cells (madeCells #[.bool false] n) 4)):=fun w'=>by
  obtain⟨bx,a1,bb,bw,b0⟩:=vL Tryz.infoBool;have:=yW (P:=Tryz.prog) w' 120 4 bx (.bool false) Tryz.underlying120 a1 bb .i64 .i64 n n (by omega) (by omega) (by rw[b0];omega) (by omega);simpa[bw,Value.cells]using this
 have cV:Hid (EC per ps D w (w.alloc (.cells (madeCells #[.bool false] n) 4)) (.slice none 0 0) w.heap.size [] 0 1):=
  ⟨UT _ _ _,qQ _ _ _ _,by rw[a6];exact Ny w n _,(fun a4=>by cases a4),lr,ba⟩
 obtain⟨bx,a1,bb,bw,b0⟩:=vL Tryz.infoSent;clear a6;go_in
 go_wp2_with fail;obtain⟨g,bs⟩:=ex w.heap.size;have cp:=qX bs;rw[bs];clear bs;go_loopg [7,9] (2*n+1) (fun cx v t wr=>∃ out z f,cx=2*(n-out.length)+f/\t=.int .i64 z/\EC per ps D w wr v g out z f)
 case atStart=>exact⟨[],0,1,by simp,rfl,by have:=cV.o;rwa[cp.o]at this⟩
 case round=>
  obtain⟨out,z,f,rfl,rfl,ap⟩:=hrel;obtain⟨aN,cq⟩:∃ I,I=wr:=⟨_,rfl⟩
  subst cq;have an:=qX ap;have cN:=ap.seeks.len;have c0:=ap.seeks.low;have c4:=ap.seeks.high;rw[N.o]at cN;obtain⟨av,a2,b9,c6,cw,-,-,-⟩:=ap.own.open;have c9:=qX b9;unfold maxLen at cw;clear ap;subst b9;by_cases ci:out.length<n
  ·
   go_wp2_with fail;go_loopw [10,11,12] (fun b cW i cA=>∃ k:Nat,k<=n/\i=.int .i64 k/\b=.int .i64 (Cw (scan ps D out z k))/\cW=.int .i64 (Cw (CK out k))/\∃ q,cA=aN.drewN q) (fun _ _ i _=>n-(intOf i).toNat)
   case atStart=>exact⟨0,qR _,rfl,rfl,rfl,0,rfl⟩
   case round=>
    obtain⟨k,bc,rfl,rfl,rfl,q,rfl⟩:=hrel;by_cases bN:k<n
    ·
     have d1:=an.o.done.cell k (by rw[N.o];exact bN);obtain⟨p,V,-⟩:=Ab ps k (by rw[N.o];exact bN);obtain⟨b,bt,rfl,-,ao⟩:=aB.o.1.place (by rw[N.o];omega);obtain⟨kb,b6,rfl,-,ch⟩:=bm.o.1.place (by rw[bm.o.2,N.o];omega);have b':Hid (∀ i,i<n->aN.cell? ⟨kb,b6+i,none⟩=some (.int .i64 (D.getD i 0))):=fun i a1=>by
      obtain⟨x,am,-⟩:=Ab D i (by rw[bm.o.2,N.o];exact a1);rw[List.getD_eq_getElem?_getD,am];exact j7 an.o.below (ch i x am)
     have a8:=j7 an.o.below (ao k p V).2.2;have cP:=qX (Av V);generalize p.tick=O at *;clear ao ch V;obtain⟨ac,U⟩:=ex (Cw (scan ps D out z k));obtain⟨aq,bg⟩:=ex (Cw (CK out k));have a9:=qX U;have b8:=qX bg;rw[U,bg];clear U bg;cases al:Ay out k with
     | true=>
      rw[al]at d1;have K:Hid (Cw (scan ps D out z (k+1))=ac):=by
       show _=_
       rw[<- a9.o];simp only[scan];rw[if_pos al]
      have W:Hid (Cw (CK out (k+1))=aq):=by
       show _=_
       rw[<- b8.o];simp only[CK];rw[if_pos al]
      clear al a8;go_wp2
      go_roundw
      case rel=>exact⟨k+1,by omega,by go_num,by rw[K.o],by rw[W.o],_,rfl⟩
      case measure=>simp[intOf];omega
     | false=>
      rw[al]at d1;have bq:¬Ay out k=true:=by rw[al];simp
      have cC:Hid (scan ps D out z (k+1)=if Ar ps k<=z/\(∀ b,scan ps D out z k=some b->D.getD k 0<D.getD b 0)then some k else scan ps D out z k):=by
       show _=_
       rw[scan,if_neg bq]
      have bd:Hid (CK out (k+1)=match CK out k with | some f=>some f | none=>some k):=by
       show _=_
       rw[CK,if_neg bq];rfl
      obtain⟨cy,ar⟩:=ex (if aq<0 then(k:Int)else aq);have W:Hid (Cw (CK out (k+1))=cy):=by
       show _=_
       rw[bd.o,<- ar,<- b8.o];cases CK out k with
       | none=>simp[Cw]
       | some cT=>
        have cQ:¬Cw (some cT)<0:=by simp only[Cw];omega
        rw[if_neg cQ]
      have cX:=b'.o k bN;generalize cD:D.getD k 0=aj at *;have b2:(z<O/\Cw (scan ps D out z (k+1))=ac)\/(O<=z/\ac<0/\Cw (scan ps D out z (k+1))=k)\/(O<=z/\∃(h:Nat)(ab:Int),h<n/\ac=h/\aN.cell? ⟨kb,b6+h,none⟩=some (.int .i64 ab)/\((aj<ab/\Cw (scan ps D out z (k+1))=k)\/(¬aj<ab/\Cw (scan ps D out z (k+1))=ac))):=by
       rw[cC.o,cP.o];rcases vV z O with J|J
       · refine .inl ⟨J,?_⟩;rw[if_neg (fun a4=>by omega)];exact a9.o
       cases Y:scan ps D out z k with
       | none=>
        refine .inr (.inl ⟨J,?_,?_⟩)
        · have:=a9.o;rw[Y]at this;rw[<- this];decide
        rw[if_pos ⟨J,fun b a'=>by cases a'⟩];rfl
       | some h=>
        have U:ac=h:=by
         have:=a9.o;rw[Y]at this;exact this.symm
        have c3:=(NQ _ _ Y).1;refine .inr (.inr ⟨J,h,D.getD h 0,by omega,U,b'.o h (by omega),?_⟩);by_cases am:aj<D.getD h 0
        · exact .inl ⟨am,by rw[if_pos ⟨J,fun b a'=>by obtain rfl:=Option.some.inj a';exact am⟩];rfl⟩
        exact .inr ⟨am,by rw[if_neg (fun a4=>am (a4.2 h rfl)),U];rfl⟩
      have cm:=qX b2;clear b2 al bq cD;by_cases b5:aq<0
      ·
       rw[if_pos b5]at ar;subst ar;rcases cm.o with⟨J,H⟩|⟨J,bv,H⟩|⟨J,h,ab,a5,U,cI,⟨ad,H⟩|⟨ad,H⟩⟩
       ·
        have K:=qX H;have ai:decide (O<=z)=false:=qF (by omega);clear H;go_wp2
        go_quiet (fail);go_wp2
        go_roundw
        case rel=>exact⟨k+1,by omega,by go_num,by rw[K.o],by rw[W.o],_,rfl⟩
        case measure=>simp[intOf];omega
       ·
        have K:=qX H;have ai:decide (O<=z)=true:=qM J;have a0:decide (ac<0)=true:=qM bv;clear H;go_wp2
        go_quiet (fail);go_wp2
        go_roundw
        case rel=>exact⟨k+1,by omega,by go_num,by rw[K.o],by rw[W.o],_,rfl⟩
        case measure=>simp[intOf];omega
       ·
        have K:=qX H;subst U;have ai:decide (O<=z)=true:=qM J;have a0:decide ((h:Int)<0)=false:=qF (by omega);have bp:decide (aj<ab)=true:=qM ad;clear H;go_wp2
        go_quiet (fail);go_wp2
        go_roundw
        case rel=>exact⟨k+1,by omega,by go_num,by rw[K.o],by rw[W.o],_,rfl⟩
        case measure=>simp[intOf];omega
       have K:=qX H;subst U;have ai:decide (O<=z)=true:=qM J;have a0:decide ((h:Int)<0)=false:=qF (by omega);have bp:decide (aj<ab)=false:=qF ad;clear H;go_wp2
       go_quiet (fail);go_wp2
       go_roundw
       case rel=>exact⟨k+1,by omega,by go_num,by rw[K.o],by rw[W.o],_,rfl⟩
       case measure=>simp[intOf];omega
      rw[if_neg b5]at ar;subst ar;rcases cm.o with⟨J,H⟩|⟨J,bv,H⟩|⟨J,h,ab,a5,U,cI,⟨ad,H⟩|⟨ad,H⟩⟩
      ·
       have K:=qX H;have ai:decide (O<=z)=false:=qF (by omega);clear H;go_wp2
       go_quiet (fail);go_wp2
       go_roundw
       case rel=>exact⟨k+1,by omega,by go_num,by rw[K.o],by rw[W.o],_,rfl⟩
       case measure=>simp[intOf];omega
      ·
       have K:=qX H;have ai:decide (O<=z)=true:=qM J;have a0:decide (ac<0)=true:=qM bv;clear H;go_wp2
       go_quiet (fail);go_wp2
       go_roundw
       case rel=>exact⟨k+1,by omega,by go_num,by rw[K.o],by rw[W.o],_,rfl⟩
       case measure=>simp[intOf];omega
      ·
       have K:=qX H;subst U;have ai:decide (O<=z)=true:=qM J;have a0:decide ((h:Int)<0)=false:=qF (by omega);have bp:decide (aj<ab)=true:=qM ad;clear H;go_wp2
       go_quiet (fail);go_wp2
       go_roundw
       case rel=>exact⟨k+1,by omega,by go_num,by rw[K.o],by rw[W.o],_,rfl⟩
       case measure=>simp[intOf];omega
      have K:=qX H;subst U;have ai:decide (O<=z)=true:=qM J;have a0:decide ((h:Int)<0)=false:=qF (by omega);have bp:decide (aj<ab)=false:=qF ad;clear H;go_wp2
      go_quiet (fail);go_wp2
      go_roundw
      case rel=>exact⟨k+1,by omega,by go_num,by rw[K.o],by rw[W.o],_,rfl⟩
      case measure=>simp[intOf];omega
    obtain rfl:k=n:=by omega
    have bj:Hid (EC per ps D w (aN.drewN q) (.slice av out.length a2) g out z f):=an.o.later (qL br _);obtain⟨I,bh⟩:=ex (aN.drewN q);rw[bh]at bj;rw[bh];have Q:=qX bj;clear bh bj;obtain⟨b,bt,rfl,-,ao⟩:=aB.o.1.place (by rw[N.o];omega);have cc:Hid (∀(i:Nat) p,ps[i]? = some p->I.cell? ⟨b,bt+i*3+1,none⟩=some (.int .i64 p.size)/\I.cell? ⟨b,bt+i*3+2,none⟩=some (.int .i64 p.tick)):=fun i p V=>⟨j7 Q.o.below (ao i p V).2.1,j7 Q.o.below (ao i p V).2.2⟩
    clear ao;cases Y:scan ps D out z k with
    | none=>
     obtain⟨cb,ct,p,a3,b7,cd⟩:=Q.o.seeks.idle aB.o.2 (by rw[N.o];exact Y) (by rw[N.o];exact ci);rw[N.o]at a3;have c8:=(PV _ _ a3).1;have a8:=(cc.o ct p b7).2;rw[a3];have co:Hid (EC per ps D w I (.slice av out.length a2) g out p.tick 0):=⟨cd,Q.o.own,Q.o.done,Q.o.apart,Q.o.new,Q.o.below⟩
     have bd:=qX cb;show Code.wp _ _ _ _ _
     simp only[Cw];generalize p.tick=O at *;clear Y a3 b7 cd cb;go_wp2
     go_roundg (2*(k-out.length)+0)
     case measure=>have:=bd.o;omega
     case rel=>exact⟨out,O,0,rfl,rfl,co.o⟩
    | some h=>
     have a5:=(NQ _ _ Y).1;obtain⟨p,V,-⟩:=Ab ps h (by rw[N.o];exact a5);have a8:=(cc.o h p V).1;obtain⟨-,-,s1,bl,-,-⟩:=A7 (aB.o.2.each _ _ V).1;have cj:0<=per*p.size:=vG (by omega) (by omega);have cf:per*p.size<=1000*1500:=yD (by omega) bl (by omega) (by omega);have aw:=Q.o.seeks.send aB.o.2 cE cS (by rw[N.o];exact Y) V (by rw[N.o];exact ci);obtain⟨y,b4⟩:=ex p.size;obtain⟨m,bT⟩:=ex (per*y);obtain⟨E,a7⟩:=ex (z+m);rw[b4]at a8 s1 bl cj cf aw;rw[bT]at cj cf aw;rw[a7]at aw;have c7:IntKind.i64.wrap (per*y)=m:=by rw[bT];exact vY _ (by omega)
     have da:IntKind.i64.wrap (z+m)=E:=by rw[<- a7];exact vY _ (by omega)
     have cG:=qX aw;have c1:=qX a7;have Z:Hid (EC per ps D w ((I.alloc (.cells #[.int .i64 h,.int .i64 z,.int .i64 E] 61)).alloc (.cells #[.int .i64 h,.int .i64 z,.int .i64 E] 61)) (.slice av out.length a2) g out z f):=Q.o.later (ba.alloc (by simp) _);have cL:Hid (∀ j u,(cellsS [⟨h,z,E⟩])[j]? = some u->((I.alloc (.cells #[.int .i64 h,.int .i64 z,.int .i64 E] 61)).alloc (.cells #[.int .i64 h,.int .i64 z,.int .i64 E] 61)).cell? ((⟨I.heap.size+1,0,none⟩:Addr).add j)=some u):=World.news_of_block (cs:=#[.int .i64 h,.int .i64 z,.int .i64 E]) (t:=61) (by have:=vZ (I.alloc (.cells #[.int .i64 h,.int .i64 z,.int .i64 E] 61)) (.cells #[.int .i64 h,.int .i64 z,.int .i64 E] 61);simpa using this);have cn:Hid (((I.alloc (.cells #[.int .i64 h,.int .i64 z,.int .i64 E] 61)).alloc (.cells #[.int .i64 h,.int .i64 z,.int .i64 E] 61)).cell? ⟨I.heap.size,2,none⟩=some (.int .i64 E)):=j7 ba (by simp);have ca:Hid (w.heap.size<=((I.alloc (.cells #[.int .i64 h,.int .i64 z,.int .i64 E] 61)).alloc (.cells #[.int .i64 h,.int .i64 z,.int .i64 E] 61)).heap.size/\I.heap.size<((I.alloc (.cells #[.int .i64 h,.int .i64 z,.int .i64 E] 61)).alloc (.cells #[.int .i64 h,.int .i64 z,.int .i64 E] 61)).heap.size/\((I.alloc (.cells #[.int .i64 h,.int .i64 z,.int .i64 E] 61)).alloc (.cells #[.int .i64 h,.int .i64 z,.int .i64 E] 61)).heap.size=I.heap.size+2):=⟨Z.o.below.size,by simp;omega,by simp⟩
     have cF:Hid (some I.heap.size≠(Value.slice av out.length a2).ownBlock):=fun e=>by
      have:=(Aq Q.o.own e.symm).2;omega
     have be:Hid (g<I.heap.size/\h<ps.length):=⟨Q.o.done.lt,by rw[N.o];exact a5⟩
     generalize Cw (CK out k)=aq;rw[show Cw (some h)=(h:Int)from rfl];clear Y V s1 bl aw b4 bT a7;go_wp2_with (at_builtin;go_must (refine wpList_append_lies _ rfl _ _ 57 rfl w.heap.size 61 bx (.agg #[.int .i64 0,.int .i64 0,.int .i64 0]) 3 24 Tryz.underlying57 a1 bb bw b0 rfl (by decide) (.slice av out.length a2) out.length (cellsS out) rfl Z.o.own ⟨I.heap.size+1,0,none⟩ 1 1 (cellsS [⟨h,z,E⟩]) rfl rfl cL.o (FL _) (by decide) (by unfold maxLen;omega) (by omega) ca.o.1 _ rfl ?_;intro cu cR aS cg aE b3 cJ;have ce:aS.cell? ⟨I.heap.size,2,none⟩=some (.int .i64 E):=(aE.cell_far ⟨I.heap.size,2,none⟩ ca.o.2.1 cF.o).trans cn.o;have c5:aS.cell? ⟨g,h,none⟩=some (.bool (Ay out h)):=(aE.cell_far ⟨g,h,none⟩ Z.o.done.lt (fun e=>Z.o.apart e.symm)).trans (Z.o.done.cell h be.o.2);have cY:aS.frozen? ⟨g,h,none⟩=false:=(aE.frozen_far ⟨g,h,none⟩ Z.o.done.lt (fun e=>Z.o.apart e.symm)).trans (Z.o.done.frozen h);have c2:(aS.setCell ⟨g,h,none⟩ (.bool true)).cell? ⟨I.heap.size,2,none⟩=some (.int .i64 E):=(j9 _ _ _ _ (by intro e;have cM:=congrArg Addr.block e;have:=be.o.1;simp at cM;omega)).trans ce;have cH:Hid (EC per ps D w (aS.setCell ⟨g,h,none⟩ (.bool true)) (.slice (some ⟨cu,0,none⟩) (out.length+1) cR) g (out++[⟨h,z,E⟩]) E 1):=Z.o.grown cg aE b3 h be.o.2 rfl E 1 cG.o;clear cg aE b3 cJ ce))
     go_roundg (2*(k-(out.length+1))+1)
     case measure=>omega
     case rel=>exact⟨out++[⟨h,z,E⟩],E,1,by simp,rfl,cH.o⟩
  go_wp2
  go_ret;exact⟨_,out,rfl,an.o.own,an.o.seeks.sched,by have:=N.o;omega,an.o.below⟩
theorem Tryz.methodCome (x:Value) (w:World):(Go.method 438 256 x "Come").run Tryz.prog w=.ok (280,x) w:=by kernel_rfl
theorem Tryz.methodPick (x:Value) (w:World):(Go.method 438 256 x "Pick").run Tryz.prog w=.ok (281,x) w:=by kernel_rfl
theorem Tryz.methodRest (x:Value) (w:World):(Go.method 438 256 x "Rest").run Tryz.prog w=.ok (282,x) w:=by kernel_rfl
theorem Sl {ap:Type}(D:Que ap)(N:World->(Nat->Prop)->ap->Prop)(per:Int)(ps:List Pk)(V:ap)(B:Nat)(aq aS ao:Value)(cV:IK N B)(cy:Kh D per ps V)(cc:Al ps)(bd:1<=per)(bT:per<=1000)
  (cv:∀ w Y s p,Reaches D per ps V s->ps[s.next]? = some p->N w Y s.q->Calls Tryz.prog 280 #[.agg #[aq,aS,ao],.int .i64 s.next] w fun e w'=>e=.returned (.tuple #[])/\AX N w w' Y (D.come s.q s.next))
  (cA:∀ w Y s,Reaches D per ps V s->0<D.rest s.q->N w Y s.q->Calls Tryz.prog 281 #[.agg #[aq,aS,ao]] w fun e w'=>e=.returned (.int .i64 (D.pick s.q:Nat))/\AX N w w' Y (D.left s.q))
  (cE:∀ w Y s,Reaches D per ps V s->N w Y s.q->Calls Tryz.prog 282 #[.agg #[aq,aS,ao]] w fun e w'=>e=.returned (.int .i64 (D.rest s.q:Nat))/\AX N w w' Y (D.asked s.q))
  (a:oA) (cap:Nat) (w:World) (co:Aw w a ps) (cP:B<=w.heap.size) (cx:∀ cq,a=some cq->0<ps.length->cq.block<B) (cb:Nat->Prop) (cT:N w cb V) :
  Calls Tryz.prog 159 #[.slice a ps.length cap,.int .i64 per,.iface 256 (.agg #[aq,aS,ao])] w fun e w'=>∃ s v,e=.returned v/\Reaches D per ps V s/\¬s.next<ps.length/\D.rest s.q=0/\DX w' w.heap.size v s.out/\Below B w w'/\∃ Y,N w' Y (D.asked s.q):=by
 have I:=qV cV cP co cx;have a3:=qY cy cc;have dk:=qX cv;have c4:=qX cA;have c6:=qX cE;have ds:Hid (EO D N per ps V B w w (.slice none 0 0) ⟨[],0,0,V⟩ cb):=⟨.start,qQ _ _ _ _,cT,fun g dg=>(by cases dg),br⟩
 obtain⟨cN,cS,ct,cM,cW⟩:=vL Tryz.infoSent;have cX:=cc.few;have d0:=Tryz.methodCome;have d5:=Tryz.methodPick;have dT:=Tryz.methodRest;clear cV cy cc cv cA cE co cP cx cT;obtain⟨n,b7⟩:=ex ps.length;have W:=qX b7;rw[b7]at cX ⊢;clear b7;go_in
 go_wp2_with fail;go_loopg [7,8,9] (leftOf ps (⟨[],0,0,V⟩:St ap)) (fun c8 v t i wr=>∃ s Y,c8=leftOf ps s/\t=.int .i64 s.now/\i=.int .i64 (s.next:Nat)/\EO D N per ps V B w wr v s Y)
 case atStart=>exact⟨_,cb,rfl,rfl,rfl,ds.o⟩
 case round=>
  obtain⟨s,Y,rfl,rfl,rfl,am⟩:=hrel;obtain⟨dz,c1⟩:∃ bh,bh=wr:=⟨_,rfl⟩
  subst c1;have cR:=qX am;obtain⟨z,aE⟩:=ex s.now;have cD:=qX aE;rw[aE];clear am aE;go_wp2_with fail;go_loopg [9] (n-s.next) (fun dj i db=>∃ h a5,dj=n-h.next/\i=.int .i64 (h.next:Nat)/\h.out=s.out/\h.now=s.now/\s.next<=h.next/\EO D N per ps V B w db u7 h a5)
  case atStart=>exact⟨s,Y,rfl,rfl,rfl,rfl,lr,cR.o⟩
  case round=>
   obtain⟨h,a5,rfl,rfl,cH,cl,bm,am⟩:=hrel;have Z:=qX am;have aj:=qZ cH cl bm;obtain⟨H,bx⟩:=ex h.next;have aE:=cl.trans cD.o;have Q:=qY bx aE;have cJ:=am.reach.now_in ⟨bd,bT⟩ a3.o.2;have bl:=am.reach.count a3.o.1;have dt:=am.reach.next_le;rw[W.o,bx]at dt;have d4:h.out.length<=300:=by omega
   rw[aE]at cJ;rw[bx];clear am cH cl bm bx aE bl;have an:=qX Z.o.reach;have c9:Hid (∀ p,ps[H]? = some p->Calls Tryz.prog 280 #[.agg #[aq,aS,ao],.int .i64 H] wr fun e w'=>e=.returned (.tuple #[])/\AX N wr w' a5 (D.come h.q H)):=fun p K=>by
    have:=dk.o wr a5 h p Z.o.reach (by rw[Q.o.1];exact K) Z.o.held;rwa[Q.o.1]at this
   obtain⟨bg,a9⟩:=ex (D.rest h.q);have b0:=qX a9;have bl:=Z.o.reach.count a3.o.1;rw[a9,Q.o.1]at bl;have dX:bg<=300:=by omega
   have bt:Hid (Calls Tryz.prog 282 #[.agg #[aq,aS,ao]] wr fun e w'=>e=.returned (.int .i64 (bg:Nat))/\AX N wr w' a5 (D.asked h.q)):=by
    have:=c6.o wr a5 h Z.o.reach Z.o.held;rwa[a9]at this
   have b8:=qX bl;have cu:Hid (0<bg->D.asked h.q=h.q):=fun du=>if_neg (by rw[a9];omega)
   clear a9 bl;by_cases ce:H<n/\Ar ps H<=z
   ·
    obtain⟨ad,a4⟩:=ce;obtain⟨p,K,-⟩:=Ab ps H (by rw[W.o];exact ad);obtain⟨b,ac,rfl,dr,bp⟩:=I.o.2.2.1.place (by rw[W.o];omega);have cI:wr.cell? ⟨b,ac+H*3+2,none⟩=some (.int .i64 p.tick):=by rw[Z.o.below.cell (p:=⟨b,ac+H*3+2,none⟩) (I.o.2.2.2 ⟨b,ac,none⟩ rfl (by rw[W.o];omega))];exact(bp H p K).2.2
    have cw:=qX K;rw[Av K]at a4;have dn:=qX a4;clear bp K;go_wp2_with fail;refine(c9.o p cw.o).mono ?_
    rintro e aw ⟨rfl,O⟩;have cm:=qX O;clear O;go_wp2
    go_roundg (n-(H+1))
    case measure=>have:=Q.o.1;omega
    case rel=>
     have al:Reaches D per ps V ⟨h.out,h.now,h.next+1,D.come h.q h.next⟩:=.come h p an.o (by rw[Q.o.1];exact cw.o) (by rw[Q.o.2];exact dn.o);rw[Q.o.1]at al;obtain⟨ab,U⟩:=Z.o.called (s':=⟨h.out,h.now,H+1,D.come h.q H⟩) I.o.1 I.o.2.1 cm.o al rfl;have bm:=aj.o.2.2;rw[Q.o.1]at bm;exact⟨⟨h.out,h.now,H+1,D.come h.q H⟩,ab,rfl,by go_num,aj.o.1,aj.o.2.1,Nat.le_succ_of_le bm,U⟩
   have dm:Hid (∀ r,ps[h.next]? = some r->h.now<r.tick):=fun r al=>by
    rw[Q.o.1]at al;rw[Q.o.2];have bd:=Af al;rw[W.o]at bd;have bT:=Av al;rcases vV z r.tick with U|U
    · exact U
    exact absurd ⟨bd,by rw[bT];exact U⟩ ce
   have cF:Hid (0 < bg -> ∀ b2 ab ,EO D N per ps V B w b2 u7 h ab -> ∃ k p,k < n /\ ps[k]? = some p /\ Jk p=true /\ (Calls Tryz.prog 281 #[.agg #[aq,aS,ao]] b2 fun e w'=>e=.returned (.int .i64 (k:Nat)) /\ ∃ ai,EX N B w w' u7 h.out (D.left h.q) ai) /\
     (∀ b1,Aw b1 a ps->qW 189 #[.slice a n cap,.int .i64 per,.int .i64 k,.int .i64 z] b1 (.agg #[.int .i64 k,.int .i64 z,.int .i64 (z+per*p.size)])) /\
     Reaches D per ps V ⟨h.out ++ [⟨(k:Nat),z,z+per * p.size⟩],z+per * p.size,H,D.left h.q⟩):=fun c' b2 ab cU=>by
    have cd:0<D.rest h.q:=by rw[b0.o];exact c'
    have c0:=a3.o.1.pick h an.o cd;rw[Q.o.1]at c0;obtain⟨p,K,-⟩:=Ab ps (D.pick h.q) (by rw[W.o];omega);have a2:=(a3.o.2.each _ p K).1;refine⟨D.pick h.q,p,by omega,K,a2,?_,fun b1 dd=>?_,?_⟩
    ·
     refine(c4.o b2 ab h an.o cd cU.held).mono ?_
     rintro e w' ⟨rfl,O⟩;obtain⟨ai,de,c7,c3,cY⟩:=cU.parts I.o.1 I.o.2.1 O;exact⟨rfl,ai,de,c7,c3,cY⟩
    · have:=XP a cap ps per z (D.pick h.q) p b1 dd (by rw[W.o];exact cX) K a2 bd bT cJ.1 (by omega);rwa[W.o]at this
    have:=Reaches.send h p an.o dm.o cd K;rwa[Q.o.1,Q.o.2]at this
   have cC:(¬H<n)\/(H<n/\z<Ar ps H):=by omega
   have cp:=qX cC;have cL:Hid (H<n->∃ b ac,a=some ⟨b,ac,none⟩/\∀ bh,Below B w bh->bh.cell? ⟨b,ac+H*3+2,none⟩=some (.int .i64 (Ar ps H))):=fun ad=>by
    obtain⟨p,K,-⟩:=Ab ps H (by rw[W.o];exact ad);obtain⟨b,ac,rfl,dr,bp⟩:=I.o.2.2.1.place (by rw[W.o];omega);refine⟨b,ac,rfl,fun bh c2=>?_⟩;rw[c2.cell (p:=⟨b,ac+H*3+2,none⟩) (I.o.2.2.2 ⟨b,ac,none⟩ rfl (by rw[W.o];omega)),Av K];exact(bp H p K).2.2
   clear ce cC;by_cases bq:0<bg
   ·
    rcases cp.o with ad|⟨ad,a4⟩
    ·
     go_wp2_with fail;refine bt.o.mono ?_
     rintro e aw ⟨rfl,O⟩;rw[cu.o bq]at O;obtain⟨ab,U⟩:=Z.o.called I.o.1 I.o.2.1 O an.o rfl;obtain⟨k,p,dp,K,a2,bj,a6,aN⟩:=cF.o bq aw ab U;have b':=qX bj;have cf:=qX a6;obtain⟨E,aB⟩:=ex (z+per*p.size);rw[aB]at aN;have ca:=qX aB;have b6:=qX aN;clear O U bj a6 aN K a2 aB;go_wp2_with fail;refine b'.o.mono ?_
     rintro e b5 ⟨rfl,ai,a0⟩;have b4:=qX a0;have cn:=qX (I.o.2.2.1.bel I.o.2.2.2 a0.below);clear a0;go_wp2_with fail;refine(cf.o b5 cn.o).mono ?_
     rintro e J ⟨rfl,bb⟩;rw[ca.o];have bk:=qX (b4.o.later I.o.1 I.o.2.1 bb);clear bb;have ar:Hid (EX N B w ((J.alloc (.cells #[.int .i64 k,.int .i64 z,.int .i64 E] 61)).alloc (.cells #[.int .i64 k,.int .i64 z,.int .i64 E] 61)) u7 h.out (D.left h.q) ai):=bk.o.later I.o.1 I.o.2.1 (ba.alloc (by simp) _);have cj:Hid (∀ j u,(cellsS [⟨k,z,E⟩])[j]? = some u->((J.alloc (.cells #[.int .i64 k,.int .i64 z,.int .i64 E] 61)).alloc (.cells #[.int .i64 k,.int .i64 z,.int .i64 E] 61)).cell? ((⟨J.heap.size+1,0,none⟩:Addr).add j)=some u):=World.news_of_block (cs:=#[.int .i64 k,.int .i64 z,.int .i64 E]) (t:=61) (by have:=vZ (J.alloc (.cells #[.int .i64 k,.int .i64 z,.int .i64 E] 61)) (.cells #[.int .i64 k,.int .i64 z,.int .i64 E] 61);simpa using this);have b3:Hid (((J.alloc (.cells #[.int .i64 k,.int .i64 z,.int .i64 E] 61)).alloc (.cells #[.int .i64 k,.int .i64 z,.int .i64 E] 61)).cell? ⟨J.heap.size,2,none⟩=some (.int .i64 E)):=j7 ba (by simp);have a8:Hid (w.heap.size<=((J.alloc (.cells #[.int .i64 k,.int .i64 z,.int .i64 E] 61)).alloc (.cells #[.int .i64 k,.int .i64 z,.int .i64 E] 61)).heap.size/\J.heap.size<((J.alloc (.cells #[.int .i64 k,.int .i64 z,.int .i64 E] 61)).alloc (.cells #[.int .i64 k,.int .i64 z,.int .i64 E] 61)).heap.size):=⟨ar.o.below.size,by simp;omega⟩
     have cg:Hid (some J.heap.size≠u7.ownBlock):=fun e=>by
      have:=(Aq bk.o.own e.symm).2;omega
     go_wp2_with (at_builtin;go_must (refine wpList_append_lies _ rfl _ _ 57 rfl w.heap.size 61 cN (.agg #[.int .i64 0,.int .i64 0,.int .i64 0]) 3 24 Tryz.underlying57 cS ct cM cW rfl (by decide) u7 h.out.length (cellsS h.out) rfl ar.o.own ⟨J.heap.size+1,0,none⟩ 1 1 (cellsS [⟨k,z,E⟩]) rfl rfl cj.o (FL _) (by decide) (by unfold maxLen;omega) (by omega) a8.o.1 _ rfl ?_;intro b9 ck be bc av a7 ci;have da:be.cell? ⟨J.heap.size,2,none⟩=some (.int .i64 E):=(av.cell_far ⟨J.heap.size,2,none⟩ a8.o.2 cg.o).trans b3.o;have ch:Hid (EO D N per ps V B w be (.slice (some ⟨b9,0,none⟩) (h.out.length+1) ck) ⟨h.out++[⟨(k:Nat),z,E⟩],E,H,D.left h.q⟩ ai):=EO.grown I.o.1 I.o.2.1 ar.o bc av a7 _ b6.o rfl rfl;clear bc av a7 ci))
     go_roundg (leftOf ps (⟨h.out++[⟨(k:Nat),z,E⟩],E,H,D.left h.q⟩:St ap))
     case measure=>
      refine SN ?_ ?_
      · simp[aj.o.1]
      have U:=b8.o;rw[aj.o.1]at U;rw[W.o];omega
     case rel=>exact⟨_,ai,rfl,rfl,rfl,ch.o⟩
    obtain⟨b,ac,rfl,a1⟩:=cL.o ad;have cI:=a1 wr Z.o.below;clear a1;go_wp2_with fail;refine bt.o.mono ?_
    rintro e aw ⟨rfl,O⟩;rw[cu.o bq]at O;obtain⟨ab,U⟩:=Z.o.called I.o.1 I.o.2.1 O an.o rfl;obtain⟨k,p,dp,K,a2,bj,a6,aN⟩:=cF.o bq aw ab U;have b':=qX bj;have cf:=qX a6;obtain⟨E,aB⟩:=ex (z+per*p.size);rw[aB]at aN;have ca:=qX aB;have b6:=qX aN;clear O U bj a6 aN K a2 aB;go_wp2_with fail;refine b'.o.mono ?_
    rintro e b5 ⟨rfl,ai,a0⟩;have b4:=qX a0;have cn:=qX (I.o.2.2.1.bel I.o.2.2.2 a0.below);clear a0;go_wp2_with fail;refine(cf.o b5 cn.o).mono ?_
    rintro e J ⟨rfl,bb⟩;rw[ca.o];have bk:=qX (b4.o.later I.o.1 I.o.2.1 bb);clear bb;have ar:Hid (EX N B w ((J.alloc (.cells #[.int .i64 k,.int .i64 z,.int .i64 E] 61)).alloc (.cells #[.int .i64 k,.int .i64 z,.int .i64 E] 61)) u7 h.out (D.left h.q) ai):=bk.o.later I.o.1 I.o.2.1 (ba.alloc (by simp) _);have cj:Hid (∀ j u,(cellsS [⟨k,z,E⟩])[j]? = some u->((J.alloc (.cells #[.int .i64 k,.int .i64 z,.int .i64 E] 61)).alloc (.cells #[.int .i64 k,.int .i64 z,.int .i64 E] 61)).cell? ((⟨J.heap.size+1,0,none⟩:Addr).add j)=some u):=World.news_of_block (cs:=#[.int .i64 k,.int .i64 z,.int .i64 E]) (t:=61) (by have:=vZ (J.alloc (.cells #[.int .i64 k,.int .i64 z,.int .i64 E] 61)) (.cells #[.int .i64 k,.int .i64 z,.int .i64 E] 61);simpa using this);have b3:Hid (((J.alloc (.cells #[.int .i64 k,.int .i64 z,.int .i64 E] 61)).alloc (.cells #[.int .i64 k,.int .i64 z,.int .i64 E] 61)).cell? ⟨J.heap.size,2,none⟩=some (.int .i64 E)):=j7 ba (by simp);have a8:Hid (w.heap.size<=((J.alloc (.cells #[.int .i64 k,.int .i64 z,.int .i64 E] 61)).alloc (.cells #[.int .i64 k,.int .i64 z,.int .i64 E] 61)).heap.size/\J.heap.size<((J.alloc (.cells #[.int .i64 k,.int .i64 z,.int .i64 E] 61)).alloc (.cells #[.int .i64 k,.int .i64 z,.int .i64 E] 61)).heap.size):=⟨ar.o.below.size,by simp;omega⟩
    have cg:Hid (some J.heap.size≠u7.ownBlock):=fun e=>by
     have:=(Aq bk.o.own e.symm).2;omega
    go_wp2_with (at_builtin;go_must (refine wpList_append_lies _ rfl _ _ 57 rfl w.heap.size 61 cN (.agg #[.int .i64 0,.int .i64 0,.int .i64 0]) 3 24 Tryz.underlying57 cS ct cM cW rfl (by decide) u7 h.out.length (cellsS h.out) rfl ar.o.own ⟨J.heap.size+1,0,none⟩ 1 1 (cellsS [⟨k,z,E⟩]) rfl rfl cj.o (FL _) (by decide) (by unfold maxLen;omega) (by omega) a8.o.1 _ rfl ?_;intro b9 ck be bc av a7 ci;have da:be.cell? ⟨J.heap.size,2,none⟩=some (.int .i64 E):=(av.cell_far ⟨J.heap.size,2,none⟩ a8.o.2 cg.o).trans b3.o;have ch:Hid (EO D N per ps V B w be (.slice (some ⟨b9,0,none⟩) (h.out.length+1) ck) ⟨h.out++[⟨(k:Nat),z,E⟩],E,H,D.left h.q⟩ ai):=EO.grown I.o.1 I.o.2.1 ar.o bc av a7 _ b6.o rfl rfl;clear bc av a7 ci))
    go_roundg (leftOf ps (⟨h.out++[⟨(k:Nat),z,E⟩],E,H,D.left h.q⟩:St ap))
    case measure=>
     refine SN ?_ ?_
     · simp[aj.o.1]
     have U:=b8.o;rw[aj.o.1]at U;rw[W.o];omega
    case rel=>exact⟨_,ai,rfl,rfl,rfl,ch.o⟩
   rcases cp.o with ad|⟨ad,a4⟩
   ·
    go_wp2_with fail;refine bt.o.mono ?_
    rintro e aw ⟨rfl,O⟩;have cm:=qX O;clear O;go_wp2
    go_ret;obtain⟨ab,bw,bs,-,a'⟩:=Z.o.parts I.o.1 I.o.2.1 cm.o;exact⟨h,u7,rfl,an.o,by rw[Q.o.1];omega,by rw[b0.o];omega,bw,a',ab,bs⟩
   obtain⟨b,ac,rfl,a1⟩:=cL.o ad;have cI:=a1 wr Z.o.below;have dq:=qX a1;clear a1;go_wp2_with fail;refine bt.o.mono ?_
   rintro e aw ⟨rfl,O⟩;have cQ:D.asked h.q=D.idle h.q:=if_pos (by rw[b0.o];omega);rw[cQ]at O;obtain⟨ab,bw,bs,cG,a'⟩:=Z.o.parts I.o.1 I.o.2.1 O;have dy:=dq.o aw a';have bN:=qV bw bs cG a';clear O cQ bw bs cG a';go_wp2
   go_roundg (leftOf ps (⟨h.out,Ar ps H,H,D.idle h.q⟩:St ap))
   case measure=>
    have U:=b8.o;have c5:=aj.o.2.2;have dv:=cR.o.reach.count a3.o.1;rw[aj.o.1]at U;rw[Q.o.1]at c5;have bv:s.next=H:=by omega
    refine ZU (by simp[aj.o.1]) bv.symm ?_ ?_ ?_
    · rw[W.o,bv];exact ad
    · rw[bv,cD.o];exact a4
    rw[bv];exact q8 _
   case rel=>
    obtain⟨p,K,-⟩:=Ab ps H (by rw[W.o];exact ad);have al:Reaches D per ps V ⟨h.out,p.tick,h.next,D.idle h.q⟩:=.idle h p an.o (by rw[Q.o.1];exact K) (by rw[Q.o.2,<- Av K];exact a4) (by rw[b0.o];omega);rw[Q.o.1,<- Av K]at al;exact⟨_,ab,rfl,rfl,rfl,al,bN.o.1,bN.o.2.1,bN.o.2.2.1,bN.o.2.2.2⟩
theorem PW {K:Type}(h:Que K)(z:World->(Nat->Prop)->K->Prop)(per:Int)(ps:List Pk)(E:K)(B:Nat)(H J I:Value)(an:IK z B)(ao:Kh h per ps E)(ac:Al ps)(ab:1<=per)(ai:per<=1000)
  (aj:∀ w D s p,Reaches h per ps E s->ps[s.next]? = some p->z w D s.q->Calls Tryz.prog 280 #[.agg #[H,J,I],.int .i64 s.next] w fun e w'=>e=.returned (.tuple #[])/\AX z w w' D (h.come s.q s.next))
  (aq:∀ w D s,Reaches h per ps E s->0<h.rest s.q->z w D s.q->Calls Tryz.prog 281 #[.agg #[H,J,I]] w fun e w'=>e=.returned (.int .i64 (h.pick s.q:Nat))/\AX z w w' D (h.left s.q))
  (ad:∀ w D s,Reaches h per ps E s->z w D s.q->Calls Tryz.prog 282 #[.agg #[H,J,I]] w fun e w'=>e=.returned (.int .i64 (h.rest s.q:Nat))/\AX z w w' D (h.asked s.q))
  (a:oA) (cap:Nat) (w:World) (U:Aw w a ps) (V:B<=w.heap.size) (am:∀ N,a=some N->0<ps.length->N.block<B) (O:Nat->Prop) (Z:z w O E) :
  Calls Tryz.prog 159 #[.slice a ps.length cap,.int .i64 per,.iface 256 (.agg #[H,J,I])] w fun e w'=>∃ s v,e=.returned v/\Reaches h per ps E s/\¬s.next<ps.length/\h.rest s.q=0/\DX w' w.heap.size v s.out/\Below B w w':=
 (Sl h z per ps E B H J I an ao ac ab ai aj aq ad a cap w U V am O Z).mono fun _ _ ⟨s,v,e,Y,al,ap,W,Q,_⟩=>⟨s,v,e,Y,al,ap,W,Q⟩
def nums (xs:List Nat):List Value:=xs.map fun(k:Nat)=>.int .i64 k
theorem nums_length (xs:List Nat):(nums xs).length=xs.length:=by simp[nums]
theorem nums_append (a b:List Nat):nums (a++b)=nums a++nums b:=by simp[nums]
structure Bl (w:World)(B:Nat)(v:Value)(F:Nat->Prop)(xs:List Nat):Prop where
 made:∃ ao b off cap,v=.slice ao xs.length cap/\Came w 1 ao b off xs.length cap (nums xs)/\cap<=maxLen/\(0<cap->F b)
 foot:∀ k,F k->B<=k/\k<w.heap.size
theorem Bl.nil (w:World)(B:Nat):Bl w B (.slice none 0 0) (fun _=>False) []:=
 ⟨⟨none,0,0,0,rfl,⟨lr,fun h=>absurd h (zD _),fun h=>absurd h (zD _),rfl,fun j u h=>by simp[nums]at h,fun j h=>by simp at h⟩,qR _,fun h=>absurd h (zD _)⟩,fun _ h=>h.elim⟩
theorem Bl.but {S:Nat->Prop}{w w':World}{B:Nat}{v:Value}{F:Nat->Prop}{xs:List Nat}(D:Bl w B v F xs)(z:But S w w')(J:∀ k,F k->¬S k):Bl w' B v F xs:=by
 obtain⟨Z,b,E,cap,rfl,⟨Y,Q,I,ab,V,W⟩,O,H⟩:=D.made;refine⟨⟨Z,b,E,cap,rfl,⟨Y,Q,fun D=>qD (I D) z.size,ab,fun j u N=>?_,fun j U=>?_⟩,O,H⟩,fun k K=>⟨(D.foot k K).1,qD (D.foot k K).2 z.size⟩⟩
 ·
  have h:0<cap:=by
   have:=(vK.1 N).1;rw[nums_length]at this;omega
  rw[z.cell (p:=⟨b,E+j,none⟩) (I h) (J b (H h))];exact V j u N
 have h:0<cap:=by omega
 rw[z.cell (p:=⟨b,E+xs.length*1+j,none⟩) (I h) (J b (H h)),z.frozen (p:=⟨b,E+xs.length*1+j,none⟩) (I h) (J b (H h))];exact W j U
theorem Bl.form {w:World}{B:Nat}{v:Value}{F:Nat->Prop}{xs:List Nat}(E:Bl w B v F xs):∃ h cap,v=.slice h xs.length cap/\xs.length<=cap/\cap<=maxLen:=by
 obtain⟨h,b,H,cap,rfl,D,z,-⟩:=E.made;exact⟨h,cap,rfl,D.le,z⟩
theorem Bl.first {w:World}{B:Nat}{v:Value}{F:Nat->Prop}{k:Nat}{xs:List Nat}(z:Bl w B v F (k::xs)):∃ b h cap,v=.slice (some ⟨b,h,none⟩) (xs.length+1) cap/\xs.length+1<=cap/\cap<=maxLen/\w.cell? ⟨b,h,none⟩=some (.int .i64 k)/\F b /\
   (1<cap->Bl w B (.slice (some ⟨b,h+1,none⟩) xs.length (cap-1)) F xs)/\(cap=1->xs=[]/\Bl w B (.slice (some ⟨b,h,none⟩) 0 0) F []):=by
 obtain⟨Y,b,h,cap,rfl,⟨K,Q,V,Z,H,J⟩,N,I⟩:=z.made;simp only[vH]at K J;have D:0<cap:=by omega
 obtain rfl:=Q D;refine⟨b,h,cap,rfl,K,N,by have:=H 0 _ rfl;simpa using this,I D,fun E=>⟨⟨_,b,h+1,_,rfl,⟨by omega,fun _=>rfl,fun _=>V D,by simp[nums],fun j u U=>?_,fun j W=>?_⟩,by omega,fun _=>I D⟩,z.foot⟩,fun E=>?_⟩
 · have:=H (j+1) u (by simpa[nums]using U);rwa[show h+(j+1)=h+1+j by omega]at this
 · have:=J j (by omega);rwa[show h+(xs.length+1)*1+j=h+1+xs.length*1+j by omega]at this
 subst E;have O:xs=[]:=qN.1 (by omega);exact⟨O,⟨some ⟨b,h,none⟩,b,h,0,rfl,⟨lr,fun z=>absurd z (zD _),fun z=>absurd z (zD _),rfl,fun j u z=>by simp[nums]at z,fun j z=>by simp at z⟩,qR _,fun z=>absurd z (zD _)⟩,z.foot⟩
theorem Bl.room {w:World}{B:Nat}{F:Nat->Prop}{H:oA}{b h cap:Nat}{xs:List Nat}{k:Nat}(D:Came w 1 H b h xs.length cap (nums xs))(Q:cap<=maxLen)(N:0<cap->F b)(K:∀ k,F k->B<=k/\k<w.heap.size)(U:xs.length+1<=cap):Bl (w.setCells b (h+xs.length*1) (nums [k])) B (.slice H (xs.length+1) cap) F (xs++[k])/\But F w (w.setCells b (h+xs.length*1) (nums [k])):=by
 have Z:0<cap:=by omega
 have I:But F w (w.setCells b (h+xs.length*1) (nums [k])):=But.setCell (S:=F) (But.refl _ w) (p:=⟨b,h+xs.length*1,none⟩) (N Z) (.int .i64 k);refine⟨⟨⟨H,b,h,cap,by simp,⟨by simpa using U,D.addr,fun Y=>qD (D.lt Y) I.size,by simp[nums],fun j u z=>?_,fun j E=>?_⟩,Q,N⟩,fun k J=>⟨(K k J).1,qD (K k J).2 I.size⟩⟩,I⟩
 ·
  rw[nums_append]at z;by_cases E:j<xs.length
  · rw[qU (by rw[nums_length];exact E)]at z;rw[World.cell?_setCells_out b _ _ _ _ (fun _ _=>Or.inl (by show h+j<h+xs.length*1;omega))];exact D.olds j u z
  rw[vW (by rw[nums_length];omega),nums_length]at z;have ac:=(vK.1 z).1;have:(nums [k]).length=1:=rfl;have W:j-xs.length=0:=by omega
  rw[W]at z;have ab:=(D.spare 0 (by omega)).1;rw[show h+j=h+xs.length*1+0 by omega];have V:(w.setCells b (h+xs.length*1) (nums [k])).cell? ⟨b,h+xs.length*1+0,none⟩=some (.int .i64 k):=qT w ⟨b,h+xs.length*1,none⟩ _ ab;rw[V];exact z
 simp only[qJ,vH,vU]at E ⊢;have O:=D.spare (j+1) (by omega);rw[show h+(xs.length+(0+1))*1+j=h+xs.length*1+(j+1)by omega];refine⟨?_,?_⟩
 · rw[World.cell?_setCells_out b _ _ _ _ (fun _ _=>Or.inr (by show h+xs.length*1+(nums [k]).length<=h+xs.length*1+(j+1);have:(nums [k]).length=1:=rfl;omega))];exact O.1
 rw[World.frozen?_setCells];exact O.2
def M9 (w w':World)(B:Nat)(F:Nat->Prop)(z:oA)(n cap:Nat)(xs:List Nat):Prop:=
 ∃ h,Bl w' B (.slice z n cap) h xs/\(∀ k,h k->F k\/w.heap.size<=k)/\But F w w'
theorem Bl.grown {w w':World}{B e:Nat}{V:Value}{F:Nat->Prop}{k:Nat}{xs:List Nat}(an:B<=w.heap.size)(W:w'.ownsRow w.heap.size e 1 V (xs.length+1) (nums xs++nums [k]))(z:w.grownBy w' none):∃ O cap,V=.slice O (xs.length+1) cap/\M9 w w' B F O (xs.length+1) cap (xs++[k]):=by
 have aj:But F w w':=⟨z.os,z.tape,z.output,z.size,fun i h _=>z.block i h (by simp)⟩
 obtain⟨Z,⟨_,am⟩|⟨g,I,E,rfl,U,D,Q,K,ac,al⟩⟩:=W
 · omega
 have ai:w'.ownsRow w.heap.size e 1 (.slice (some ⟨g,0,none⟩) (xs.length+1) I) (xs.length+1) (nums xs++nums [k]):=⟨Z,.inr ⟨g,I,E,rfl,U,D,Q,K,ac,al⟩⟩
 have N:g<w'.heap.size:=by
  rcases qC g w'.heap.size with H|H
  · exact H
  simp[vX H]at D
 refine⟨_,_,rfl,fun i=>i=g,⟨⟨_,g,0,I,by simp,⟨by simpa using Q,fun _=>rfl,fun _=>N,by simp[nums],fun j u J=>?_,fun j ab=>?_⟩,K,fun _=>rfl⟩,fun i h=>by subst h;exact⟨by omega,N⟩⟩,fun i h=>by subst h;exact .inr U,aj⟩
 · rw[nums_append]at J;have Y:=(vK.1 J).1;rw[qJ,nums_length]at Y;have:(nums [k]).length=1:=rfl;rw[vC,ai.cellAt _ (by omega)];exact J
 simp only[qJ,vH,vU]at ab ⊢;have ad:xs.length+1+j<E.size:=by omega
 rw[show 0+(xs.length+(0+1))*1+j=xs.length+1+j by omega];refine⟨?_,?_⟩
 · rw[cell_of_row w' g _ E e (0,0) D,xX ad];rfl
 exact frozen_of_row w' g _ E e D
theorem JJ {P:Program}(w:World)(t I e:TypeId)(i:TypeInfo)(O:Value)(K:Nat)(ab:P.underlying t=some (.slice e))(U:P.info? e=some i)(ac:i.zero=some O)(H:i.size=1)(al:i.bytes=K)(an:O.cells.size=1)
  (B:Nat) (v:Value) (F:Nat->Prop) (k:Nat) (xs:List Nat) (J:Bl w B v F xs) (ao:B<=w.heap.size) (z:Addr) (c:Nat) (a2:w.cell? z=some (.int .i64 k)) (am:xs.length+1<=maxLen) (ai:(xs.length+1)*K<=140737488355328) :
  ∃ N cap w',(Builtin.append_ #[t,t] I #[v,.slice (some z) 1 c]).run P w=.ok (.slice N (xs.length+1) cap) w'/\M9 w w' B F N (xs.length+1) cap (xs++[k]):=by
 have a7:=J.foot;obtain⟨N,b,a1,cap,rfl,h,a6,av⟩:=J.made;have Y:∀ j u,(nums [k])[j]? = some u->w.cell? (z.add j)=some u:=by
  intro j u D;have aq:=(vK.1 D).1;have:(nums [k]).length=1:=rfl;obtain rfl:j=0:=by omega
  have aw:z.add 0=z:=by cases z;simp[Addr.add]
  rw[aw,a2];exact D
 have aj:∀ u∈nums [k],u.oneCell'=true:=by
  intro u D;simp[nums]at D
  subst D;rfl
 have aN:(nums xs).length=xs.length*1:=by rw[nums_length,Nat.mul_one]
 by_cases ad:xs.length+1<=cap
 ·
  obtain rfl:=h.addr (by omega);have E:=run_append_room_cells (P:=P) w t I e i ab U b a1 xs.length cap z 1 c (nums [k]) (by rw[H];rfl) Y aj ad
   (fun j aS=>by rw[H];exact(h.spare j (by have:(nums [k]).length=1:=rfl;omega)).1) (fun j aS=>by rw[H];exact(h.spare j (by have:(nums [k]).length=1:=rfl;omega)).2)
  rw[H]at E;obtain⟨a3,a8⟩:=Bl.room (k:=k) h a6 av a7 ad;exact⟨_,_,_,E,F,a3,fun _ J=>.inl J,a8⟩
 cases N with
 | some aB=>
  obtain ⟨a9,w',E,W,Z⟩:=run_append_arg_grows (P:=P) w t I e i O 1 K ab U ac H al an (by decide) aB xs.length cap (nums xs) aN (fun j u D=>by
   have aq:=(vK.1 D).1;have ar:=h.le;have a5:=h.addr (by omega);cases a5
   rw[Addr.add_lit];exact h.olds j u D) z 1 c (nums [k]) rfl Y (by omega) am ai
  obtain⟨ap,a0,rfl,Q⟩:=Bl.grown (F:=F) ao W Z;exact⟨_,_,w',E,Q⟩
 | none=>
  have a4:cap=0:=by
   rcases xP cap with V|V
   · exact V
   cases h.addr V
  have ar:=h.le;have aE:xs=[]:=qN.1 (by omega);subst aE a4;obtain⟨a9,w',E,W,Z,_⟩:=run_append_own (P:=P) w w.heap.size t I e i O 1 K ab U ac H al an (by decide) (.slice none 0 0) 0 [] (qQ w _ e 1) z 1 c (nums [k]) rfl Y aj am ai lr;obtain⟨ap,a0,rfl,Q⟩:=Bl.grown (xs:=[]) (F:=F) ao W Z;exact⟨_,_,w',E,Q⟩
theorem Ih {P:Program}(w:World){E:Array Oper}{rest:List Oper}{o:Oper}{a:Act}{H:Exit->Act->World->Prop}(N:o.guard=none)(s x:Operand)(t:TypeId)
  (I:o.op=.call { callee:=.builtin .append,args:=#[s,x],argTypes:=#[t,t] })
  (e:TypeId) (i:TypeInfo) (z:Value) (bytes:Nat) (ht:P.underlying t=some (.slice e)) (hi:P.info? e=some i) (hz:i.zero=some z) (hsize:i.size=1) (hby:i.bytes=bytes) (hzs:z.cells.size=1)
  (B:Nat) (v:Value) (F:Nat->Prop) (k:Nat) (xs:List Nat) (hs:a.eval s=v) (h:Bl w B v F xs) (hBw:B<=w.heap.size) (ad:Addr) (c:Nat) (hx:a.eval x=.slice (some ad) 1 c) (hk:w.cell? ad=some (.int .i64 k)) (h63:xs.length+1<=maxLen) (hbytes:(xs.length+1)*bytes<=140737488355328)
  (hK:∀ D cap w',M9 w w' B F D (xs.length+1) cap (xs++[k])->wpList P E H rest (a.put o.dst (.slice D (xs.length+1) cap)) w'):wpList P E H (o::rest) a w:=by
 refine wpList_plain N fun Q K=>?_
 obtain⟨D,cap,w',J,O⟩:=JJ (P:=P) w t o.type e i z bytes ht hi hz hsize hby hzs B v F k xs h hBw ad c hk h63 hbytes;unfold Oper.wp;simp[execOp,I,resolve,invoke,builtin,hs,hx,J,Result.andThen]
 exact K _ _ (hK D cap w' O)
end Go.Proofs.YtejlihcdfffafaaGreatDoor
