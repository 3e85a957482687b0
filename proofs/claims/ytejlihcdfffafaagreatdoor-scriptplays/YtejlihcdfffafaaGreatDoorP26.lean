import Derived.Test.YtejlihcdfffafaaGreatDoorP25
set_option maxHeartbeats 40000000
set_option maxRecDepth 100000
namespace Go.Proofs.YtejlihcdfffafaaGreatDoor
open Go.RowKit
def P6 (per:Int)(ps:List Pk)(ns:List Int)(w:World)(e:Ending)(w':World):Prop:=∃ v l,e=.returned v/\DX w' w.heap.size v l/\Ej per ps ns l/\zW w w'
theorem Zm {d:Drr}{f:Nat}{B:Bool}(h:B=true↔(d.srv=some f\/f∈d.row)):B=true↔f∈d.line:=by
 rw[h];unfold Drr.line;cases d.srv with
 | none=>simp
 | some g=>simp[eq_comm]
theorem kG {p:Prop}(h:p):Hid p:=h
theorem EW.letter {per:Int}{ps:List Pk}{ns:List Int}{s1:St TQ}{d1:Drr}{q:Nat->Int}{r:List Nat}{f z D:Nat}(E:EW per ps ns s1 (d1.turn q f r) f z D):∃ h,EW per ps ns s1 h f z D/\h.cr=AB d1.cr f (d1.cr f+q f)/\h.row=r:=⟨_,E,rfl,rfl⟩
theorem Bj.cast {w X:World}{D z H n E:Nat}{v h:Value}{o:List Sn}{cr:Nat->Int}{F:Nat->Prop}{row I:List Nat}(J:Bj w X D z H n v o E cr h F row)(e:I=row):Bj w X D z H n v o E cr h F I:=e ▸ J
theorem Bj.push {w E h:World}{I H O n N l z D f:Nat}{v Y:Value}{o:List Sn}{cr:Nat->Int}{F:Nat->Prop}{row:List Nat}(K:Bj w E I H O n v o N cr Y F row)(J:h.ownsRow E.heap.size 3 1 (.slice (some ⟨z,0,none⟩) (l+1) D) (l+1) (ints (Ai row)++ints [(f:Int)]))(V:zW E h)(W:(Ai row).length=l):Bj w h I H O n v o N cr (.slice (some ⟨z,0,none⟩) (l+1) D) (fun k=>(Value.slice (some ⟨z,0,none⟩) (l+1) D).ownBlock=some k) (row++[f]):=by
 have Q:h.ownsRow w.heap.size 3 1 (.slice (some ⟨z,0,none⟩) (l+1) D) (row++[f]).length (ints (Ai (row++[f]))):=by
  rw[qJ,DU,<- Am row,W];exact Bb J K.below.size
 exact K.setRow (.ofBelow V) (Bl.of_own Q) (fun k U=>.inr (Aq J U).1)
theorem UR (cx:oA)(ck:Nat)(ps:List Pk)(per:Int)(f4:oA)(gi:Nat)(ns:List Int)(w:World)(dt:Aw w cx ps)(eT:AR w f4 ns)(ct:Al ps)(cV:1<=per)(gs:per<=1000)(aS:DF 1 3000 ns):Calls Tryz.prog 48 #[.slice cx ps.length ck,.int .i64 per,.slice f4 ns.length gi] w fun e w'=>P6 per ps ns w e w':=by
 have ey:∀ f,1<=BI ns f:=fun f=>(Gf aS.each (by omega) f).1
 have N:=qY dt ct;have W:=qY aS ey;have hh:=ct.few;have gP:=aS.len;obtain⟨hU,gd,rfl,-,en⟩:=eT.place (by omega);have hB:Hid (∀ J f,zW w J->f<8->∃ x,BI ns f=x/\1<=x/\x<=3000/\J.cell? ⟨hU,gd+f,none⟩=some (.int .i64 x)):=fun J f a8 b4=>by
  obtain⟨x,ao,-⟩:=Ab ns f (by omega);have:=aS.each f x ao;exact⟨x,IZ ao,this.1,this.2,j7 a8 (en f x ao)⟩
 obtain⟨n,bx⟩:=ex ps.length;have ab:=qX bx;have e9:Hid (∀ J g f t out,zW w J->ES J g n out->Calls Tryz.prog 68 #[.slice cx n ck,.slice (some ⟨g,0,none⟩) n n,.int .i64 ((f:Nat):Int),.int .i64 t] J fun e w'=>∃ v,e=.returned v/\JR w' J.heap.size v (Eg ps out f t n)/\zW J w'):=fun J g f t out a8 hE=>by
  have:=V5 cx ck ps g out f t J (dt.below a8) ct (by rw[bx];exact hE);rwa[bx]at this
 clear dt eT ct aS ey en;rw[bx,gP];rw[bx]at hh;have he:∀ w':World,(Instr.makeSlice 120 (.int .i64 n) (.int .i64 n)).run Tryz.prog w'=.ok (.slice (some ⟨w'.heap.size,0,none⟩) n n) (w'.alloc (.cells (madeCells #[.bool false] n) 4)):=fun w'=>by
  obtain⟨dn,dp,cM,c7,c'⟩:=vL Tryz.infoBool;have:=yW (P:=Tryz.prog) w' 120 4 dn (.bool false) Tryz.underlying120 dp cM .i64 .i64 n n (by omega) (by omega) (by rw[c'];omega) (by omega);simpa[c7,Value.cells]using this
 have hw:∀ w':World,(Instr.makeSlice 27 (.int .i64 8) (.int .i64 8)).run Tryz.prog w'=.ok (.slice (some ⟨w'.heap.size,0,none⟩) 8 8) (w'.alloc (.cells (madeCells #[.int .i64 0] 8) 3)):=fun w'=>by
  obtain⟨dn,dp,cM,c7,c'⟩:=vL Tryz.infoInt;have:=yW (P:=Tryz.prog) w' 27 3 dn (.int .i64 0) Tryz.underlying27 dp cM .i64 .i64 8 8 (by omega) (by omega) (by rw[c'];omega) (by omega);simpa[c7,Value.cells]using this
 have eq:Hid (Bj w (((w.alloc (.cells (madeCells #[.bool false] n) 4)).alloc (.cells (madeCells #[.bool false] n) 4)).alloc (.cells (madeCells #[.int .i64 0] 8) 3)) w.heap.size (w.heap.size+1) (w.heap.size+2) n (.slice none 0 0) [] 0 (fun _=>0) (.slice none 0 0) (fun _=>False) []):=Zn w n _ _;obtain⟨h5,g0,gp,gE,hm⟩:=vL Tryz.infoSent;obtain⟨d6,dy,dk,db,cS⟩:=vL Tryz.infoInt;clear bx;go_in
 go_wp2_with fail;obtain⟨Q,cF⟩:=ex w.heap.size;obtain⟨a0,cL⟩:=ex (w.heap.size+1);obtain⟨U,d4⟩:=ex (w.heap.size+2);obtain⟨hi,cQ⟩:=ex (((w.alloc (.cells (madeCells #[.bool false] n) 4)).alloc (.cells (madeCells #[.bool false] n) 4)).alloc (.cells (madeCells #[.int .i64 0] 8) 3));have i6:=qX cF;have ie:Hid (Bj w hi Q a0 U n (.slice none 0 0) [] 0 (fun _=>0) (.slice none 0 0) (fun _=>False) []):=by
  have:=eq.o;rwa[cQ,d4,cL,cF]at this
 rw[cQ,d4,cL,cF];clear cQ d4 cL cF eq he hw;go_loopg [7,11,12,13] (DC ps ⟨[],0,0,Ec⟩ 29999 1) (fun gO v r bb t wr=>∃ s d cu bm F,gO=DC ps s cu bm/\bb=.int .i64 (FE d.srv)/\t=.int .i64 s.now/\Ey per ps ns s d cu bm/\Bj w wr Q a0 U n v s.out s.next d.cr r F d.row)
 case atStart=>exact⟨_,_,29999,1,_,rfl,rfl,rfl,Ey.start per ps ns,ie.o⟩
 case round=>
  obtain⟨s,d,cu,bm,F,rfl,rfl,rfl,ai,bh⟩:=hrel;obtain⟨h3,ga⟩:∃ J,J=wr:=⟨_,rfl⟩
  subst ga;have f1:=qX ai;have de:=qX bh;obtain⟨al,aq,c6,g4,hA,-,-,-⟩:=bh.own.open;have h8:=ai.reach.now_in ⟨cV,gs⟩ N.o.2;have io:=ai.reach.count (GI N.o.2 W.o.2);have cD:=ai.reach.next_le;rw[ab.o]at cD;have hN:s.out.length<=n:=by omega
  obtain⟨D,cv⟩:=ex s.now;obtain⟨L,cy⟩:=ex s.out.length;obtain⟨bb,a2⟩:=ex (FE d.srv);have bj:=qZ cv cy a2;rw[cv,cy]at h8;rw[cy]at hN g4 c6;have d':=qX c6;rw[cv,a2];unfold maxLen at hA;clear ai bh io cD cv cy a2;subst c6;by_cases b2:L<n
  ·
   go_wp2_with fail;go_loopg [11,14] n (fun h' r hn h4=>∃(k:Nat)(s1:St TQ)(d1:Drr)(Z:Nat->Prop),h'=n-k/\k<=n/\hn=.int .i64 k/\s1.out=s.out/\s1.now=s.now/\d1.srv=d.srv/\d1.cr=d.cr/\(∀ j,j<k->Ar ps j<=s.now->j<s1.next)/\Ey per ps ns s1 d1 cu bm/\Bj w h4 Q a0 U n (.slice al L aq) s1.out s1.next d1.cr r Z d1.row)
   case atStart=>exact⟨0,s,d,F,rfl,qR _,rfl,rfl,rfl,rfl,rfl,fun j ac=>absurd ac (vR _),f1.o,de.o⟩
   case round=>
    obtain⟨k,s1,d1,Z,rfl,ip,rfl,a5,ci,cC,b7,eI,ai,bh⟩:=hrel;obtain⟨a7,hZ⟩:∃ J,J=wr:=⟨_,rfl⟩
    subst hZ;have aw:=qX ai;have Y:=qX bh;have z:Hid (s1.out=s.out/\s1.now=s.now/\d1.srv=d.srv/\d1.cr=d.cr/\s1.now=D/\s1.out.length=L/\FE d1.srv=bb):=⟨a5,ci,cC,b7,ci.trans bj.o.1,by rw[a5];exact bj.o.2.1,by rw[cC];exact bj.o.2.2⟩
    have cG:=qX eI;have e3:∀ f,8<=f->d1.qs f=[]:=fun f b4=>by rw[ai.qs];exact(II N.o.2 W.o.2 ai.reach).few f b4
    have c1:=MU ai.ok e3;have cD:=ai.reach.next_le;rw[ab.o]at cD;obtain⟨bT,bk,cN,b3,ht,e1,fh,b0⟩:=bh.row.cells;have j2:=qZ e1 fh b0;obtain⟨ap,cw⟩:=ex d1.row.length;have bN:=qX cw;rw[cw]at cN b3;have i1:ap<=8:=by rw[<- cw];exact c1.1
    have fr:=qX c1.2;have j1:=qX cN;unfold maxLen at ht;clear ai bh a5 ci cC b7 eI e3 c1 e1 fh b0 cw;subst cN;by_cases ea:k<n
    ·
     have ij:=qX Y.o.below;obtain⟨p,hpk,-⟩:=Ab ps k (by rw[ab.o];exact ea);obtain⟨fl,iS,b4,ef⟩:=LH N.o.2 hpk;obtain⟨aB,a3,rfl,-,a1⟩:=N.o.1.place (by rw[ab.o];omega);obtain⟨a6,a'⟩:=ex p.tick;have ft:Hid (∀ J,zW w J->J.cell? ⟨aB,a3+k*3,none⟩=some (.int .i64 fl)/\J.cell? ⟨aB,a3+k*3+2,none⟩=some (.int .i64 a6)):=fun J a8=>⟨by rw[<- b4];exact j7 a8 (a1 k _ hpk).1,by rw[<- a'];exact j7 a8 (a1 k _ hpk).2.2⟩
     have bp:Hid (ps[k]? = some p/\p.tick=a6/\Ag ps k=fl/\Ar ps k=a6):=⟨hpk,a',ef,by rw[Av hpk];exact a'⟩
     have c8:=Y.o.came.cell k ea;have h6:=(ft.o a7 ij.o).2;clear hpk b4 ef a1 a';by_cases b6:k<s1.next
     ·
      have av:decide (k<s1.next)=true:=qM b6;rw[av]at c8;have bt:Hid (∀ j,j<k+1->Ar ps j<=s.now->j<s1.next):=fun j bq bc=>by
       rcases qC j k with ac|ac
       · exact cG.o j ac bc
       omega
      clear av;go_wp2
      go_roundg (n-(k+1))
      case measure=>omega
      case rel=>exact⟨k+1,s1,d1,Z,rfl,by omega,by go_num,z.o.1,z.o.2.1,z.o.2.2.1,z.o.2.2.2.1,bt.o,aw.o,Y.o⟩
     have av:decide (k<s1.next)=false:=qF b6;rw[av]at c8;by_cases c9:a6<=D
     ·
      obtain⟨bv,eC,co⟩:=aw.o.more N.o.2 (fun j bq bc=>cG.o j bq (by rw[<- z.o.2.1];exact bc)) bp.o.1 (by rw[bp.o.2.1,z.o.2.2.2.2.1];exact c9) (Nat.le_of_not_lt b6);have b0:=aw.o.come N.o.2 (p:=p) (by rw[<- bv];exact bp.o.1) (by rw[bp.o.2.1,z.o.2.2.2.2.1];exact c9) ⟨eC,co⟩;rw[<- bv]at b0;have eR:=qX b0;have d0:=Y.o.setCame (by rw[<- bv];exact ea);rw[<- bv]at d0;have h0:=Y.o.came.frozen k;have gc:=qX d0;obtain⟨an,fX⟩:=ex (a7.setCell ⟨a0,k,none⟩ (.bool true));have aE:Hid (Bj w an Q a0 U n (.slice al L aq) s1.out (k+1) d1.cr (.slice bT ap bk) Z d1.row):=by rw[<- fX];exact gc.o
      have g5:an.cell? ⟨aB,a3+k*3,none⟩=some (.int .i64 fl):=(ft.o _ aE.o.below).1;have bt:Hid (∀ j,j<k+1->Ar ps j<=s.now->j<k+1):=fun j bq _=>bq
      obtain⟨ej,e8⟩:=ex ((fl:Int)==bb);have ia:Hid (ej=true↔(d1.srv=some fl\/fl∈d1.row.take 0)):=by
       show _↔_
       rw[<- e8,<- z.o.2.2.2.2.2.2];cases d1.srv with
       | none=>simp[FE]
       | some g=>simp[FE];omega
      have hF:Hid (∀(j x:Nat),d1.row[j]? = some x->∃ cI cH,bT=some ⟨cI,cH,none⟩/\an.cell? ⟨cI,cH+j,none⟩=some (.int .i64 x)):=fun j x ao=>by
       obtain⟨js,i5,a5,-,-,-,hT,hc⟩:=aE.o.row.cells;injection a5 with a5 ci cC
       subst a5;rcases hT with g9|⟨b,o,b7,-,-⟩
       ·
        have:d1.row=[]:=by simpa[Ai]using g9
        rw[this]at ao;simp at ao
       exact⟨b,o,b7,hc ⟨b,o,none⟩ b7 j x ao⟩
      have jz:=qX bv;clear b6 av bv eC co b0 d0;go_wp2_with fail;clear fX e8 g5 h6 c8 h0;go_loopg [16,17] ap (fun dd hR c2 hL=>∃(j:Nat)(B:Bool),dd=ap-j/\j<=ap/\c2=.int .i64 j/\hR=.bool B/\(B=true↔(d1.srv=some fl\/fl∈d1.row.take j))/\an=hL)
      case atStart=>exact⟨0,ej,rfl,qR _,rfl,rfl,ia.o,rfl⟩
      case round=>
       obtain⟨j,B,rfl,jp,rfl,rfl,eo,f9⟩:=hrel;subst f9;have fi:=qX eo;clear eo;by_cases hM:j<ap
       ·
        obtain⟨x,ao,-⟩:=Ab d1.row j (by rw[bN.o];exact hM);obtain⟨cI,cH,rfl,fb⟩:=hF.o j x ao;have ec:Hid (d1.row.take (j+1)=d1.row.take j++[x]):=by
         show _=_
         rw[vF,ao];rfl
        clear ao;by_cases ce:x=fl
        ·
         have gm:((x:Int)==(fl:Int))=true:=by simp;omega
         have dv:Hid (d1.srv=some fl\/fl∈d1.row.take (j+1)):=by
          show _\/_
          rw[ec.o];simp[ce]
         clear ce;go_wp2
         go_roundg (ap-(j+1))
         case measure=>omega
         case rel=>exact⟨j+1,true,rfl,by omega,by go_num,rfl,⟨fun _=>dv.o,fun _=>rfl⟩,rfl⟩
        have gm:((x:Int)==(fl:Int))=false:=by simp;omega
        have dv:Hid (B=true↔(d1.srv=some fl\/fl∈d1.row.take (j+1))):=by
         show _↔_
         rw[ec.o,fi.o];simp[Ne.symm ce]
        clear ce;go_wp2
        go_roundg (ap-(j+1))
        case measure=>omega
        case rel=>exact⟨j+1,B,rfl,by omega,by go_num,rfl,dv.o,rfl⟩
       obtain rfl:j=ap:=by omega
       have eg:Hid (B=true↔Ag ps k∈d1.line):=by
        have:=fi.o;rw[<- bN.o,xA]at this;show _↔_
        rw[bp.o.2.2.1];exact Zm this
       cases B with
       | true=>
        have cl:Hid (Bj w an Q a0 U n (.slice al L aq) s1.out (k+1) (d1.come (Ag ps) k).cr (.slice bT j bk) Z (d1.come (Ag ps) k).row):=by
         have e:(d1.come (Ag ps) k).row=d1.row:=if_pos (eg.o.1 (by trivial));show Bj _ _ _ _ _ _ _ _ _ _ _ _ _
         rw[e];exact aE.o
        go_wp2
        go_roundg (n-(k+1))
        case measure=>omega
        case rel=>exact⟨k+1,⟨s1.out,s1.now,k+1,(Bc ps ns).come s1.q k⟩,d1.come (Ag ps) k,Z,rfl,by omega,by go_num,z.o.1,z.o.2.1,z.o.2.2.1,z.o.2.2.2.1,bt.o,eR.o,cl.o⟩
       | false=>
        have eJ:zW an (an.alloc (.cells #[.int .i64 fl] 3)):=ba;have c0:=qX (aE.o.later eJ);have gt:Hid ((an.alloc (.cells #[.int .i64 fl] 3)).cell? ⟨an.heap.size,0,none⟩=some (.int .i64 fl)):=(cell_of_row _ _ 0 _ _ _ (vZ an _)).trans rfl;have cd:=qX c0.o.below.size;have hp:Hid ((d1.come (Ag ps) k).row=d1.row++[fl]):=by
         have e:(d1.come (Ag ps) k).row=d1.row++[Ag ps k]:=if_neg (fun ac=>by have:=eg.o.2 ac;cases this);show _=_
         rw[e,bp.o.2.2.1]
        clear eJ;go_wp2_with (at_builtin;go_must (refine Ih _ rfl _ _ 27 rfl 3 d6 (.int .i64 0) 8 Tryz.underlying27 dy dk db cS rfl w.heap.size (.slice bT j bk) Z fl d1.row rfl c0.o.row cd.o ⟨an.heap.size,0,none⟩ 1 rfl gt.o (by rw[bN.o];unfold maxLen;omega) (by rw[bN.o];omega) ?_;intro gn gR hW eA;rw[bN.o]at eA ⊢;obtain⟨ek,eN,fN,e7⟩:=eA;have im:Hid (Bj w hW Q a0 U n (.slice al L aq) s1.out (k+1) d1.cr (.slice gn (j+1) gR) ek (d1.row++[fl])):=c0.o.setRow e7 eN fN;clear eN fN e7))
        go_roundg (n-(k+1))
        case measure=>omega
        case rel=>exact⟨k+1,⟨s1.out,s1.now,k+1,(Bc ps ns).come s1.q k⟩,d1.come (Ag ps) k,ek,rfl,by omega,by go_num,z.o.1,z.o.2.1,z.o.2.2.1,z.o.2.2.2.1,bt.o,eR.o,by rw[hp.o];exact im.o⟩
     have bt:Hid (∀ j,j<k+1->Ar ps j<=s.now->j<s1.next):=fun j bq bc=>by
      rcases qC j k with ac|ac
      · exact cG.o j ac bc
      obtain rfl:j=k:=by omega
      rw[bp.o.2.2.2,bj.o.1]at bc;exact absurd bc c9
     clear b6 av;go_wp2
     go_roundg (n-(k+1))
     case measure=>omega
     case rel=>exact⟨k+1,s1,d1,Z,rfl,by omega,by go_num,z.o.1,z.o.2.1,z.o.2.2.1,z.o.2.2.2.1,bt.o,aw.o,Y.o⟩
    have hj:n=k:=by omega
    subst hj;have cY:Hid (Qs ps s1):=fun i iv f7=>by
     rcases vV s1.now (Ar ps i)with ac|ac
     · exact ac
     have:=cG.o i (by rw[ab.o]at f7;exact f7) (by rw[<- z.o.2.1];exact ac);omega
    have cc:s1.out.length<ps.length:=by rw[z.o.2.2.2.2.2.1,ab.o];exact b2
    have hX:(d1.srv=none/\d1.row=[])\/(∃ f r,d1.srv=none/\d1.row=f::r)\/∃ f,d1.srv=some f:=by
     cases d1.srv with
     | some f=>exact .inr (.inr ⟨f,rfl⟩)
     | none=>
      cases d1.row with
      | nil=>exact .inl ⟨rfl,rfl⟩
      | cons f r=>exact .inr (.inl ⟨f,r,rfl,rfl⟩)
    rcases hX with⟨V,a9⟩|⟨f,r,V,a9⟩|⟨f,V⟩
    ·
     have a2:bb = -1:=by rw[<- z.o.2.2.2.2.2.2,V];rfl
     subst a2;have cW:d1.line=[]:=by unfold Drr.line;rw[V];exact a9
     obtain⟨-,co,fs⟩:=aw.o.rests N.o.2 W.o.2 cW;obtain⟨d8,gx,fj⟩:=aw.o.idles N.o.2 W.o.2 cW cY.o cc;obtain⟨eL,fx⟩:=aw.o.undone N.o.2 W.o.2 fs;have cR:ap=0:=by rw[<- bN.o,a9];rfl
     subst cR;subst gx;subst co;obtain⟨p,hpk,-⟩:=Ab ps s1.next d8;obtain⟨aB,a3,rfl,-,a1⟩:=N.o.1.place (by omega);obtain⟨a6,a'⟩:=ex p.tick;obtain⟨ad,bw⟩:=ex s1.next;have hr:Hid (Ey per ps ns ⟨s1.out,a6,ad,s1.q⟩ d1 29999 0):=by
      have:=fj p hpk;rwa[a',bw]at this
     have iz:a7.cell? ⟨aB,a3+ad*3+2,none⟩=some (.int .i64 a6):=by rw[<- a',<- bw];exact j7 Y.o.below (a1 s1.next _ hpk).2.2
     have fq:Hid ((∀ i,i<ad->Ay s1.out i=true)/\Ay s1.out ad=false):=by rw[<- bw];exact⟨eL,fx⟩
     have i0:ad<n:=by rw[<- bw,<- ab.o];exact d8
     have e6:Hid (Bj w a7 Q a0 U n (.slice al L aq) s1.out ad d1.cr (.slice bT 0 bk) Z d1.row):=by rw[<- bw];exact Y.o
     have ih:Hid (FE d1.srv = -1):=by show _=_;rw[V];rfl
     clear fj eL fx fs hpk a1 a' bw cW d8 cc V a9;go_wp2_with fail;go_loopg [18] ad (fun dd c2 gr=>∃ j:Nat,dd=ad-j/\j<=ad/\c2=.int .i64 j/\a7=gr)
     case atStart=>exact⟨0,rfl,qR _,rfl,rfl⟩
     case round=>
      obtain⟨j,rfl,i2,rfl,gf⟩:=hrel;subst gf;have fL:=e6.o.done.cell j (by omega);by_cases ha:j<ad
      ·
       rw[fq.o.1 j ha]at fL;go_wp2
       go_roundg (ad-(j+1))
       case measure=>omega
       case rel=>exact⟨j+1,rfl,by omega,by go_num,rfl⟩
      obtain rfl:j=ad:=by omega
      rw[fq.o.2]at fL;go_wp2
      go_roundg (DC ps ⟨s1.out,a6,j,s1.q⟩ 29999 0)
      case measure=>
       unfold DC;simp only[z.o.1];omega
      case rel=>exact⟨⟨s1.out,a6,j,s1.q⟩,d1,29999,0,Z,rfl,by rw[ih.o],rfl,hr.o,e6.o⟩
    all_goals
     first
     |
      have a2:bb = -1:=by rw[<- z.o.2.2.2.2.2.2,V];rfl
      subst a2;have aN:f<8:=fr.o f (by unfold Drr.line;rw[V];simp only;rw[a9];exact qA ..);obtain⟨eh,gC,b'⟩:=aw.o.turns N.o.2 W.o.2 cY.o V a9;have cU:=Y.o.row;rw[a9]at cU;obtain⟨cI,cH,iI,hq,ir,jx,gg,-,fp,em⟩:=cU.first;injection hq with hQ hv gA
      subst hQ;subst hv;subst gA;obtain⟨x,dX,eK,ff,fb⟩:=hB.o a7 f Y.o.below aN;obtain⟨c,cA⟩:=ex (d1.cr f);have f3:=aw.o.ok.cr_in W.o.2 f;have fn:BI ns f=x:=dX;rw[fn,cA]at f3;have g2:IntKind.i64.wrap (c+x)=c+x:=vY _ (by omega);clear cU;by_cases ho:1<bk
      all_goals
       first
       | have d7:=fp ho
       |
        obtain rfl:bk=1:=by omega
        obtain⟨hV,d7⟩:=em rfl;subst hV
       have h7:=kG (Y.o.setRow (But.refl _ _) d7 (fun k aS=>.inl aS));have cg:=kG ((h7.o.setCred aN (c+x)).later br.drew);have hG:a7.cell? ⟨U,f,none⟩=some (.int .i64 c):=by rw[<- cA];exact Y.o.cred.cell f aN
       have gv:=Y.o.cred.frozen f;obtain⟨I,e2,av,f0⟩:=b'.letter;have bd:=kG e2;rw[cA,dX]at av;rw[<- av]at cg;have it:(f:Int)<8:=by omega
       have g8:=kG f0;clear fp em d7 e2 av f0 b' cA dX V a9 cc;go_wp2
       go_region;obtain⟨X,f6⟩:=ex ((a7.setCell ⟨U,f,none⟩ (.int .i64 (c+x))).drew);rw[f6]at cg ⊢;have aE:=kG (cg.o.cast g8.o);clear f6 cg hG gv gg g2 fb f3 fn
     |
      have a2:bb=(f:Int):=by rw[<- z.o.2.2.2.2.2.2,V];rfl
      subst a2;have aN:f<8:=fr.o f (by unfold Drr.line;rw[V];exact qA ..);obtain⟨eh,gC,b'⟩:=aw.o.stays N.o.2 W.o.2 cY.o V;obtain⟨I,c3⟩:=ex d1;have bd:Hid (EW per ps ns s1 I f eh bm):=by rw[<- c3];exact b'
      have aE:Hid (Bj w a7 Q a0 U n (.slice al L aq) s1.out s1.next I.cr (.slice bT ap bk) Z I.row):=by rw[<- c3];exact Y.o
      clear b' c3 cc V
    all_goals
     obtain⟨h,am,er,fk,eb,-,hb,gS,fv⟩:=bd.o.head N.o.2 W.o.2 cV;have eS:h<n:=by rw[<- ab.o];exact eb
     obtain⟨p,hpk,-⟩:=Ab ps h eb;obtain⟨aB,a3,rfl,-,a1⟩:=N.o.1.place (by omega);obtain⟨K,cf⟩:=ex p.size;have ds:Hid (∀ J,zW w J->J.cell? ⟨aB,a3+h*3+1,none⟩=some (.int .i64 K)):=fun J a8=>by rw[<- cf];exact j7 a8 (a1 h _ hpk).2.1
     have hl:1<=K/\K<=1500:=by have:=A7 (N.o.2.each _ p hpk).1;omega
     have fy:Az ps h=K:=by rw[CP hpk];exact cf
     have fm:=bd.o.ok.cr_in W.o.2 f;have gN:=(Gf W.o.1.each (by omega) f).2;obtain⟨c,cJ⟩:=ex (I.cr f);rw[cJ]at fm;have O:Hid (I.qs f=h::am/\ps[h]? = some p/\p.size=K/\Az ps h=K/\I.cr f=c):=⟨er,hpk,cf,fy,cJ⟩
     have jn:0<=c/\c<=1000000:=by omega
     have g3:Hid (Eg ps s1.out f D n=h::am):=by rw[<- ab.o,<- z.o.2.2.2.2.1];exact fk
     have fd:=kG (e9.o _ Q f D s1.out aE.o.below aE.o.done);rw[g3.o]at fd;have ju:=qX fv;clear er fk eb hb gS fv hpk a1 cf fy fm gN cJ;go_wp2_with fail;refine fd.o.mono ?_
     rintro i3 be ⟨jt,rfl,cE,ee⟩;have cn:=kG (aE.o.later ee);unfold JR at cE;rw[<- Am]at cE;obtain⟨hu,j3,rfl,hP,gb,et⟩:=JH cE (by rw[Am];simp);have fS:be.cell? ⟨hu,0,none⟩=some (.int .i64 h):=et 0 _ rfl;obtain⟨hf,cT⟩:=ex ((Ai (h::am)).length);have j8:0<hf:=by rw[<- cT,Am];simp
     rw[cT]at hP ⊢;unfold maxLen at gb;have eV:=ds.o be cn.o.below;have fu:be.cell? ⟨U,f,none⟩=some (.int .i64 c):=by rw[<- O.o.2.2.2.2];exact cn.o.cred.cell f aN
     have i4:(f:Int)<8:=by omega
     clear cE ee et cT;by_cases b5:c<K
     ·
      have dm:decide (c<K)=true:=qM b5;obtain⟨fR,jj,ev⟩:=bd.o.back O.o.1 (by rw[O.o.2.2.2.1,O.o.2.2.2.2];exact b5);have hx:=qX ev;clear ev b5;go_wp2
      go_quiet (fail);obtain⟨ar,ca⟩:=ex (be.drewN nq);have a4:=kG (cn.o.later (qL (y6 _ be) nq));rw[ca]at a4 ⊢;obtain⟨f2,hS,g6,-,-,du,fW,-⟩:=a4.o.row.cells;injection g6 with ez es fz
      have b9:Hid ((f2=none->Ai I.row=[]/\hS=0)/\AR ar f2 (Ai I.row)/\(Ai I.row).length=I.row.length):=⟨fun e=>⟨by rw[(du e).1];rfl,(du e).2⟩,fW,Am _⟩
      rw[<- ez,<- es,<- fz]at b9;clear ca du fW ez es fz fS eV fu dm;go_wp2_with (first
       | (at_builtin;(refine FC _ rfl _ _ 27 rfl 3 d6 (.int .i64 0) Tryz.underlying27 dy dk db cS rfl _ _ _ (Ai I.row) b9.o.2.2 rfl rfl b9.o.2.1 b9.o.1 (by omega) ?_;rintro eE bg ⟨eW,da⟩;have bs:Hid ((bg.alloc (.cells #[.int .i64 f] 3)).ownsRow ar.heap.size 3 1 eE _ (ints (Ai I.row))/\zW ar (bg.alloc (.cells #[.int .i64 f] 3))/\(∀ j u,(ints [(f:Int)])[j]? = some u->(bg.alloc (.cells #[.int .i64 f] 3)).cell? (Addr.add ⟨bg.heap.size,0,none⟩ j)=some u)):=⟨Ah eW (fun g' _ hC=>Below.heap_alloc bg _ g' hC),da.alloc da.size _,World.news_of_block (cs:=#[.int .i64 f]) (t:=3) (vZ bg _)⟩;clear eW da))
       | (at_builtin;go_must (refine wpList_append_lies _ rfl _ _ 27 rfl ar.heap.size 3 d6 (.int .i64 0) 1 8 Tryz.underlying27 dy dk db cS rfl (by decide) eE _ (ints (Ai I.row)) rfl bs.o.1 ⟨bg.heap.size,0,none⟩ 1 1 (ints [(f:Int)]) rfl rfl bs.o.2.2 (D7 _) (by decide) (by unfold maxLen;omega) (by omega) bs.o.2.1.size _ rfl ?_;intro hd hg f5 ei e' hs h1;have d':Hid (f5.ownsRow ar.heap.size 3 1 (.slice (some ⟨hd,0,none⟩) (_+1) hg) (_+1) (ints (Ai I.row) ++ ints [(f:Int)]) /\ zW ar f5):=⟨ei,bs.o.2.1.grown e' bs.o.2.1.size (fun j bq=>(Aq bs.o.1 bq).1)⟩;clear ei e' hs h1)))
      have h9:=kG (a4.o.push d'.o.1 d'.o.2 b9.o.2.2);go_roundg (DC ps s1 fR bm)
      case measure=>
       unfold DC;simp only[z.o.1];omega
      case rel=>exact⟨s1,I.back f,fR,bm,_,rfl,rfl,by rw[z.o.2.2.2.2.1],hx.o,h9.o⟩
     have dm:decide (c<K)=false:=qF b5;have fc:K<=c:=by omega
     obtain⟨E,b1⟩:=ex (D+per*K);have c4:=bd.o.send N.o.2 W.o.2 O.o.1 O.o.2.1 (by rw[O.o.2.2.2.1,O.o.2.2.2.2];exact fc);have dz:=bd.o.left N.o.2 W.o.2 cV O.o.1 O.o.2.1 (by rw[O.o.2.2.2.1,O.o.2.2.2.2];exact fc);rw[z.o.2.2.2.2.1,O.o.2.2.1,b1]at c4;rw[z.o.2.2.2.2.1,O.o.2.2.1,b1,ab.o]at dz;have fa:=qX c4;have gy:=qX dz;have hO:0<=per*K:=vG (by omega) (by omega);have hz:per*K<=1000*1500:=yD (by omega) hl.2 (by omega) (by omega);obtain⟨e4,dq⟩:=ex (per*K);have i8:IntKind.i64.wrap (per*K)=e4:=by rw[dq];exact vY _ (by omega)
     rw[dq]at hO hz b1;have i':IntKind.i64.wrap (D+e4)=E:=by rw[b1];exact vY _ (by omega)
     have wc:IntKind.i64.wrap (c-K)=c-K:=vY _ (by omega);have i7:=qX b1;clear c4 dz b5 dq;go_wp2
     go_quiet (fail);obtain⟨ar,ca⟩:=ex (be.drewN nq);have a4:=kG (cn.o.later (qL (y6 _ be) nq));rw[ca]at a4 ⊢;have g1:=ds.o ar a4.o.below;have hD:ar.cell? ⟨U,f,none⟩=some (.int .i64 c):=by rw[<- O.o.2.2.2.2];exact a4.o.cred.cell f aN
     have hH:=a4.o.cred.frozen f;clear ca fS eV fu dm;go_wp2
     go_region;have aj:=kG ((a4.o.setCred aN (c-K)).later br.drew);obtain⟨bl,e0⟩:=ex ((ar.setCell ⟨U,f,none⟩ (.int .i64 (c-K))).drew);rw[e0]at aj ⊢;have f':=aj.o.done.cell h eS;have f8:=aj.o.done.frozen h;have cP:But (fun k=>k=Q) bl (bl.setCell ⟨Q,h,none⟩ (.bool true)):=Jn bl Q h _;have el:(bl.setCell ⟨Q,h,none⟩ (.bool true)).cell? ⟨aB,a3+h*3+1,none⟩=some (.int .i64 K):=ds.o _ (aj.o.below.trans (cP.below aj.o.below.size fun k aS=>by rw[aS];exact aj.o.new.1));obtain⟨H,b8⟩:=ex (bl.setCell ⟨Q,h,none⟩ (.bool true));have cj:zW H ((H.alloc (.cells #[.int .i64 h,.int .i64 D,.int .i64 E] 61)).alloc (.cells #[.int .i64 h,.int .i64 D,.int .i64 E] 61)):=ba.alloc (by simp) _;have dg:∀ g,(Value.slice al L aq).ownBlock=some g->g<bl.heap.size/\g≠Q:=fun g ch=>⟨(Aq aj.o.own ch).2,fun e=>aj.o.vne.1 (by rw[<- e];exact ch)⟩
     have dr:H.heap.size=bl.heap.size:=by rw[<- b8];exact size_setCell _ _ _
     have gk:Hid (DX ((H.alloc (.cells #[.int .i64 (h:Int),.int .i64 D,.int .i64 E] 61)).alloc (.cells #[.int .i64 (h:Int),.int .i64 D,.int .i64 E] 61)) w.heap.size (.slice al L aq) s1.out):=Ah aj.o.own (fun g ch b2=>by
      rw[cj.block g (by rw[dr];exact b2),<- b8];exact cP.block g b2 (dg g ch).2)
     have g7:Hid (∀ j u,(cellsS [⟨h,D,E⟩])[j]? = some u->((H.alloc (.cells #[.int .i64 h,.int .i64 D,.int .i64 E] 61)).alloc (.cells #[.int .i64 h,.int .i64 D,.int .i64 E] 61)).cell? ((⟨H.heap.size+1,0,none⟩:Addr).add j)=some u):=World.news_of_block (cs:=#[.int .i64 h,.int .i64 D,.int .i64 E]) (t:=61) (by have:=vZ (H.alloc (.cells #[.int .i64 h,.int .i64 D,.int .i64 E] 61)) (.cells #[.int .i64 h,.int .i64 D,.int .i64 E] 61);simpa using this);have cd:Hid (w.heap.size<=((H.alloc (.cells #[.int .i64 h,.int .i64 D,.int .i64 E] 61)).alloc (.cells #[.int .i64 h,.int .i64 D,.int .i64 E] 61)).heap.size/\H.heap.size<((H.alloc (.cells #[.int .i64 h,.int .i64 D,.int .i64 E] 61)).alloc (.cells #[.int .i64 h,.int .i64 D,.int .i64 E] 61)).heap.size):=⟨qI (by rw[dr];exact aj.o.below.size) cj.size,by simp;omega⟩
     have hJ:Hid (some H.heap.size≠(Value.slice al L aq).ownBlock):=fun e=>by
      have:=(dg _ e.symm).1;omega
     have hk:Hid (((H.alloc (.cells #[.int .i64 h,.int .i64 D,.int .i64 E] 61)).alloc (.cells #[.int .i64 h,.int .i64 D,.int .i64 E] 61)).cell? ⟨H.heap.size,2,none⟩=some (.int .i64 E)):=j7 ba (by simp);have ep:=qY b8.symm cj;have ge:Hid (H.heap.size≠U):=fun e=>by have:=aj.o.cred.lt;omega
     rw[b8]at el;have ii:(H.alloc (.cells #[.int .i64 h,.int .i64 D,.int .i64 E] 61)).cell? ⟨H.heap.size,0,none⟩=some (.int .i64 h):=by simp
     have eK:(H.alloc (.cells #[.int .i64 h,.int .i64 D,.int .i64 E] 61)).cell? ⟨H.heap.size,1,none⟩=some (.int .i64 D):=by simp
     have ff:(H.alloc (.cells #[.int .i64 h,.int .i64 D,.int .i64 E] 61)).cell? ⟨H.heap.size,2,none⟩=some (.int .i64 E):=by simp
     clear e0 cj dg dr cP g1 hD hH;have d5:=qX z.o.2.2.2.2.2.1;go_wp2_with (at_builtin;go_must (refine wpList_append_lies _ rfl _ _ 57 rfl w.heap.size 61 h5 (.agg #[.int .i64 0,.int .i64 0,.int .i64 0]) 3 24 Tryz.underlying57 g0 gp gE hm rfl (by decide) (.slice al L aq) L (cellsS s1.out) rfl (by have:=gk.o;unfold DX at this;rwa[d5.o]at this) ⟨H.heap.size+1,0,none⟩ 1 1 (cellsS [⟨h,D,E⟩]) rfl rfl g7.o (FL _) (by decide) (by unfold maxLen;omega) (by omega) cd.o.1 _ rfl ?_;intro gh gw cb eM dT fY hy;have e5:cb.cell? ⟨H.heap.size,2,none⟩=some (.int .i64 E):=(dT.cell_far ⟨H.heap.size,2,none⟩ cd.o.2 hJ.o).trans hk.o;have cm:=kG (aj.o.setDone h eS (f:=D) (t:=E) (g':=gh) (cap:=gw) H ep.o.1 ep.o.2 (by rw[d5.o];exact eM) dT fY);rw[d5.o]at cm;clear eM dT fY hy))
     have hI:Hid (Calls Tryz.prog 68 #[.slice (some ⟨aB,a3,none⟩) n ck,.slice (some ⟨Q,0,none⟩) n n,.int .i64 f,.int .i64 D] cb fun e w'=>∃ v,e=.returned v/\JR w' cb.heap.size v am/\zW cb w'):=by
      have:=e9.o cb Q f D (s1.out++[⟨h,D,E⟩]) cm.o.below cm.o.done;rwa[gy.o]at this
     refine hI.o.mono ?_
     rintro i9 hY ⟨jv,rfl,cp,dj⟩;have cq:=kG (cm.o.later dj);have gj:=j7 dj e5;unfold JR at cp;rw[<- Am]at cp;obtain⟨iu,j0,rfl,cX,hK⟩:=Jz cp;rw[Am]at cX ⊢;unfold maxLen at hK;clear cp dj e5 f' f8 el ii eK ff b8;by_cases b3:am=[]
     ·
      subst b3;have u1:=cq.o.cred.cell f aN;have u2:=cq.o.cred.frozen f;have cl:=kG (cq.o.setCred aN 0);rw[JC]at cl;have u3:(hY.setCell ⟨U,f,none⟩ (.int .i64 0)).cell? ⟨H.heap.size,2,none⟩=some (.int .i64 E):=(j9 _ _ _ _ (fun e=>ge.o (by injection e with a5;exact a5.symm))).trans gj;have c5:Hid (FE (I.sent (Az ps) f h []).srv = -1):=rfl;simp only[vU]at cX ⊢;go_wp2
      go_roundg (DC ps ⟨s1.out++[⟨(h:Nat),D,E⟩],E,s1.next,(Bc ps ns).left s1.q⟩ 29999 1)
      case measure=>
       unfold DC;simp only[z.o.1,qJ,vH,vU,bj.o.2.1,ab.o];omega
      case rel=>exact⟨_,I.sent (Az ps) f h [],29999,1,Z,rfl,by rw[c5.o],rfl,fa.o,cl.o⟩
     have cR:0<am.length:=yH.2 b3;have fg:Hid (I.sent (Az ps) f h am={ I with qs:=AB I.qs f am,cr:=AB I.cr f (c-K) }):=by
      show _=_
      unfold Drr.sent;rw[if_neg b3,O.o.2.2.2.1,O.o.2.2.2.2]
     have c5:Hid (FE (I.sent (Az ps) f h am).srv=(f:Int)):=by
      show _=_
      rw[fg.o];show FE I.srv=_
      rw[bd.o.srv];rfl
     obtain⟨gl,ew⟩:=ex am.length;rw[ew]at cX cR ⊢;have ix:((gl:Int)==0)=false:=by simp;omega
     clear ew;go_wp2
     go_roundg (DC ps ⟨s1.out++[⟨(h:Nat),D,E⟩],E,s1.next,(Bc ps ns).left s1.q⟩ 29999 1)
     case measure=>
      unfold DC;simp only[z.o.1,qJ,vH,vU,bj.o.2.1,ab.o];omega
     case rel=>exact⟨_,I.sent (Az ps) f h am,29999,1,Z,rfl,by rw[c5.o],rfl,fa.o,by rw[fg.o];exact cq.o⟩
  have h2:Hid (P6 per ps ns w (.returned (.slice al L aq)) h3):=⟨_,s.out,rfl,de.o.own,f1.o.end_ N.o.2 W.o.2 (by rw[bj.o.2.1,ab.o];exact b2),de.o.below⟩
  go_wp2
  go_ret;exact h2.o
end Go.Proofs.YtejlihcdfffafaaGreatDoor
