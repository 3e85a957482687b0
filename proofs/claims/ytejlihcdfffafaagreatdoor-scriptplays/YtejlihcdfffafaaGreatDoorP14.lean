import Derived.Test.YtejlihcdfffafaaGreatDoorP13
set_option maxHeartbeats 8000000
set_option maxRecDepth 100000
namespace Go.Proofs.YtejlihcdfffafaaGreatDoor
open Go.RowKit
def MM (ls:lI)(ps:List Pk)(w:World)(e:Ending)(w':World):Prop:=
 zW w w' /\
 ((∃ s v,shape ls ps=some s /\ e=.returned (.tuple #[v,.int .i64 (-1)]) /\ BD w' w.heap.size v s.out) \/
  (∃ (j:Nat) (p:Pk) (s:Sh),ps[j]? = some p /\ shape ls (ps.take j)=some s /\ CR s p=none /\ e=.returned (.tuple #[.slice none 0 0,.int .i64 j])))
structure Zd (ls:lI)(ps:List Pk)(w wr:World)(v:Value)(hs:List Nat)(ms:List Rb)(o:Value)(k:Nat)(s:Sh):Prop where
 run:shape ls (ps.take k)=some s
 rs:Hy w wr v hs ms
 len:ms.length=s.bs.length
 rel:∀(i:Nat) b m,s.bs[i]? = some b->ms[i]? = some m->RelB b m
 out:BD wr w.heap.size o s.out
 apart:∀ h,h∈hs->o.ownBlock≠some h
 apart2:∀ j,o.ownBlock=some j->v.ownBlock≠some j
 below:zW w wr
structure Fq (w:World)(C:Nat)(x y z:Int):Prop where
 c0:w.cell? ⟨C,0,none⟩=some (.int .i64 x)
 c1:w.cell? ⟨C,1,none⟩=some (.int .i64 y)
 c2:w.cell? ⟨C,2,none⟩=some (.int .i64 z)
 f2:w.frozen? ⟨C,2,none⟩=false
theorem Zr (w:World)(x y h:Int):Fq (w.alloc (.cells #[.int .i64 x,.int .i64 y,.int .i64 h] 50)) w.heap.size x y h:=⟨by simp,by simp,by simp,by simp⟩
theorem Fq.but {S:Nat->Prop}{w w':World}{C:Nat}{x y E:Int}(h:Fq w C x y E)(z:But S w w')(D:¬S C):Fq w' C x y E:=
 have l:=Cg h.c0
 ⟨by rw[z.cell (p:=⟨C,0,none⟩) l D];exact h.c0,by rw[z.cell (p:=⟨C,1,none⟩) l D];exact h.c1,by rw[z.cell (p:=⟨C,2,none⟩) l D];exact h.c2,by rw[z.frozen (p:=⟨C,2,none⟩) l D];exact h.f2⟩
theorem Fq.below {w w':World}{C:Nat}{x y h:Int}(z:Fq w C x y h)(D:zW w w'):Fq w' C x y h:=z.but (S:=fun _=>False) (.ofBelow D) id
theorem Fq.set {w:World}{C:Nat}{x y z:Int}(h:Fq w C x y z)(u:Int):Fq (w.setCell ⟨C,2,none⟩ (.int .i64 u)) C x y u:=
 ⟨by rw[j9 _ _ _ _ (by simp)];exact h.c0,by rw[j9 _ _ _ _ (by simp)];exact h.c1,vD _ _ _ h.c2,by rw[qK];exact h.f2⟩
theorem Hy.set {w wr w':World}{v:Value}{z:List Nat}{H:List Rb}(h:Hy w wr v z H)(a q:Nat)(O:Rb)(J:z[a]? = some q)(N:But (fun k=>k=q) wr w')(V:FK w' q O):Hy w w' v z (H.set a O):=by
 have W:=q9 J;refine⟨by simp[h.len],C9 h.own N (fun k U e=>(h.new q W).2 (by rw[U,e])),fun i p m E D=>?_,h.new,h.one⟩;by_cases K:i=a
 ·
  subst K;obtain rfl:q=p:=Option.some.inj (J.symm.trans E);have Q:i<H.length:=by
   rw[<- h.len];rcases qC i z.length with I|I
   · exact I
   simp[qH I]at E
  rw[zB Q]at D;cases D
  exact V
 rw[List.getElem?_set_ne (fun e=>K e.symm)]at D;exact(h.rb i p m E D).but N (fun e=>K (h.one i a p E (by rw[e];exact J)))
theorem WU {ps:List Pk}(D:Al ps)(k:Nat):Al (ps.take k):=by
 refine⟨by have:=D.few;simp;omega,fun i p h=>?_⟩;have E:i<k:=by
  rcases qC i k with z|z
  · exact z
  rw[yR,if_neg (by omega)]at h;cases h
 rw[yI E]at h;have:=D.each i p h;refine⟨this.1,?_⟩;have e:ahead (ps.take k) i=ahead ps i:=by
  cases i with
  | zero=>rfl
  | succ i=>simp only[ahead];rw[yI (by omega)]
 rw[e];exact this.2
theorem VA (dn:oA)(eI:Nat)(ls:lI)(c7:oA)(cap:Nat)(ps:List Pk)(w:World)(cG:AQ w dn ls)(cb:Ak ls)(K:Aw w c7 ps)(cj:Al ps):Calls Tryz.prog 30 #[.slice dn ls.length eI,.slice c7 ps.length cap] w fun e w'=>MM ls ps w e w':=by
 have cc:=qY K cj;have ef:=qX cb;have eR:=cj.few;obtain⟨E,en,c4⟩:=cb;obtain⟨cW,c9,rfl,cT,dj⟩:=cG.some E;have b':=qX dj;have c':=qY c4 cT;clear cG K cj c4 dj cT;obtain⟨b1,bx⟩:=ex ls.length;have bT:=qX bx;obtain⟨n,bp⟩:=ex ps.length;have bw:=qX bp;rw[bx,bp];rw[bx]at E en;rw[bp]at eR;clear bx bp;obtain⟨dd,a8,dv,ev,eS⟩:=vL Tryz.infoPRBk;obtain⟨cN,d7,eL,ep,dt⟩:=vL Tryz.infoPkt;go_in
 go_wp2_with fail;go_loopw [6,7] (fun v i wr=>∃ k:Nat,k<=b1/\i=.int .i64 k/\∃ V,Hy w wr v V ((ls.take k).map MQ)/\zW w wr) (fun _ i _=>b1-(intOf i).toNat)
 case atStart=>exact⟨0,qR _,rfl,[],aZ w w,br⟩
 case round=>
  obtain⟨k,cb,rfl,V,N,z⟩:=hrel;have bm:=qX N;have aE:=qX z;have bt:V.length=k:=by rw[N.len,xZ,vO,bT.o];omega
  have cV:=qX bt;by_cases eE:k<b1
  ·
   obtain⟨⟨x,y⟩,K,ai⟩:=Ab ls k (by rw[bT.o];exact eE);have c1:=j7 z (b'.o k x y K).1;have cY:=j7 z (b'.o k x y K).2;have dk:=qX (b'.o k x y K);obtain⟨d6,et,-,-⟩:=AA (c'.o.1 _ ai);simp only at d6 et;have ff:IntKind.i64.wrap (1000*x)=1000*x:=vY _ (by omega);have a7:Hid ((ls.take (k+1)).map MQ=(ls.take k).map MQ++[MQ (x,y)]):=by
    show _=_
    rw[vF,K];simp
   clear N z K ai bt;go_wp2_with fail;go_region_held_law (fun w'=>w'.cell? ⟨cW,c9+k*2,none⟩=some (.int .i64 x)/\w'.cell? ⟨cW,c9+k*2+1,none⟩=some (.int .i64 y)) (go_keep)
    (first
     | (refine step_append_lies _ rfl _ _ 92 rfl w.heap.size 93 dd (.pointer none) 1 8 Tryz.underlying92 a8 dv ev eS rfl (by decide) u6 V.length (ptrs V) rfl (by exact (bm.o.below (((br.drew).alloc lr _).alloc (by simp) _)).own) ⟨wr.heap.size+1,0,none⟩ 1 1 [.pointer (some ⟨wr.heap.size,0,none⟩)] rfl rfl (by intro j u D;match j,D with | 0,D=>simp at D;subst D;simp [Addr.add] | j+1,D=>simp at D) (by intro u a';simp at a';subst a';rfl) (by decide) (by have:=cV.o;unfold maxLen;omega) (by have:=cV.o;omega) (by have:=aE.o.size;simp;omega) (wr.heap.size+2) (by simp) ?_
        intro a9 b7 cx bj a6 a3 cl;have cf:=qX (bm.o.more x y a9 b7 aE.o.size bj a6 a3);have cq:Hid (zW w cx):=((aE.o.drew.alloc (by exact aE.o.size) _).alloc (by have:=aE.o.size;simp;omega) _).grown a6 (by have:=aE.o.size;simp;omega) (fun j cQ=>(World.ownsRow.lt bm.o.own j cQ).1);have e6:=j7 cq.o dk.o.1;have fh:=j7 cq.o dk.o.2;clear bj a6 a3 cl)
     | fail)
   all_goals
    go_wp2
    go_roundw
    case rel=>exact⟨k+1,by omega,by go_num,_,by rw[a7.o];exact cf.o,cq.o⟩
    case measure=>simp[intOf];omega
  obtain rfl:k=b1:=by omega
  obtain⟨G,ap,rfl,e9⟩:∃ G ap,u6=.slice (some ⟨G,0,none⟩) k ap/\w.heap.size<=G:=by
   obtain⟨-,⟨-,e⟩|⟨g,c,e',e,ez,-⟩⟩:=N.own
   · omega
   exact⟨g,c,by rw[e,bt],ez⟩
  have dX:Hid (Zd ls ps w wr (.slice (some ⟨G,0,none⟩) k ap) V (ls.map MQ) (.slice none 0 0) 0 ⟨ls.map He,0,[]⟩):=by
   have de:=N;rw[vP (by rw[bT.o];omega)]at de;refine⟨by simp[shape],de,by simp,fun i b m z ai=>?_,qQ _ _ _ _,(fun D _ e=>by cases e),(fun j e=>by cases e),z⟩;simp only[xM,xD]at z ai;obtain⟨p,K,rfl⟩:=z;obtain⟨ea,dz,rfl⟩:=ai;obtain rfl:p=ea:=Option.some.inj (K.symm.trans dz);exact fI p (c'.o.1 p (q9 K))
  clear N z bt bm aE;go_wp2_with fail;go_loopw [8,9] (fun o i wr=>∃ j:Nat,j<=n/\i=.int .i64 j/\∃ bh s,Zd ls ps w wr (.slice (some ⟨G,0,none⟩) k ap) V bh o j s) (fun _ i _=>n-(intOf i).toNat)
  case atStart=>exact⟨0,qR _,rfl,_,_,dX.o⟩
  case round=>
   obtain⟨j,cQ,rfl,bh,s,a4⟩:=hrel;have H:=qX a4;have aq:=qX (GG ef.o _ _ (WU cc.o.2 j) a4.run);by_cases d8:j<n
   ·
    obtain⟨⟨x,y,Q⟩,K,-⟩:=Ab ps j (by rw[bw.o];exact d8);obtain⟨b,fc,rfl,-,Z⟩:=(cc.o.1.below a4.below).place (by rw[bw.o];omega);obtain⟨c1,cY,eK⟩:=Z j _ K;simp only at c1 cY eK;have o:=A7 (cc.o.2.each j _ K).1;simp only at o;obtain⟨-,-,cC,dg,e3,e0⟩:=o;have cX:=aq.o.okOut.final;rw[<- aq.o.left]at cX;have cM:=qX K;have a0:Hid (s.out.length=j):=by
     show _=_
     rw[aq.o.len,vO,bw.o];omega
    have c5:Hid (j=0->s.left=0):=fun e=>by
     have E:=aq.o.left;rw[a0.o,e]at E;exact E
    obtain⟨bN,b8,aj,-,-,c2,-,-⟩:=BD.open a4.out;have em:=qX c2;rw[a0.o]at aj;subst aj;have cn:Hid (1<=j->∃ a2 aj,bN=some ⟨a2,aj,none⟩/\wr.cell? ⟨a2,aj+(j-1)*3+2,none⟩=some (.int .i64 s.left)):=fun E=>by
     obtain⟨a2,aj,e,-,dy⟩:=em.o.place (by rw[a0.o];exact E);refine⟨a2,aj,e,?_⟩;obtain⟨dr,cU,-⟩:=Ab s.out (j-1) (by rw[a0.o];omega);have cE:=(dy (j-1) dr cU).2.2;have cd:=aq.o.left;rw[a0.o]at cd;have ci:=Ka cU;rw[show j-1+1=j by omega]at ci;rw[cd,ci];exact cE
    obtain⟨L,cy⟩:=ex s.left;have cD:=qX cy;rw[cy]at cX c5 cn;obtain⟨t,cL⟩:∃ t:Bool,decide (1<=j/\Q<L)=t:=⟨_,rfl⟩
    have a7:=qX cL;clear a4 Z K c2 cy cL;go_upto_region 11 with fail
    go_cut [58]from 36 to 109 (fun eA U=>eA=.bool t/\Fq U wr.heap.size x y Q/\zW wr U)
    case first=>
     have aN:zW wr (wr.alloc (.cells #[.int .i64 x,.int .i64 y,.int .i64 Q] 50)):=ba;have cI:=qX aN;have ac:=qX (Zr wr x y Q);rcases xP j with rfl|cv
     ·
      obtain rfl:t=false:=by rw[<- a7.o];simp
      clear aN;go_quiet (fail);go_wp2_with fail;go_meet;exact⟨rfl,ac.o.below (qL br _),qL cI.o _⟩
     obtain⟨a2,aj,rfl,cm⟩:=cn.o cv;have ds:=j7 aN cm;have fd:decide ((0:Int)<(j:Int))=true:=qM (by omega);have fi:decide (Q<L)=t:=by
      rw[<- a7.o];have:1<=j:=cv;simp[this]
     clear aN;cases t
     all_goals
      go_quiet (fail);go_wp2_with fail;go_meet;exact⟨rfl,ac.o.below (qL br _),qL cI.o _⟩
    case rest=>
    obtain⟨rfl,O,bb⟩:=hcut;go_upto_if 58 with fail
    go_cut [58]from 36 to 109 (fun _ U=>Fq U wr.heap.size x y (max Q L)/\zW wr U)
    case first=>
     have ac:=qX O;have cS:=qX bb;cases t with
     | false=>
      have be:max Q L=Q:=by
       have E:=xE a7.o;have cE:=c5.o;omega
      clear O bb;go_wp2_with fail;go_meet;exact⟨by rw[be];exact ac.o,cS.o⟩
     | true=>
      have E:=vM a7.o;have cf:Hid (max Q L=L):=by show _=_;omega
      obtain⟨a2,aj,rfl,cm⟩:=cn.o E.1;have ds:=j7 bb cm;obtain⟨ct,d1,d2,ck⟩:=O;have cv:=E.1;clear bb E;go_wp2_with fail;go_meet;exact⟨by rw[cf.o];exact ac.o.set L,cS.o.setCell lr _⟩
    case rest=>
    obtain⟨ce,c8⟩:=hcut;clear O bb;obtain⟨M,be⟩:=ex (max Q L);rw[be]at ce;have dp:=qX be;have eh:0<=M:=by omega
    have bd:M<=1099511627776:=by omega
    have ew:L<=M:=by omega
    have ec:=qX ce;have eJ:=qX c8;have W:Hid (V.length=k/\s.bs.length=k/\bh.length=k):=by
     have E:=aq.o.few;have cE:=bT.o;have cd:=H.o.len;have ci:=H.o.rs.len;exact⟨by omega,by omega,by omega⟩
    have bq:Hid (∀ b,b∈s.bs->b.Ok/\b.last=L):=fun b z=>by
     have:=aq.o.ok b z;rwa[cD.o]at this
    obtain⟨ct,d1,d2,ck⟩:=ce;clear be c8;obtain⟨bk,dT⟩:∃ bk,bk=wr:=⟨_,rfl⟩
    subst dT;go_wp2_with fail;go_loopw [12] (fun i U=>∃ l:Nat,l<=k/\i=.int .i64 l/\∃ u,DN (s.bs.take l) M y=some u/\M<=u/\u<=1099511627776/\Fq U bk.heap.size x y u/\zW bk U) (fun i _=>k-(intOf i).toNat)
    case atStart=>exact⟨0,qR _,rfl,M,rfl,q8 _,bd,ec.o,eJ.o⟩
    case round=>
     obtain⟨l,e8,rfl,u,a',eV,cR,O,aS⟩:=hrel;have c6:=qX a';have ac:=qX O;have cw:=qX aS;by_cases cg:l<k
     ·
      obtain⟨I,aw,a5⟩:=Ab s.bs l (by rw[W.o.2.1];exact cg);obtain⟨h,ao,-⟩:=Ab V l (by rw[W.o.1];exact cg);obtain⟨m,ar,-⟩:=Ab bh l (by rw[W.o.2.2];exact cg);have N:=H.o.rs.below aS;have es:=Hy.ptr (cap:=ap) (by rw[W.o.1];exact N) l h ao;have ab:=qX (bq.o I a5);have eT:=qX a5;have b9:Hid (D9 I.last M y=0):=FP.2 ⟨cC,dg,eh,bd,by rw[ab.o.2];exact ew⟩;have av:Hid (∀ w',zW wr w'->Calls Tryz.prog 44 #[.pointer (some ⟨h,0,none⟩),.int .i64 M,.int .i64 y] w' fun e am=>e=.returned (.int .i64 (XD (I.when M y)))/\zW w' am):=
       fun w' cu=>dV h I m M y w' ((N.rb l h m ao ar).below cu) ab.o.1 (H.o.rel l I m aw ar) b9.o
      have cA:Hid (s.bs.take (l+1)=s.bs.take l++[I]):=by show _=_;rw[vF,aw];rfl
      have bg:=O.c1;have b6:=O.c2;have e4:=O.f2;clear N aw ao ar a5 a' aS ct d1 d2 ck;cases aB:I.when M y with
      | none=>
       have el:Hid (CR s ⟨x,y,Q⟩=none):=by
        show _=_
        unfold CR;simp only;rw[cD.o,dp.o,VD (fun c Z=>(bq.o c Z).1) eT.o bd aB]
       rw[aB]at av;change Hid (∀ w',zW wr w'->Calls Tryz.prog 44 #[.pointer (some ⟨h,0,none⟩),.int .i64 M,.int .i64 y] w' fun e am=>e=.returned (.int .i64 (-1))/\zW w' am)at av
       clear aB O;go_wp2_with fail;go_region_with (first
        | (go_simp;go_at_call 44;go_must (refine(av.o _ ?_).mono ?_;exact br.drew;rintro e Y ⟨rfl,J⟩;have ad:Hid (zW wr Y):=J8 J;clear J))
        | fail)
       all_goals
        go_wp2
        go_ret2;have du:=cw.o.tr ad.o;have d4:=H.o.below;exact⟨d4.tr du,.inr ⟨j,⟨x,y,Q⟩,s,cM.o,H.o.run,el.o,rfl⟩⟩
      | some T=>
       rw[aB]at av;change Hid (∀ w',zW wr w'->Calls Tryz.prog 44 #[.pointer (some ⟨h,0,none⟩),.int .i64 M,.int .i64 y] w' fun e am=>e=.returned (.int .i64 T)/\zW w' am)at av
       obtain⟨e2,ei,-,-⟩:=Bk.when_some ab.o.1 bd aB;have b5:Hid (DN (s.bs.take (l+1)) M y=some (if u<T then T else u)):=by
        show _=_
        rw[cA.o];exact WJ (fun c Z=>(bq.o c (yM Z)).1) ab.o.1 bd c6.o aB
       have e5:¬T<0:=by omega
       clear aB O;by_cases cF:u<T
       ·
        rw[if_pos cF]at b5;go_wp2_with fail;go_region_with (first
         | (go_simp;go_at_call 44;go_must (refine(av.o _ ?_).mono ?_;exact br.drew;rintro e Y ⟨rfl,J⟩;have ad:Hid (zW wr Y):=J8 J;have a1:Hid (Fq Y _ x y u):=ac.o.below ad.o;have d5:=a1.o.c2;have ee:=a1.o.f2;clear J))
         | fail)
        all_goals
         go_wp2
         go_roundw
         case rel=>exact⟨l+1,by omega,by go_num,T,b5.o,by omega,ei,a1.o.set T,(cw.o.tr ad.o).setCell lr _⟩
         case measure=>simp[intOf];omega
       rw[if_neg cF]at b5;go_wp2_with fail;go_region_with (first
        | (go_simp;go_at_call 44;go_must (refine(av.o _ ?_).mono ?_;exact br.drew;rintro e Y ⟨rfl,J⟩;have ad:Hid (zW wr Y):=J8 J;have a1:Hid (Fq Y _ x y u):=ac.o.below ad.o;have d5:=a1.o.c2;have ee:=a1.o.f2;clear J))
        | fail)
       all_goals
        go_wp2
        go_roundw
        case rel=>exact⟨l+1,by omega,by go_num,u,b5.o,eV,cR,a1.o,cw.o.tr ad.o⟩
        case measure=>simp[intOf];omega
     obtain rfl:k=l:=by omega
     have eg:Hid (DN s.bs M y=some u):=by
      have:=c6.o;rwa[vP (by rw[W.o.2.1];omega)]at this
     have eo:Hid (CR s ⟨x,y,Q⟩=some ⟨s.bs.map fun b=>b.take u y,u,s.out++[⟨x,y,u⟩]⟩):=by
      show _=_
      unfold CR;simp only;rw[cD.o,dp.o,eg.o]
     have eq:=qX (H.o.rs.below aS);have ek:Hid (BD wr w.heap.size (.slice bN j b8) s.out):=C9 H.o.out (But.ofBelow (S:=fun _=>False) aS) (fun _ _ D=>D);have eC:=qX (H.o.below.tr aS);have bg:=O.c1;have b6:=O.c2;clear a' aS ct d1 d2 ck;go_wp2_with fail;go_loopw [14] (fun i U=>∃ a:Nat,a<=k/\i=.int .i64 a/\∃ an,Hy w U (.slice (some ⟨G,0,none⟩) k ap) V an/\an.length=k/\(∀(l:Nat) b m,s.bs[l]? = some b->an[l]? = some m->RelB (if l<a then b.take u y else b) m)/\Fq U bk.heap.size x y u/\BD U w.heap.size (.slice bN j b8) s.out/\zW w U) (fun i _=>k-(intOf i).toNat)
     case atStart=>exact⟨0,qR _,rfl,bh,eq.o,W.o.2.2,fun l b m z ai=>by rw[if_neg (by omega)];exact H.o.rel l b m z ai,ac.o,ek.o,eC.o⟩
     case round=>
      obtain⟨a,fj,rfl,an,N,ca,b0,al,ch,co⟩:=hrel;have bc:=qX N;have bv:=qX ca;have c3:=qX b0;have d0:=qX al;have cp:=qX ch;have b2:=qX co;by_cases b3:a<k
      ·
       obtain⟨I,aw,a5⟩:=Ab s.bs a (by rw[W.o.2.1];exact b3);obtain⟨h,ao,db⟩:=Ab V a (by rw[W.o.1];exact b3);obtain⟨m,ar,-⟩:=Ab an a (by rw[bv.o];exact b3);have es:=Hy.ptr (cap:=ap) (by rw[W.o.1];exact N) a h ao;have ab:=qX (bq.o I a5);have cH:Hid (RelB I m):=by have:=b0 a I m aw ar;rwa[if_neg (by omega)]at this
       have b9:Hid (D9 I.last u y=0):=FP.2 ⟨cC,dg,by omega,cR,by rw[ab.o.2];omega⟩;have cA:Hid (∀ w',zW wr w'->Calls Tryz.prog 45 #[.pointer (some ⟨h,0,none⟩),.int .i64 u,.int .i64 y] w' fun e am=>e=.returned (.bool (decide (y*1000<=I.lev u)))/\FK am h (m.take u y)/\But (fun k=>k=h) w' am):=
        fun w' cu=>fP h I m u y w' ((N.rb a h m ao ar).below cu) ab.o.1 cH.o b9.o
       have bl:=qZ ao aw db;have cN:=al.c1;have er:=al.c2;generalize decide (y*1000<=I.lev u)=fg at *;clear N ca b0 al ch co aw ao db ar a5 bg b6 O;go_wp2_with fail;go_region_with (first
        | (go_simp;go_at_call 45;go_must (refine(cA.o _ ?_).mono ?_;exact br.drew;rintro e Y ⟨rfl,da,J⟩;have eb:Hid (FK Y h (m.take u y)):=da;have ad:Hid (But (fun k=>k=h) wr Y):=(But.ofBelow br.drew).trans J;clear da J))
        | fail)
       all_goals
        go_wp2
        go_roundw
        case rel=>
         have J:=ad.o;have eM:=bc.o.new h bl.o.2.2;have e7:=H.o.rs.lt h bl.o.2.2;refine⟨a+1,by omega,by go_num,an.set a (m.take u y),bc.o.set a h _ bl.o.1 J eb.o,by simp[bv.o],fun l b eW z b4=>?_,d0.o.but J (by omega),C9 cp.o J (fun i a8 e=>H.o.apart h bl.o.2.2 (by rw[a8,e])),b2.o.trans (J.one b2.o.size eM.1)⟩;by_cases dq:l=a
         ·
          subst dq;rw[zB (by rw[bv.o];exact b3)]at b4;cases b4
          obtain rfl:b=I:=Option.some.inj (z.symm.trans bl.o.2.1);rw[if_pos (by omega)];exact cH.o.take ab.o.1 (by rw[ab.o.2];omega) cC
         rw[List.getElem?_set_ne (fun e=>dq e.symm)]at b4;have:=c3.o l b eW z b4;by_cases cJ:l<a
         · rw[if_pos cJ]at this;rw[if_pos (by omega)];exact this
         rw[if_neg cJ]at this;rw[if_neg (by omega)];exact this
        case measure=>simp[intOf];omega
      obtain rfl:k=a:=by omega
      have dd:=al.c0;have e1:=al.c1;have er:=al.c2;have d':Hid (ps.take (j+1)=ps.take j++[⟨x,y,Q⟩]):=by show _=_;rw[vF,cM.o];rfl
      clear N ca b0 al ch co bg b6 O;go_wp2_with (at_builtin;refine wpList_append_lies _ rfl _ _ 42 rfl w.heap.size 50 cN (.agg #[.int .i64 0,.int .i64 0,.int .i64 0]) 3 24 Tryz.underlying42 d7 eL ep dt rfl (by decide) (.slice bN j b8) s.out.length (BV s.out) rfl (cp.o.alloc _) ⟨wr.heap.size,0,none⟩ 1 1 [.int .i64 x,.int .i64 y,.int .i64 u] rfl rfl (kg (by simp) (by simp) (by simp)) (XJ x y u) (by decide) (by have:=a0.o;unfold maxLen;omega) (by have:=a0.o;omega) (by have:=b2.o.size;simp;omega) _ rfl ?_;intro a9 b7 cx bj a6 a3 cl)
      have eN:Hid (Zd ls ps w cx (.slice (some ⟨G,0,none⟩) k ap) V an (.slice (some ⟨a9,0,none⟩) (s.out.length+1) b7) (j+1) ⟨s.bs.map fun b=>b.take u y,u,s.out++[⟨x,y,u⟩]⟩):=by
       have cP:=RX a6;have aN:zW wr (wr.alloc (.cells #[.int .i64 x,.int .i64 y,.int .i64 u] 50)):=ba;have ej:=bc.o.below aN;have dm:=b2.o.tr aN;have fa:(wr.alloc (.cells #[.int .i64 x,.int .i64 y,.int .i64 u] 50)).heap.size=wr.heap.size+1:=by simp
       have fb:G<wr.heap.size:=(World.ownsRow.lt bc.o.own G rfl).2;refine⟨?_,ej.but cP (fun q h e=>H.o.apart2 q e h) (fun q h e=>H.o.apart q h e),?_,fun i b m z ai=>?_,BD.snoc bj,fun q h e=>?_,fun q h e=>?_,dm.trans (cP.below dm.size (fun q h=>(World.ownsRow.lt cp.o q h).1))⟩
       · rw[d'.o,Ko,H.o.run];exact eo.o
       · rw[xZ,bv.o,W.o.2.1]
       ·
        simp only[xM,xD]at z;obtain⟨c,Z,rfl⟩:=z;have E:=c3.o i c m Z ai;have a8:i<s.bs.length:=by
         rcases qC i s.bs.length with D|D
         · exact D
         simp[qH D]at Z
        rwa[if_pos (by rw[W.o.2.1]at a8;exact a8)]at E
       ·
        have ey:a9=q:=Option.some.inj e;rcases a3 with D|D
        · exact H.o.apart q h (by rw[D,ey])
        have:=bc.o.lt q h;omega
       have bg:a9=q:=Option.some.inj h;have b6:G=q:=Option.some.inj e;rcases a3 with D|D
       · exact H.o.apart2 a9 D (by rw[bg];exact e)
       omega
      clear bj a6 a3 cl;go_wp2
      go_roundw
      case rel=>exact⟨j+1,by omega,by go_num,an,_,eN.o⟩
      case measure=>simp[intOf];omega
   clear a4;go_wp2
   go_ret2;obtain rfl:j=n:=by omega
   have E:=H.o;exact⟨E.below,.inl ⟨s,u8,by have:=E.run;rwa[vP (by rw[bw.o];omega)]at this,rfl,E.out⟩⟩
theorem UH (a:oA)(cap:Nat)(ls:lI)(w:World)(E:Nat->Addr)(D:A8 w E)(I:AQ w a ls)(O:ls.length<=cap)(J:cap<=maxLen)(c p:Int)(h:Ch ls c p):Calls Tryz.prog 61 #[.slice a ls.length cap] w fun e w'=>∃ H,e=.returned H/\Ba w' H c p/\zW w w':=by
 rcases h with⟨h,rfl,rfl⟩|⟨W,U,j,Q,N,V,rfl,rfl⟩|⟨h,rfl,rfl⟩
 ·
  refine(OP a ls.length cap w _ D.c2 (qI O J) h).mono ?_
  rintro e w' ⟨rfl,rfl⟩;exact⟨_,rfl,Bo D 2 (by decide),br⟩
 ·
  refine(R3 a cap ls w (E 1) D.c1 I W U j Q N V).mono ?_
  rintro e w' ⟨z,B,rfl,Z,ab,K,Y⟩;exact⟨_,rfl,⟨Ip (D.below z) 1 (by decide) j B K Y,fun h=>by omega,fun _=>⟨_,_,rfl⟩⟩,z⟩
 refine(Gl a cap ls w I h).mono ?_
 rintro e w' ⟨rfl,z⟩;exact⟨_,rfl,DK _,z⟩
theorem dC (a:oA)(cap:Nat)(ls:lI)(t:Int)(w:World)(z:Nat->Addr)(N:A8 w z)(J:AQ w a ls)(K:ls.length<=cap)(E:cap<=maxLen)(c p:Int)(O:Ch ls c p)(I:c≠0):Calls Tryz.prog 97 #[.slice a ls.length cap,.int .i64 t] w fun e w'=>∃ h v,e=.returned (.tuple #[.int .i64 0,.iface h v])/\Ba w' (.iface h v) c p/\zW w w':=by
 refine jS (R:=fun h v w'=>Ba w' (.iface h v) c p/\zW w w') a ls.length cap t w ((UH a cap ls w z N J K E c p O).mono ?_);rintro e w' ⟨Q,rfl,D,H⟩;obtain⟨h,v,rfl⟩:=D.some_ I;exact⟨h,v,rfl,D,H⟩
theorem iV (a:oA)(cap:Nat)(ls:lI)(t:Int)(w:World)(V:AQ w a ls)(I:Ak ls)(al:0<=t)(W:t<=1099511627776):Calls Tryz.prog 17 #[.slice a ls.length cap,.int .i64 t] w fun e w'=>e=.returned (.int .i64 (Bu t ls))/\zW w w':=by
 obtain⟨aq,a3,Q⟩:=I;obtain⟨b,ab,rfl,a6,O⟩:=V.some aq;clear V;have aj:=qX O;have am:=qX Q;clear O Q;generalize ad:ls.length=n at *;have J:=(show Hid (ls.length=n)from ad)
 clear ad;go_in
 go_wp2
 go_loopw [5,6] (fun m i wr=>∃ k:Nat,k<=n/\i=.int .i64 k/\m=.int .i64 (Bu t (ls.take k))/\∃ q,wr=w.drewN q) (fun _ i _=>n-(intOf i).toNat)
 case atStart=>exact⟨0,qR _,rfl,rfl,0,rfl⟩
 case round=>
  obtain⟨k,a2,rfl,rfl,q,rfl⟩:=hrel;by_cases ao:k<n
  ·
   obtain⟨⟨x,y⟩,h,K⟩:=Ab ls k (by rw[J.o];exact ao);have Z:=(aj.o k x y h).1;have ai:=(aj.o k x y h).2;obtain⟨ar,ap,ac,an⟩:=AA (am.o _ K);simp only[]at ar ap ac an;obtain⟨a4,aS⟩:=NH ac an al W;have E:ls.take (k+1)=ls.take k++[(x,y)]:=by rw[vF,h];rfl
   by_cases aw:k=0
   ·
    subst aw;have D:Hid (Bu t (ls.take (0+1))=x+y*t/1000):=by show _=_;rw[E];rfl
    have a1:w.cell? ⟨b,ab,none⟩=some (.int .i64 x):=by simpa using Z
    have aN:w.cell? ⟨b,ab+1,none⟩=some (.int .i64 y):=by simpa using ai
    clear E h K Z ai;go_wp2
    go_quiet (fail);go_wp2
    go_roundw
    case rel=>exact⟨0+1,by omega,by go_num,by rw[D.o],_,rfl⟩
    case measure=>simp[intOf];omega
   have a5:((k:Int)==0)=false:=by simp;omega
   obtain⟨z,r,H⟩:∃ z r,ls.take k=z::r:=by
    cases av:ls.take k with
    | nil=>have I:=congrArg List.length av;rw[vO,vU]at I;have:=J.o;omega
    | cons z r=>exact⟨z,r,rfl⟩
   have D:Hid (Bu t (ls.take (k+1))=min (Bu t (ls.take k)) (x+y*t/1000)):=by show _=_;rw[E,H];exact Nc t r _ (x,y)
   have Y:=Kt t (ls.take k) ⟨by rw[H];simp,by rw[vO];omega,fun p h=>am.o p (yM h)⟩ al W;obtain⟨M,N⟩:=ex (Bu t (ls.take k));rw[N]at Y ⊢;have U:=qX N;clear N E h K H;obtain⟨aB,a0⟩:=Y;by_cases aE:x+y*t/1000<M
   ·
    go_wp2
    go_quiet (fail);go_wp2
    go_roundw
    case rel=>exact⟨k+1,by omega,by go_num,by rw[D.o,U.o,Int.min_eq_right (by omega)],_,rfl⟩
    case measure=>simp[intOf];omega
   go_wp2
   go_quiet (fail);go_wp2
   go_roundw
   case rel=>exact⟨k+1,by omega,by go_num,by rw[D.o,U.o,Int.min_eq_left (by omega)],_,rfl⟩
   case measure=>simp[intOf];omega
  go_wp2
  go_ret;refine⟨congrArg (fun z=>Ending.returned (.int .i64 z)) ?_,qL br _⟩;rw[vP (by rw[J.o];omega)]
theorem A8.four {w:World}{z:Nat->Addr}(h:A8 w z):I6 w z:=⟨h.c1,h.c2,h.c3,h.c4⟩
structure Ac where
 kind:ByteArray
 tick:Int
 size:Int
def di (w:World)(a:oA)(q:List Ac):Prop:=
 q=[]\/∃ b h,a=some ⟨b,h,none⟩/\b<w.heap.size/\∀(i:Nat) p,q[i]? = some p->w.cell? ⟨b,h+i*3,none⟩=some (.string p.kind)/\w.cell? ⟨b,h+i*3+1,none⟩=some (.int .i64 p.tick)/\w.cell? ⟨b,h+i*3+2,none⟩=some (.int .i64 p.size)
theorem di.below {w w':World}{a:oA}{q:List Ac}(H:di w a q)(h:zW w w'):di w' a q:=by
 rcases H with rfl|⟨b,z,rfl,I,D⟩
 · exact .inl rfl
 refine .inr ⟨b,z,rfl,qD I h.size,fun i p E=>?_⟩;have:=D i p E;exact⟨j7 h this.1,j7 h this.2.1,j7 h this.2.2⟩
theorem aA {ls:lI}{ps:List Pk}{j h:Nat}{q q':Pk}{s s':Sh}(O:ps[j]? = some q)(E:shape ls (ps.take j)=some s)(N:CR s q=none)(I:ps[h]? = some q')(H:shape ls (ps.take h)=some s')(U:CR s' q'=none):j=h:=by
 have key:∀(a b:Nat)(p:Pk)(u v:Sh),a<b->ps[a]? = some p->shape ls (ps.take a)=some u->CR u p=none->shape ls (ps.take b)=some v->False:=fun a b p u v Q V J K D=>by
  have:=OM (ls:=ls) (ps:=ps.take b) (j:=a) (p:=p) (s:=u) (by rw[yI Q];exact V) (by rw[List.take_take,Nat.min_eq_left (by omega)];exact J) K;rw[this]at D;cases D
 rcases yN j h with z|z|z
 · exact(key j h q s s' z O E N H).elim
 · exact z
 exact(key h j q' s' s z I H U E).elim
section
variable {cs:Nat → List (Int × Int)} {ps:List Pk}
theorem Bg.one (h:Al ps){i j:Nat}(Y:Bg cs ps i)(k:Bg cs ps j)(V:Ag ps i=Ag ps j):i=j:=by
 obtain⟨p,s,I,ac,U,W⟩:=Y;obtain⟨q,t,H,K,J,Q⟩:=k;have ab:=Af I;have O:=Af H;have z:=QD h ab lr;have D:=QD h O lr;rw[<- V]at K J D;have E:=Es h (Ag ps i) ps.length lr;have N:=(E.2 _ _ z).2.2.2;have Z:=(E.2 _ _ D).2.2.2;have e:=aA (N.trans I) U W (Z.trans H) J Q;rw[e,D]at z;exact(Option.some.inj z).symm
theorem SB (z:Al ps){f:Nat}(D:cs f≠[]){r i:Nat}{p:Pk}{s:Sh}(E:(AO ps f ps.length)[r]? = some i)(K:(Bi ps f ps.length)[r]? = some p)(H:shape (cs f) ((Bi ps f ps.length).take r)=some s)(J:CR s p=none):Bg cs ps i/\Ag ps i=f:=by
 obtain⟨O,h,I,N⟩:=(Es z f ps.length lr).2 r i E;exact⟨⟨p,s,N.symm.trans K,by rw[h];exact D,by rw[h,I];exact H,J⟩,h⟩
theorem LD (z:Al ps){f:Nat}{out:List Pk}(h:CY cs ps f=some out){j:Nat}(E:Ag ps j=f):¬Bg cs ps j:=by
 rintro⟨p,s,J,D,H,N⟩;rw[E]at D H;unfold CY at h;rw[if_neg D]at h;have K:=Af J;have I:=QD z K lr;rw[E]at I;have O:=((Es z f ps.length lr).2 _ _ I).2.2.2;rw[OM (O.trans J) H N]at h;cases h
def Bw (cs:Nat->lI)(ps:List Pk)(f:Nat)(h:Int)(a:Nat->Int):Prop:=
 (h = -1/\∀ g,g<f->∃ out,CY cs ps g=some out/\∀(r i:Nat),(AO ps g ps.length)[r]? = some i->a i=Ar out r) \/
  (∃ i:Nat,h=i/\Bg cs ps i/\Ag ps i<f/\∀ j,Bg cs ps j->Ag ps j<f->i<=j)
theorem KU (a:Nat->Int):Bw cs ps 0 (-1) a:=.inl ⟨rfl,fun _ h=>absurd h (vR _)⟩
theorem Bw.range {f:Nat}{z:Int}{a:Nat->Int}(h:Bw cs ps f z a):z = -1\/∃ i:Nat,z=i/\i<ps.length:=by
 rcases h with⟨h,-⟩|⟨i,h,⟨p,s,D,-⟩,-⟩
 · exact .inl h
 exact .inr ⟨i,h,Af D⟩
theorem Bw.shaped (O:Al ps){f:Nat}{J:Int}{a D:Nat->Int}{out:List Pk}(z:Bw cs ps f J a)(E:CY cs ps f=some out)(N:∀(r i:Nat),(AO ps f ps.length)[r]? = some i->D i=Ar out r)(Q:∀ i,i ∉ AO ps f ps.length->D i=a i):Bw cs ps (f+1) J D:=by
 rcases z with⟨rfl,z⟩|⟨i,rfl,K,Z,W⟩
 ·
  refine .inl ⟨rfl,fun g ab=>?_⟩;rcases qC g f with h|h
  ·
   obtain⟨o,Y,U⟩:=z g h;refine⟨o,Y,fun r i H=>?_⟩;rw[Q i ?_]
   · exact U r i H
   intro V;have ad:=Lx.1 (q9 H);have ai:=Lx.1 V;omega
  obtain rfl:g=f:=by omega
  exact⟨out,E,N⟩
 refine .inr ⟨i,rfl,K,by omega,fun j I ac=>?_⟩;rcases qC (Ag ps j) f with h|h
 · exact W j I h
 exact absurd I (LD O E (by omega))
theorem Bw.stuck (K:Al ps){f:Nat}{E:Int}{a Q:Nat->Int}{n:Nat}(J:Bw cs ps f E a)(H:Bg cs ps n)(Y:Ag ps n=f):Bw cs ps (f+1) (if E<0\/(n:Int)<E then(n:Int)else E) Q:=by
 have I:∀ j,Bg cs ps j->Ag ps j<f+1->Ag ps j<f\/j=n:=fun j z D=>by
  rcases qC (Ag ps j) f with h|h
  · exact .inl h
  exact .inr (z.one K H (by omega))
 rcases J with⟨rfl,J⟩|⟨i,rfl,U,W,N⟩
 ·
  rw[if_pos (.inl (by omega))];refine .inr ⟨n,rfl,H,by omega,fun j z D=>?_⟩;rcases I j z D with h|h
  · obtain⟨out,O,-⟩:=J _ h;exact absurd z (LD K O rfl)
  omega
 by_cases V:n<i
 ·
  rw[if_pos (.inr (by omega))];refine .inr ⟨n,rfl,H,by omega,fun j z D=>?_⟩;rcases I j z D with h|h
  · have:=N j z h;omega
  omega
 rw[if_neg (by omega)];refine .inr ⟨i,rfl,U,by omega,fun j z D=>?_⟩;rcases I j z D with h|h
 · exact N j z h
 omega
theorem Bw.all (H:Al ps){D:Int}{a:Nat->Int}(h:Bw cs ps 8 D a):(D = -1/\Shaped cs ps a/\∀ i,¬Bg cs ps i)\/(∃ i:Nat,D=i/\Bg cs ps i/\∀ j,j<i->¬Bg cs ps j):=by
 have fl:∀ j,Bg cs ps j->Ag ps j<8:=fun j ⟨p,s,K,_⟩=>IM H (Af K)
 rcases h with⟨rfl,h⟩|⟨i,rfl,z,N,I⟩
 · refine .inl ⟨rfl,h,fun i z=>?_⟩;obtain⟨out,J,-⟩:=h _ (fl i z);exact LD H J rfl z
 exact .inr ⟨i,rfl,z,fun j O E=>by have:=I j E (fl j E);omega⟩
end
theorem Wh (ps:List Pk)(a:Nat->Int)(L:List Nat)(k i:Nat){p:Pk}(h:ps[i]? = some p):(Aj ps a L).take k++[(⟨p.flow,p.size,a i⟩:Pk)]++(Aj ps a L).drop k=Aj ps a (L.take k++i::L.drop k):=by
 simp[Aj,Ep h,List.map_take,List.map_drop]
theorem bZ {a:Nat->Int}{n:Nat}{L:List Nat}(N:Be a n L){k m:Nat}(D:L[k]? = some m){t:Int}(J:a m<=t):∀(i:Nat) x,i<k+1->L[i]? = some x->a x<=t:=fun i x Q z=>by
 rcases qC i k with H|H
 · have E:=Af z;have I:=Af D;have h:=xC.1 N.sorted i k E I H;have O:L[i]=x:=Option.some.inj ((qE E).symm.trans z);have K:L[k]=m:=Option.some.inj ((qE I).symm.trans D);rw[O,K]at h;rcases h with h|⟨h,-⟩ <;> omega
 obtain rfl:i=k:=by omega
 rw[D]at z;obtain rfl:=Option.some.inj z;exact J
def Gm (S:lI->lI->Int->lI->Prop)(cs:List lI):Nat->lI->Prop
 | 0,_=>False
 | 1,L=>L=Ae cs 0
 | k+2,L=>∃ M,Gm S cs (k+1) M/\Ae cs (k+1)≠[]/\S M (Ae cs (k+1)) 0 L
theorem Mx {S:lI->lI->Int->lI->Prop}{cs:List lI}{k:Nat}{M L:lI}(h:Gm S cs k M)(D:Ae cs k≠[])(z:S M (Ae cs k) 0 L):Gm S cs (k+1) L:=by
 cases k with
 | zero=>exact h.elim
 | succ k=>exact⟨M,h,D,z⟩
def EH (S:lI->lI->Int->lI->Prop)(cs:List lI)(L:lI):Prop:=Ae cs 0≠[]/\∃ k,1<=k/\k<=8/\Gm S cs k L/\(k=8\/Ae cs k=[])
def Iz (S:lI->lI->Int->lI->Prop)(cs:List lI):Prop:=Ae cs 0=[]\/(Ae cs 0≠[]/\∃ k M h L,1<=k/\k<8/\Gm S cs k M/\Ae cs k≠[]/\S M (Ae cs k) h L/\h≠0)
structure Jf (S:lI->lI->Int->lI->Prop):Prop where
 ok:∀ la lb L,Ak la->Ak lb->S la lb 0 L->Ak L
 num:∀ la lb c L,S la lb c L->0<=c/\c<=9
 one:∀ la lb c L c' L',Ak la->Ak lb->S la lb c L->S la lb c' L'->c=c'/\L=L'
theorem IQ {S:lI->lI->Int->lI->Prop}(D:Jf S){cs:List lI}(z:Dm (Ae cs))(E:Ae cs 0≠[]):∀ k L,k<=8->Gm S cs k L->Ak L
 | 0,L,_,h=>h.elim
 | 1,L,_,h=>by
  have h:L=Ae cs 0:=h;rcases z 0 (by decide)with e|e
  · exact absurd e E
  rw[h];exact e
 | k+2,L,K,⟨M,J,H,I⟩=>by
  rcases z (k+1) (by omega)with e|e
  · exact absurd e H
  exact D.ok M _ L (IQ D z E (k+1) M (by omega) J) e I
theorem NG {S:lI->lI->Int->lI->Prop}(D:Jf S){cs:List lI}(E:Dm (Ae cs))(I:Ae cs 0≠[]):∀ k L h,k<=8->Gm S cs k L->Gm S cs k h->L=h
 | 0,L,h,_,z,_=>z.elim
 | 1,L,h,_,z,H=>by
  have z:L=Ae cs 0:=z;have H:h=Ae cs 0:=H;rw[z,H]
 | k+2,L,h,V,⟨M,J,N,Q⟩,⟨K,U,W,O⟩=>by
  obtain rfl:=NG D E I (k+1) M K (by omega) J U;rcases E (k+1) (by omega)with e|e
  · exact absurd e N
  exact(D.one M _ 0 L 0 h (IQ D E I (k+1) M (by omega) J) e Q O).2
theorem Kq {S:lI->lI->Int->lI->Prop}{cs:List lI}:∀ k L,Gm S cs k L->∀ j,1<=j->j<k->Ae cs j≠[]
 | 0,L,D,_,_,_=>D.elim
 | 1,L,_,j,z,h=>by omega
 | k+2,L,⟨M,z,h,I⟩,j,E,H=>by
  by_cases e:j=k+1
  · rw[e];exact h
  exact Kq (k+1) M z j E (by omega)
theorem Qm {S:lI->lI->Int->lI->Prop}{cs:List lI}:∀ k L,Gm S cs k L->∀ j,1<=j->j<=k->∃ M,Gm S cs j M
 | 0,L,h,_,_,_=>h.elim
 | 1,L,h,j,z,E=>by
  obtain rfl:j=1:=by omega
  exact⟨L,h⟩
 | k+2,L,h,j,D,H=>by
  by_cases e:j=k+2
  · subst e;exact⟨L,h⟩
  obtain⟨M,z,-,-⟩:=h;exact Qm (k+1) M z j D (by omega)
theorem YK {S:lI->lI->Int->lI->Prop}{cs:List lI}{k:Nat}{L:lI}(h:Gm S cs (k+1) L)(E:1<=k):∃ M,Gm S cs k M/\S M (Ae cs k) 0 L:=by
 cases k with
 | zero=>omega
 | succ k=>
  obtain⟨M,D,-,z⟩:=h;exact⟨M,D,z⟩
theorem EH.one {S:lI->lI->Int->lI->Prop}(H:Jf S){cs:List lI}(I:Dm (Ae cs)){L z:lI}(h:EH S cs L)(U:EH S cs z):L=z:=by
 obtain⟨J,k,N,V,D,O⟩:=h;obtain⟨-,j,K,W,E,Q⟩:=U;have e:k=j:=by
  rcases yN k j with h|h|h
  ·
   rcases O with e|e
   · omega
   exact absurd e (Kq j z E k N h)
  · exact h
  rcases Q with e|e
  · omega
  exact absurd e (Kq k L D j K h)
 subst e;exact NG H I J k L z V D E
theorem EH.no {S:lI->lI->Int->lI->Prop}(H:Jf S){cs:List lI}(z:Dm (Ae cs)){L:lI}(h:EH S cs L):¬Iz S cs:=by
 obtain⟨D,k,ac,al,U,I⟩:=h;rintro(h|⟨-,j,M,Z,K,ab,ad,E,J,N,O⟩)
 · exact D h
 have aj:j<k:=by
  rcases yN k j with h|h|h
  ·
   rcases I with e|e
   · omega
   exact absurd e (Kq j M E k ac h)
  ·
   subst h;rcases I with e|e
   · omega
   exact absurd e J
  exact h
 obtain⟨ai,Y⟩:=Qm k L U (j+1) (by omega) (by omega);obtain⟨Q,W,V⟩:=YK Y ab;obtain rfl:=NG H z D j M Q (by omega) E W;rcases z j ad with e|e
 · exact J e
 exact O (H.one M _ Z K 0 ai (IQ H z D j M (by omega) E) e N V).1
def AllEnd (S:lI->lI->Int->lI->Prop)(cs:List lI)(w:World)(e:Ending)(w':World):Prop:=
 zW w w'/\((Iz S cs/\e=.returned (.tuple #[.slice none 0 0,.bool false]))\/∃ a cap L,EH S cs L/\Ak L/\e=.returned (.tuple #[.slice a L.length cap,.bool true])/\AQ w' a L/\L.length<=cap/\cap<=maxLen)
end Go.Proofs.YtejlihcdfffafaaGreatDoor
