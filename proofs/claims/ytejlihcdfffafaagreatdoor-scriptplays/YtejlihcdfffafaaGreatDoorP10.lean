import Derived.Test.YtejlihcdfffafaaGreatDoorP08
set_option maxHeartbeats 8000000
set_option maxRecDepth 100000
namespace Go.Proofs.YtejlihcdfffafaaGreatDoor
open Go.RowKit
theorem Mq (a:oA)(n cap:Nat)(h D:Int)(w:World)(H:n≠8):Calls Tryz.prog 35 #[.slice a n cap,.int .i64 h,.int .i64 D] w fun e w'=>e=.returned (.int .i64 3)/\w'=w:=by
 have z:(n:Int)≠8:=by omega
 have E:((n:Int)==8)=false:=by simpa using z
 go_in
 go_wp2
 go_ret;exact⟨rfl,rfl⟩
theorem KJ (a:oA)(cap:Nat)(ns:List Int)(z D:Int)(w:World)(H:AR w a ns)(J:ns.length=8)(j:Nat)(ac:j<=8)(K:∀(i:Nat) y,i<j->ns[i]? = some y->z<=y/\y<=D)(R:Int)
  (I:(j=8/\R=0)\/(R=2/\∃ x,ns[j]? = some x/\¬(z<=x/\x<=D))) :
  Calls Tryz.prog 35 #[.slice a 8 cap,.int .i64 z,.int .i64 D] w fun e w'=>e=.returned (.int .i64 R)/\w'=w:=by
 have V:=qX K;have Y:=qX I;obtain⟨b,ad,rfl,-,O⟩:=H.place (by omega);have Q:=qX O;have N:=qX J;clear K I H O J;go_in
 go_wp2_with fail;go_loopw [7] (fun i wr=>∃ k:Nat,k<=j/\i=.int .i64 k/\wr=w) (fun i _=>8-(intOf i).toNat)
 case atStart=>exact⟨0,qR _,rfl,rfl⟩
 case round=>
  obtain⟨k,ai,rfl,rfl⟩:=hrel;by_cases W:k<j
  ·
   obtain⟨x,h,-⟩:=Ab ns k (by rw[N.o];omega);obtain⟨ap,am⟩:=V.o k x W h;have U:=Q.o k x h;have Z:¬x<z:=by omega
   have an:¬D<x:=by omega
   clear h;go_wp2
   go_roundw
   case rel=>exact⟨k+1,by omega,by go_num,trivial⟩
   case measure=>simp[intOf];omega
  obtain rfl:k=j:=by omega
  rcases Y.o with⟨rfl,rfl⟩|⟨rfl,x,h,ao⟩
  ·
   go_wp2
   go_ret;exact⟨rfl,rfl⟩
  have U:=Q.o k x h;have al:k<8:=by
   rw[<- N.o];rcases qC k ns.length with E|E
   · exact E
   simp[qH E]at h
  clear h;by_cases ab:x<z
  ·
   go_wp2
   go_ret;exact⟨rfl,rfl⟩
  have aj:D<x:=by omega
  go_wp2
  go_ret;exact⟨rfl,rfl⟩
theorem Fs (a:oA)(cap:Nat)(ns:List Int)(z D:Int)(w:World)(I:AR w a ns)(c:Nat)(Q:Bt z D ns c):Calls Tryz.prog 35 #[.slice a ns.length cap,.int .i64 z,.int .i64 D] w fun e w'=>e=.returned (.int .i64 c)/\w'=w:=by
 rcases Q with⟨rfl,h⟩|⟨rfl,j,h,E,K⟩|⟨rfl,h,J⟩
 · exact Mq a _ cap z D w h
 ·
  rw[h];have N:j<=8:=by
   obtain⟨x,E,-⟩:=E;rw[<- h];rcases qC j ns.length with H|H
   · exact x9 H
   simp[qH H]at E
  exact KJ a cap ns z D w I h j N K 2 (.inr ⟨rfl,E⟩)
 rw[h];exact KJ a cap ns z D w I h 8 lr (fun i y _ O=>J i y O) 0 (.inl ⟨rfl,rfl⟩)
theorem KE (a:oA)(cap:Nat)(ns:List Int)(w:World)(E:AR w a ns)(z:DF 1 12 ns)(j:Nat)(an:j<=8)(O:∀(i:Nat) y,i<j->ns[i]? = some y->KT y)(R:Int)
  (N:(j=8/\R=0)\/(R=2/\∃ x,ns[j]? = some x/\¬KT x)) :
  Calls Tryz.prog 36 #[.slice a 8 cap] w fun e w'=>e=.returned (.int .i64 R)/\w'=w:=by
 have ab:Hid (Calls Tryz.prog 35 #[.slice a 8 cap,.int .i64 1,.int .i64 12] w fun e w'=>e=.returned (.int .i64 0)/\w'=w):=by
  have:=Fs a cap ns 1 12 w E 0 (.inr (.inr ⟨rfl,z⟩));rwa[z.len]at this
 have Z:=qX O;have al:=qX N;have D:=qY z.len z.each;obtain⟨b,ap,rfl,-,Q⟩:=E.place (by rw[z.len];omega);have U:=qX Q;clear O N E Q z;go_in
 go_wp2_with fail;refine ab.o.mono ?_
 rintro e ad ⟨rfl,rfl⟩;go_wp2_with fail;go_loopg [3,4] 9 (fun ai V i wr=>wr=ad/\∃ k:Nat,k<=8/\i=.int .i64 k/\ai=9-k/\((k<=j/\V=.int .i64 0)\/(k=j+1/\R=2/\V=.int .i64 2)))
 case atStart=>exact⟨rfl,0,by omega,rfl,rfl,.inl ⟨qR _,rfl⟩⟩
 case round=>
  obtain⟨rfl,k,aq,rfl,rfl,⟨ac,rfl⟩|⟨ac,rfl,rfl⟩⟩:=hrel
  ·
   by_cases am:k<j
   ·
    obtain⟨x,h,-⟩:=Ab ns k (by rw[D.o.1];omega);have H:=Z.o k x am h;have I:=D.o.2 k x h;have W:=U.o k x h;have aj:(12%x==0)=true:=by simpa using H.2
    have Y:=H.2;clear h H;go_wp2
    go_roundg (9-(k+1))
    case rel=>exact⟨rfl,k+1,by omega,by go_num,rfl,.inl ⟨by omega,rfl⟩⟩
    case measure=>omega
   obtain rfl:k=j:=by omega
   rcases al.o with⟨rfl,rfl⟩|⟨rfl,x,h,K⟩
   ·
    go_wp2
    go_ret;exact⟨rfl,rfl⟩
   have W:=U.o k x h;have I:=D.o.2 k x h;have ar:k<8:=by have:=Af h;rw[D.o.1]at this;exact this
   have aj:(12%x==0)=false:=by simpa using fun J=>K ⟨I.1,J⟩
   have Y:¬12%x=0:=fun J=>K ⟨I.1,J⟩
   clear h K;go_wp2
   go_roundg (9-(k+1))
   case rel=>exact⟨rfl,k+1,by omega,by go_num,rfl,.inr ⟨rfl,trivial,rfl⟩⟩
   case measure=>omega
  by_cases ao:k<8
  ·
   go_wp2
   go_ret;exact⟨rfl,rfl⟩
  go_wp2
  go_ret;exact⟨rfl,rfl⟩
theorem JP (a:oA)(n cap:Nat)(c:Int)(w:World)(H:n<=1000)(J:0<c)(h:Calls Tryz.prog 35 #[.slice a n cap,.int .i64 1,.int .i64 12] w fun e w'=>e=.returned (.int .i64 c)/\w'=w):Calls Tryz.prog 36 #[.slice a n cap] w fun e w'=>e=.returned (.int .i64 c)/\w'=w:=by
 have z:=qX h;have N:(c==0)=false:=by simpa using (show c≠0 by omega)
 have I:¬c=0:=by omega
 clear h;go_in
 go_wp2_with fail;refine z.o.mono ?_
 rintro e D ⟨rfl,rfl⟩;go_wp2_with fail;go_loopg [3,4] 0 (fun _ E i wr=>wr=D/\i=.int .i64 0/\E=.int .i64 c)
 case atStart=>exact⟨rfl,rfl,rfl⟩
 case round=>
  obtain⟨rfl,rfl,rfl⟩:=hrel;by_cases K:0<n
  ·
   go_wp2
   go_ret;exact⟨rfl,rfl⟩
  obtain rfl:n=0:=by omega
  go_wp2
  go_ret;exact⟨rfl,rfl⟩
theorem OY (a:oA)(cap:Nat)(ns:List Int)(w:World)(H:ns.length<=1000)(z:AR w a ns)(c:Nat)(h:Ee ns c):Calls Tryz.prog 36 #[.slice a ns.length cap] w fun e w'=>e=.returned (.int .i64 c)/\w'=w:=by
 rcases h with⟨rfl,D⟩|⟨rfl,j,D,⟨x,I,J⟩,O⟩|⟨rfl,E⟩
 · exact JP a _ cap 3 w H (by decide) (Fs a cap ns 1 12 w z 3 (.inl ⟨rfl,D⟩))
 ·
  obtain⟨c,K⟩:=CW 1 12 ns;rcases K with⟨rfl,h⟩|⟨rfl,h⟩|⟨rfl,h⟩
  · exact absurd D h
  · exact JP a _ cap 2 w H (by decide) (Fs a cap ns 1 12 w z 2 (.inr (.inl ⟨rfl,h⟩)))
  rw[D];exact KE a cap ns w z h j (by have:=Af I;omega) O 2 (.inr ⟨rfl,x,I,J⟩)
 rw[E.len];exact KE a cap ns w z E.nums 8 lr (fun i y _ N=>E.each i y N) 0 (.inl ⟨rfl,rfl⟩)
structure At2 (W:World)(g:Nat)(x y:Value):Prop where
 c0:W.cell? ⟨g,0,none⟩=some x
 c1:W.cell? ⟨g,1,none⟩=some y
 f0:W.frozen? ⟨g,0,none⟩=false
 f1:W.frozen? ⟨g,1,none⟩=false
section
variable {W W':World} {g h:Nat} {x y:Value}
theorem JQ (w:World)(x y:Value)(t:TypeId):At2 (w.alloc (.cells #[x,y] t)) w.heap.size x y:=⟨by simp,by simp,by simp,by simp⟩
theorem At2.later (k:At2 W g x y)(h:zW W W'):At2 W' g x y:=
 have l:=Cg k.c0
 ⟨j7 h k.c0,j7 h k.c1,by rw[h.frozen (p:=⟨g,0,none⟩) l];exact k.f0,by rw[h.frozen (p:=⟨g,1,none⟩) l];exact k.f1⟩
theorem At2.set (k:At2 W g x y)(u v:Value):At2 ((W.setCell ⟨g,0,none⟩ u).setCell ⟨g,1,none⟩ v) g u v:=by
 have z:(W.setCell ⟨g,0,none⟩ u).cell? ⟨g,0,none⟩=some u:=qT _ _ _ (by rw[k.c0];rfl);have h:(W.setCell ⟨g,0,none⟩ u).cell? ⟨g,1,none⟩=some y:=by
  rw[j9 _ _ _ _ (by intro e;cases e)];exact k.c1
 refine⟨?_,qT _ _ _ (by rw[h];rfl),?_,?_⟩
 · rw[j9 _ _ _ _ (by intro e;cases e)];exact z
 · rw[qK,qK];exact k.f0
 rw[qK,qK];exact k.f1
theorem At2.other (k:At2 W g x y)(D:h≠g)(u v:Value):At2 ((W.setCell ⟨h,0,none⟩ u).setCell ⟨h,1,none⟩ v) g x y:=by
 refine⟨?_,?_,?_,?_⟩
 · rw[j9 _ _ _ _ (by intro e;injection e with z;exact D z),j9 _ _ _ _ (by intro e;injection e with z;exact D z)];exact k.c0
 · rw[j9 _ _ _ _ (by intro e;injection e with z;exact D z),j9 _ _ _ _ (by intro e;injection e with z;exact D z)];exact k.c1
 · rw[qK,qK];exact k.f0
 rw[qK,qK];exact k.f1
end
def OH (c p:Int)(w:World)(e:Ending)(w':World):Prop:=e=.returned (.agg #[.int .i64 c,.int .i64 p])/\zW w w'
theorem Fv (aS:oA)(a4:Nat)(cs:List lI)(kb:ByteArray)(per:Int)(am:oA)(ao:Nat)(ns:List Int)(w:World)(c p:Int)(b6:Hf w aS cs)(cm:cs.length<=1000)(b0:AR w am ns)(ci:ns.length<=1000)(I:Ea cs (kindOf kb.toList) per ns c p):Calls Tryz.prog 24 #[.agg #[.slice aS cs.length a4,.string kb,.int .i64 per,.slice am ns.length ao]] w fun e w'=>OH c p w e w':=by
 have an:Hid (∀ ab bl a5 d,zW w ab->Bt bl a5 ns d->Calls Tryz.prog 35 #[.slice am ns.length ao,.int .i64 bl,.int .i64 a5] ab fun e w'=>e=.returned (.int .i64 d)/\w'=ab):=fun ab bl a5 d aE H=>Fs am ao ns bl a5 ab (b0.below aE) d H
 have bd:Hid (∀ ab d,zW w ab->Ee ns d->Calls Tryz.prog 36 #[.slice am ns.length ao] ab fun e w'=>e=.returned (.int .i64 d)/\w'=ab):=fun ab d aE H=>OY am ao ns ab (by omega) (b0.below aE) d H
 have cn:=qX b6;have bk:=qX I;have cf:=JK kb;obtain⟨k,bx⟩:=ex (kindOf kb.toList);have cx:k<=5:=by rw[<- bx];exact Ew _
 rw[bx]at bk cf;obtain⟨m,bs⟩:=ex cs.length;obtain⟨r,bm⟩:=ex ns.length;have aN:=qY bs bm;rw[bs]at cm;rw[bm]at ci an bd;rw[bs,bm];clear b6 b0 I bx bs bm;have bb:zW w ((w.alloc (.cells #[.slice aS m a4,.string kb,.int .i64 per,.slice am r ao] 41)).alloc (.cells #[.int .i64 0,.int .i64 0] 52)):=ba.alloc (by simp) _;have hs1:(w.alloc (.cells #[.slice aS m a4,.string kb,.int .i64 per,.slice am r ao] 41)).heap.size=w.heap.size+1:=by simp
 have bc:CS ((w.alloc (.cells #[.slice aS m a4,.string kb,.int .i64 per,.slice am r ao] 41)).alloc (.cells #[.int .i64 0,.int .i64 0] 52)) w.heap.size (.slice aS m a4) kb per (.slice am r ao):=(Dk w (.slice aS m a4) kb per (.slice am r ao) 41).later ba;have bp:At2 ((w.alloc (.cells #[.slice aS m a4,.string kb,.int .i64 per,.slice am r ao] 41)).alloc (.cells #[.int .i64 0,.int .i64 0] 52)) (w.heap.size+1) (.int .i64 0) (.int .i64 0):=by
  have:=JQ (w.alloc (.cells #[.slice aS m a4,.string kb,.int .i64 per,.slice am r ao] 41)) (.int .i64 0) (.int .i64 0) 52;rwa[hs1]at this
 obtain⟨ce,co⟩:=ex ((w.alloc (.cells #[.slice aS m a4,.string kb,.int .i64 per,.slice am r ao] 41)).alloc (.cells #[.int .i64 0,.int .i64 0] 52));rw[co]at bb bc bp;have Q:=qZ bb bc bp;have W:Hid (∀ ab ai ar,zW ce ab->ai=c->ar=p->OH c p w (.returned (.agg #[.int .i64 ai,.int .i64 ar])) ((ab.setCell ⟨w.heap.size+1,0,none⟩ (.int .i64 ai)).setCell ⟨w.heap.size+1,1,none⟩ (.int .i64 ar))):=fun ab ai ar cj a7 bg=>by
  have aE:=bb.tr cj;rw[a7,bg];exact⟨rfl,(aE.setCell (p:=⟨w.heap.size+1,0,none⟩) (yU _) _).setCell (p:=⟨w.heap.size+1,1,none⟩) (yU _) _⟩
 have cD:=bc.c0;by_cases b1:m=8
 ·
  subst b1;clear bb bc bp hs1;go_in
  go_wp2_with fail;go_loopw [3] (fun i wr=>∃ j:Nat,j<=8/\i=.int .i64 j/\Cj cs j/\zW ce wr) (fun i _=>8-(intOf i).toNat)
  case atStart=>exact⟨0,qR _,rfl,fun i ls a5=>absurd a5 (vR _),br⟩
  case round=>
   obtain⟨j,cv,rfl,a6,aE⟩:=hrel;have O:=qY a6 aE;have cA:=j7 aE Q.o.2.1.c0;clear a6 aE;by_cases b9:j<8
   ·
    obtain⟨ls,b3,-⟩:=Ab cs j (by rw[aN.o.1];exact b9);obtain⟨b,cw,rfl,-,b7⟩:=cn.o.place (by rw[aN.o.1];omega);obtain⟨cc,cap,cb,b',bT,bv,-⟩:=b7 j ls b3;have ac:=qX (Q.o.1.tr O.o.2);have cl:=j7 ac.o cb;have cd:Hid (∀ ab ai ar,zW w ab->Ch ls ai ar->qW 23 #[.slice cc ls.length cap] ab (.agg #[.int .i64 ai,.int .i64 ar])):=fun ab ai ar aE be=>LV cc cap ls ab (b'.below aE) bT bv ai ar be
    have a':=qX b3;have cp:ls.length<=9223372036854775807:=qI bT (qI bv (by unfold maxLen;omega));obtain⟨q,bw⟩:=ex ls.length;have bj:=qX bw;rw[bw]at cl cd cp;clear b7 cb b' bT bv b3 bw;by_cases b5:q=0
    ·
     subst b5;have b2:Hid (Cj cs (j+1)):=fun i l a5 a8=>by
      rcases qC i j with I|I
      · exact O.o.1 i l I a8
      obtain rfl:i=j:=by omega
      obtain rfl:=Option.some.inj (a'.o.symm.trans a8);exact .inl (qN.1 bj.o)
     go_wp2
     go_roundw
     case rel=>exact⟨j+1,by omega,by go_num,b2.o,O.o.2⟩
     case measure=>simp[intOf];omega
    obtain⟨ai,ar,be⟩:=KS ls;have ca:=be.num;have bh:=qX be;clear be;go_wp2_with fail;refine(cd.o _ ai ar ac.o bh.o).mono ?_
    rintro e ad ⟨rfl,bt⟩;have z:zW wr (ad.alloc (.cells #[.int .i64 ai,.int .i64 ar] 52)):=bt.alloc bt.size _;have h:=qX (O.o.2.tr z);obtain⟨K,J,Y,V⟩:=Q.o.2.2.later h.o;clear bt z;by_cases cg:ai=0
    ·
     subst cg;have b2:Hid (Cj cs (j+1)):=fun i l a5 a8=>by
      rcases qC i j with I|I
      · exact O.o.1 i l I a8
      obtain rfl:i=j:=by omega
      obtain rfl:=Option.some.inj (a'.o.symm.trans a8);exact .inr bh.o.ok.1
     clear K J Y V ca;go_wp2
     go_roundw
     case rel=>exact⟨j+1,by omega,by go_num,b2.o,h.o⟩
     case measure=>simp[intOf];omega
    have cC:0<ai:=by omega
    have E:Hid (ai=c/\(j:Int)=p):=by
     rcases bk.o with⟨I,-⟩|⟨-,i,⟨b4,ch,a7,bg,bq,ck⟩,rfl,a6⟩|⟨-,a6,-⟩
     · exact absurd aN.o.1 I
     ·
      obtain rfl:i=j:=by
       rcases yN i j with I|I|I
       ·
        rcases O.o.1 i b4 I a7 with al|al
        · exact absurd al bg
        have:=bq.unique (.inr (.inr ⟨al,rfl,rfl⟩));omega
       · exact I
       rcases a6 j ls I a'.o with al|al
       · rw[al]at bj;exact absurd bj.o.symm b5
       have:=bh.o.unique (.inr (.inr ⟨al,rfl,rfl⟩));omega
      obtain rfl:=Option.some.inj (a'.o.symm.trans a7);exact⟨bh.o.unique bq,rfl⟩
     rcases a6 j ls b9 a'.o with al|al
     · rw[al]at bj;exact absurd bj.o.symm b5
     have:=bh.o.unique (.inr (.inr ⟨al,rfl,rfl⟩));omega
    clear ca cg;go_wp2_with fail;exact vB (v:=.agg #[.int .i64 ai,.int .i64 j]) (by simp[results,Tryz.results24,go_sem,K,J]) rfl (W.o _ ai j h.o E.o.1 E.o.2)
   obtain rfl:j=8:=by omega
   have aj:Hid (p = -1/\((k=0/\c=9)\/(1<=k/\k<=5/\((¬(1<=per/\per<=1000)/\c=2)\/(1<=per/\per<=1000/\∃ d:Nat,DL k ns d/\c=d))))):=by
    rcases bk.o with⟨I,-⟩|⟨-,i,⟨b4,ch,a7,bg,bq,ck⟩,rfl,a6⟩|⟨-,-,N,D⟩
    · exact absurd aN.o.1 I
    ·
     rcases O.o.1 i b4 (by have:=Af a7;have:=aN.o.1;omega) a7 with al|al
     · exact absurd al bg
     have:=bq.unique (.inr (.inr ⟨al,rfl,rfl⟩));omega
    exact⟨N,D⟩
   have cu:=j7 O.o.2 Q.o.2.1.c1;have cy:=j7 O.o.2 Q.o.2.1.c2;have cq:=j7 O.o.2 Q.o.2.1.c3;have ac:=qX (Q.o.1.tr O.o.2);obtain⟨ap,aB,av,aq,aw,u1,u2,u3,u4,u5⟩:=cf;rcases(show k=0\/k=1\/k=2\/k=3\/k=4\/k=5 by omega)with rfl|rfl|rfl|rfl|rfl|rfl
   ·
    have E:Hid (9=c /\ -1=p):=by
     rcases aj.o with⟨N,⟨-,D⟩|⟨D,-⟩⟩
     · exact⟨D.symm,N.symm⟩
     omega
    replace ap:(kb.toList==[102,105,102,111])=false:=ap;replace u1:(kb.toList==ByteArray.toList ⟨#[102,105,102,111]⟩)=false:=u1;replace aB:(kb.toList==[114,97,110,107])=false:=aB;replace u2:(kb.toList==ByteArray.toList ⟨#[114,97,110,107]⟩)=false:=u2;replace av:(kb.toList==[100,117,101])=false:=av;replace u3:(kb.toList==ByteArray.toList ⟨#[100,117,101]⟩)=false:=u3;replace aq:(kb.toList==[114,111,117,110,100])=false:=aq;replace u4:(kb.toList==ByteArray.toList ⟨#[114,111,117,110,100]⟩)=false:=u4;replace aw:(kb.toList==[102,97,105,114])=false:=aw;replace u5:(kb.toList==ByteArray.toList ⟨#[102,97,105,114]⟩)=false:=u5;by_cases a0:1<=per
    ·
     go_wp2_with fail;refine(Ce 9 _).mono ?_
     rintro e Z ⟨rfl,z⟩;have h:=qX (O.o.2.tr z);obtain⟨K,J,Y,V⟩:=Q.o.2.2.later h.o;clear z;go_wp2_with fail;exact vB (v:=.agg #[.int .i64 9,.int .i64 (-1)]) (by simp[results,Tryz.results24,go_sem,K,J]) rfl (W.o _ 9 (-1) h.o E.o.1 E.o.2)
    go_wp2_with fail;refine(Ce 9 _).mono ?_
    rintro e Z ⟨rfl,z⟩;have h:=qX (O.o.2.tr z);obtain⟨K,J,Y,V⟩:=Q.o.2.2.later h.o;clear z;go_wp2_with fail;exact vB (v:=.agg #[.int .i64 9,.int .i64 (-1)]) (by simp[results,Tryz.results24,go_sem,K,J]) rfl (W.o _ 9 (-1) h.o E.o.1 E.o.2)
   ·
    replace ap:(kb.toList==[102,105,102,111])=true:=ap;replace u1:(kb.toList==ByteArray.toList ⟨#[102,105,102,111]⟩)=true:=u1;replace aB:(kb.toList==[114,97,110,107])=false:=aB;replace u2:(kb.toList==ByteArray.toList ⟨#[114,97,110,107]⟩)=false:=u2;replace av:(kb.toList==[100,117,101])=false:=av;replace u3:(kb.toList==ByteArray.toList ⟨#[100,117,101]⟩)=false:=u3;replace aq:(kb.toList==[114,111,117,110,100])=false:=aq;replace u4:(kb.toList==ByteArray.toList ⟨#[114,111,117,110,100]⟩)=false:=u4;replace aw:(kb.toList==[102,97,105,114])=false:=aw;replace u5:(kb.toList==ByteArray.toList ⟨#[102,97,105,114]⟩)=false:=u5;by_cases a0:1<=per
    ·
     by_cases a3:per<=1000
     ·
      have E:Hid (p = -1/\((c=3/\ns≠[])\/(c=0/\ns=[]))):=by
       rcases aj.o with⟨N,⟨D,-⟩|⟨-,-,⟨D,-⟩|⟨-,-,d,H,D⟩⟩⟩
       · omega
       · exact absurd ⟨a0,a3⟩ D
       rcases H with⟨-,⟨rfl,I⟩|⟨rfl,I⟩⟩|⟨I,-⟩|⟨I,-⟩|⟨I,-⟩|⟨I,-⟩
       · exact⟨N,.inl ⟨D,I⟩⟩
       · exact⟨N,.inr ⟨D,I⟩⟩
       all_goals omega
      by_cases b8:0<r
      ·
       have a9:Hid (3=c /\ -1=p):=by
        rcases E.o with⟨N,⟨D,-⟩|⟨-,D⟩⟩
        · exact⟨D.symm,N.symm⟩
        rw[D]at aN;have:=aN.o.2;simp at this
        omega
       go_wp2_with fail;refine(Ce 3 _).mono ?_
       rintro e Z ⟨rfl,z⟩;have h:=qX (O.o.2.tr z);obtain⟨K,J,Y,V⟩:=Q.o.2.2.later h.o;clear z;go_wp2_with fail;exact vB (v:=.agg #[.int .i64 3,.int .i64 (-1)]) (by simp[results,Tryz.results24,go_sem,K,J]) rfl (W.o _ 3 (-1) h.o a9.o.1 a9.o.2)
      have a9:Hid (0=c /\ -1=p):=by
       rcases E.o with⟨N,⟨-,D⟩|⟨D,-⟩⟩
       · exact absurd (qN.1 (by have:=aN.o.2;omega)) D
       exact⟨D.symm,N.symm⟩
      obtain rfl:r=0:=by omega
      go_wp2_with fail;refine(IB _).mono ?_
      rintro e Z ⟨rfl,z⟩;have h:=qX (O.o.2.tr z);obtain⟨K,J,Y,V⟩:=Q.o.2.2.later h.o;clear z;go_wp2_with fail;exact vB (v:=.agg #[.int .i64 0,.int .i64 (-1)]) (by simp[results,Tryz.results24,go_sem,K,J]) rfl (W.o _ 0 (-1) h.o a9.o.1 a9.o.2)
     have E:Hid (2=c /\ -1=p):=by
      rcases aj.o with⟨N,⟨D,-⟩|⟨-,-,⟨-,D⟩|⟨a1,a2,-⟩⟩⟩
      · omega
      · exact⟨D.symm,N.symm⟩
      omega
     by_cases b8:0<r
     ·
      go_wp2_with fail;refine(Ce 2 _).mono ?_
      rintro e Z ⟨rfl,z⟩;have h:=qX (O.o.2.tr z);obtain⟨K,J,Y,V⟩:=Q.o.2.2.later h.o;clear z;go_wp2_with fail;exact vB (v:=.agg #[.int .i64 2,.int .i64 (-1)]) (by simp[results,Tryz.results24,go_sem,K,J]) rfl (W.o _ 2 (-1) h.o E.o.1 E.o.2)
     obtain rfl:r=0:=by omega
     go_wp2_with fail;refine(Ce 2 _).mono ?_
     rintro e Z ⟨rfl,z⟩;have h:=qX (O.o.2.tr z);obtain⟨K,J,Y,V⟩:=Q.o.2.2.later h.o;clear z;go_wp2_with fail;exact vB (v:=.agg #[.int .i64 2,.int .i64 (-1)]) (by simp[results,Tryz.results24,go_sem,K,J]) rfl (W.o _ 2 (-1) h.o E.o.1 E.o.2)
    have E:Hid (2=c /\ -1=p):=by
     rcases aj.o with⟨N,⟨D,-⟩|⟨-,-,⟨-,D⟩|⟨a1,a2,-⟩⟩⟩
     · omega
     · exact⟨D.symm,N.symm⟩
     omega
    by_cases b8:0<r
    ·
     go_wp2_with fail;refine(Ce 2 _).mono ?_
     rintro e Z ⟨rfl,z⟩;have h:=qX (O.o.2.tr z);obtain⟨K,J,Y,V⟩:=Q.o.2.2.later h.o;clear z;go_wp2_with fail;exact vB (v:=.agg #[.int .i64 2,.int .i64 (-1)]) (by simp[results,Tryz.results24,go_sem,K,J]) rfl (W.o _ 2 (-1) h.o E.o.1 E.o.2)
    obtain rfl:r=0:=by omega
    go_wp2_with fail;refine(Ce 2 _).mono ?_
    rintro e Z ⟨rfl,z⟩;have h:=qX (O.o.2.tr z);obtain⟨K,J,Y,V⟩:=Q.o.2.2.later h.o;clear z;go_wp2_with fail;exact vB (v:=.agg #[.int .i64 2,.int .i64 (-1)]) (by simp[results,Tryz.results24,go_sem,K,J]) rfl (W.o _ 2 (-1) h.o E.o.1 E.o.2)
   ·
    replace ap:(kb.toList==[102,105,102,111])=false:=ap;replace u1:(kb.toList==ByteArray.toList ⟨#[102,105,102,111]⟩)=false:=u1;replace aB:(kb.toList==[114,97,110,107])=true:=aB;replace u2:(kb.toList==ByteArray.toList ⟨#[114,97,110,107]⟩)=true:=u2;replace av:(kb.toList==[100,117,101])=false:=av;replace u3:(kb.toList==ByteArray.toList ⟨#[100,117,101]⟩)=false:=u3;replace aq:(kb.toList==[114,111,117,110,100])=false:=aq;replace u4:(kb.toList==ByteArray.toList ⟨#[114,111,117,110,100]⟩)=false:=u4;replace aw:(kb.toList==[102,97,105,114])=false:=aw;replace u5:(kb.toList==ByteArray.toList ⟨#[102,97,105,114]⟩)=false:=u5;by_cases a0:1<=per
    ·
     by_cases a3:per<=1000
     ·
      obtain⟨d,H⟩:∃ d:Nat,Bt 0 100 ns d/\c=d/\p = -1:=by
       rcases aj.o with⟨N,⟨D,-⟩|⟨-,-,⟨D,-⟩|⟨-,-,d,H,D⟩⟩⟩
       · omega
       · exact absurd ⟨a0,a3⟩ D
       rcases H with⟨I,-⟩|⟨-,I⟩|⟨I,-⟩|⟨I,-⟩|⟨I,-⟩
       · omega
       · exact⟨d,I,D,N⟩
       · omega
       · omega
       omega
      have U:=qX H.1;have E:=qY H.2.1.symm H.2.2.symm;clear H;by_cases bN:0<d
      ·
       go_wp2_with fail;refine(an.o _ 0 100 d ac.o U.o).mono ?_
       rintro e ad ⟨rfl,rfl⟩;go_wp2_with fail;refine(Ce (d:Int) _).mono ?_
       rintro e Z ⟨rfl,z⟩;have h:=qX (O.o.2.tr z);obtain⟨K,J,Y,V⟩:=Q.o.2.2.later h.o;clear z;go_wp2_with fail;exact vB (v:=.agg #[.int .i64 d,.int .i64 (-1)]) (by simp[results,Tryz.results24,go_sem,K,J]) rfl (W.o _ (d:Int) (-1) h.o E.o.1 E.o.2)
      obtain rfl:d=0:=by omega
      go_wp2_with fail;refine(an.o _ 0 100 0 ac.o U.o).mono ?_
      rintro e ad ⟨rfl,rfl⟩;go_wp2_with fail;refine(IB _).mono ?_
      rintro e Z ⟨rfl,z⟩;have h:=qX (O.o.2.tr z);obtain⟨K,J,Y,V⟩:=Q.o.2.2.later h.o;clear z;go_wp2_with fail;exact vB (v:=.agg #[.int .i64 0,.int .i64 (-1)]) (by simp[results,Tryz.results24,go_sem,K,J]) rfl (W.o _ 0 (-1) h.o E.o.1 E.o.2)
     have E:Hid (2=c /\ -1=p):=by
      rcases aj.o with⟨N,⟨D,-⟩|⟨-,-,⟨-,D⟩|⟨a1,a2,-⟩⟩⟩
      · omega
      · exact⟨D.symm,N.symm⟩
      omega
     obtain⟨d,H⟩:=CW 0 100 ns;have U:=qX H;clear H;go_wp2_with fail;refine(an.o _ 0 100 d ac.o U.o).mono ?_
     rintro e ad ⟨rfl,rfl⟩;go_wp2_with fail;refine(Ce 2 _).mono ?_
     rintro e Z ⟨rfl,z⟩;have h:=qX (O.o.2.tr z);obtain⟨K,J,Y,V⟩:=Q.o.2.2.later h.o;clear z;go_wp2_with fail;exact vB (v:=.agg #[.int .i64 2,.int .i64 (-1)]) (by simp[results,Tryz.results24,go_sem,K,J]) rfl (W.o _ 2 (-1) h.o E.o.1 E.o.2)
    have E:Hid (2=c /\ -1=p):=by
     rcases aj.o with⟨N,⟨D,-⟩|⟨-,-,⟨-,D⟩|⟨a1,a2,-⟩⟩⟩
     · omega
     · exact⟨D.symm,N.symm⟩
     omega
    obtain⟨d,H⟩:=CW 0 100 ns;have U:=qX H;clear H;go_wp2_with fail;refine(an.o _ 0 100 d ac.o U.o).mono ?_
    rintro e ad ⟨rfl,rfl⟩;go_wp2_with fail;refine(Ce 2 _).mono ?_
    rintro e Z ⟨rfl,z⟩;have h:=qX (O.o.2.tr z);obtain⟨K,J,Y,V⟩:=Q.o.2.2.later h.o;clear z;go_wp2_with fail;exact vB (v:=.agg #[.int .i64 2,.int .i64 (-1)]) (by simp[results,Tryz.results24,go_sem,K,J]) rfl (W.o _ 2 (-1) h.o E.o.1 E.o.2)
   ·
    replace ap:(kb.toList==[102,105,102,111])=false:=ap;replace u1:(kb.toList==ByteArray.toList ⟨#[102,105,102,111]⟩)=false:=u1;replace aB:(kb.toList==[114,97,110,107])=false:=aB;replace u2:(kb.toList==ByteArray.toList ⟨#[114,97,110,107]⟩)=false:=u2;replace av:(kb.toList==[100,117,101])=true:=av;replace u3:(kb.toList==ByteArray.toList ⟨#[100,117,101]⟩)=true:=u3;replace aq:(kb.toList==[114,111,117,110,100])=false:=aq;replace u4:(kb.toList==ByteArray.toList ⟨#[114,111,117,110,100]⟩)=false:=u4;replace aw:(kb.toList==[102,97,105,114])=false:=aw;replace u5:(kb.toList==ByteArray.toList ⟨#[102,97,105,114]⟩)=false:=u5;by_cases a0:1<=per
    ·
     by_cases a3:per<=1000
     ·
      obtain⟨d,H⟩:∃ d:Nat,Bt 0 1099511627776 ns d/\c=d/\p = -1:=by
       rcases aj.o with⟨N,⟨D,-⟩|⟨-,-,⟨D,-⟩|⟨-,-,d,H,D⟩⟩⟩
       · omega
       · exact absurd ⟨a0,a3⟩ D
       rcases H with⟨I,-⟩|⟨I,-⟩|⟨-,I⟩|⟨I,-⟩|⟨I,-⟩
       · omega
       · omega
       · exact⟨d,I,D,N⟩
       · omega
       omega
      have U:=qX H.1;have E:=qY H.2.1.symm H.2.2.symm;clear H;by_cases bN:0<d
      ·
       go_wp2_with fail;refine(an.o _ 0 1099511627776 d ac.o U.o).mono ?_
       rintro e ad ⟨rfl,rfl⟩;go_wp2_with fail;refine(Ce (d:Int) _).mono ?_
       rintro e Z ⟨rfl,z⟩;have h:=qX (O.o.2.tr z);obtain⟨K,J,Y,V⟩:=Q.o.2.2.later h.o;clear z;go_wp2_with fail;exact vB (v:=.agg #[.int .i64 d,.int .i64 (-1)]) (by simp[results,Tryz.results24,go_sem,K,J]) rfl (W.o _ (d:Int) (-1) h.o E.o.1 E.o.2)
      obtain rfl:d=0:=by omega
      go_wp2_with fail;refine(an.o _ 0 1099511627776 0 ac.o U.o).mono ?_
      rintro e ad ⟨rfl,rfl⟩;go_wp2_with fail;refine(IB _).mono ?_
      rintro e Z ⟨rfl,z⟩;have h:=qX (O.o.2.tr z);obtain⟨K,J,Y,V⟩:=Q.o.2.2.later h.o;clear z;go_wp2_with fail;exact vB (v:=.agg #[.int .i64 0,.int .i64 (-1)]) (by simp[results,Tryz.results24,go_sem,K,J]) rfl (W.o _ 0 (-1) h.o E.o.1 E.o.2)
     have E:Hid (2=c /\ -1=p):=by
      rcases aj.o with⟨N,⟨D,-⟩|⟨-,-,⟨-,D⟩|⟨a1,a2,-⟩⟩⟩
      · omega
      · exact⟨D.symm,N.symm⟩
      omega
     obtain⟨d,H⟩:=CW 0 1099511627776 ns;have U:=qX H;clear H;go_wp2_with fail;refine(an.o _ 0 1099511627776 d ac.o U.o).mono ?_
     rintro e ad ⟨rfl,rfl⟩;go_wp2_with fail;refine(Ce 2 _).mono ?_
     rintro e Z ⟨rfl,z⟩;have h:=qX (O.o.2.tr z);obtain⟨K,J,Y,V⟩:=Q.o.2.2.later h.o;clear z;go_wp2_with fail;exact vB (v:=.agg #[.int .i64 2,.int .i64 (-1)]) (by simp[results,Tryz.results24,go_sem,K,J]) rfl (W.o _ 2 (-1) h.o E.o.1 E.o.2)
    have E:Hid (2=c /\ -1=p):=by
     rcases aj.o with⟨N,⟨D,-⟩|⟨-,-,⟨-,D⟩|⟨a1,a2,-⟩⟩⟩
     · omega
     · exact⟨D.symm,N.symm⟩
     omega
    obtain⟨d,H⟩:=CW 0 1099511627776 ns;have U:=qX H;clear H;go_wp2_with fail;refine(an.o _ 0 1099511627776 d ac.o U.o).mono ?_
    rintro e ad ⟨rfl,rfl⟩;go_wp2_with fail;refine(Ce 2 _).mono ?_
    rintro e Z ⟨rfl,z⟩;have h:=qX (O.o.2.tr z);obtain⟨K,J,Y,V⟩:=Q.o.2.2.later h.o;clear z;go_wp2_with fail;exact vB (v:=.agg #[.int .i64 2,.int .i64 (-1)]) (by simp[results,Tryz.results24,go_sem,K,J]) rfl (W.o _ 2 (-1) h.o E.o.1 E.o.2)
   ·
    replace ap:(kb.toList==[102,105,102,111])=false:=ap;replace u1:(kb.toList==ByteArray.toList ⟨#[102,105,102,111]⟩)=false:=u1;replace aB:(kb.toList==[114,97,110,107])=false:=aB;replace u2:(kb.toList==ByteArray.toList ⟨#[114,97,110,107]⟩)=false:=u2;replace av:(kb.toList==[100,117,101])=false:=av;replace u3:(kb.toList==ByteArray.toList ⟨#[100,117,101]⟩)=false:=u3;replace aq:(kb.toList==[114,111,117,110,100])=true:=aq;replace u4:(kb.toList==ByteArray.toList ⟨#[114,111,117,110,100]⟩)=true:=u4;replace aw:(kb.toList==[102,97,105,114])=false:=aw;replace u5:(kb.toList==ByteArray.toList ⟨#[102,97,105,114]⟩)=false:=u5;by_cases a0:1<=per
    ·
     by_cases a3:per<=1000
     ·
      obtain⟨d,H⟩:∃ d:Nat,Bt 1 3000 ns d/\c=d/\p = -1:=by
       rcases aj.o with⟨N,⟨D,-⟩|⟨-,-,⟨D,-⟩|⟨-,-,d,H,D⟩⟩⟩
       · omega
       · exact absurd ⟨a0,a3⟩ D
       rcases H with⟨I,-⟩|⟨I,-⟩|⟨I,-⟩|⟨-,I⟩|⟨I,-⟩
       · omega
       · omega
       · omega
       · exact⟨d,I,D,N⟩
       omega
      have U:=qX H.1;have E:=qY H.2.1.symm H.2.2.symm;clear H;by_cases bN:0<d
      ·
       go_wp2_with fail;refine(an.o _ 1 3000 d ac.o U.o).mono ?_
       rintro e ad ⟨rfl,rfl⟩;go_wp2_with fail;refine(Ce (d:Int) _).mono ?_
       rintro e Z ⟨rfl,z⟩;have h:=qX (O.o.2.tr z);obtain⟨K,J,Y,V⟩:=Q.o.2.2.later h.o;clear z;go_wp2_with fail;exact vB (v:=.agg #[.int .i64 d,.int .i64 (-1)]) (by simp[results,Tryz.results24,go_sem,K,J]) rfl (W.o _ (d:Int) (-1) h.o E.o.1 E.o.2)
      obtain rfl:d=0:=by omega
      go_wp2_with fail;refine(an.o _ 1 3000 0 ac.o U.o).mono ?_
      rintro e ad ⟨rfl,rfl⟩;go_wp2_with fail;refine(IB _).mono ?_
      rintro e Z ⟨rfl,z⟩;have h:=qX (O.o.2.tr z);obtain⟨K,J,Y,V⟩:=Q.o.2.2.later h.o;clear z;go_wp2_with fail;exact vB (v:=.agg #[.int .i64 0,.int .i64 (-1)]) (by simp[results,Tryz.results24,go_sem,K,J]) rfl (W.o _ 0 (-1) h.o E.o.1 E.o.2)
     have E:Hid (2=c /\ -1=p):=by
      rcases aj.o with⟨N,⟨D,-⟩|⟨-,-,⟨-,D⟩|⟨a1,a2,-⟩⟩⟩
      · omega
      · exact⟨D.symm,N.symm⟩
      omega
     obtain⟨d,H⟩:=CW 1 3000 ns;have U:=qX H;clear H;go_wp2_with fail;refine(an.o _ 1 3000 d ac.o U.o).mono ?_
     rintro e ad ⟨rfl,rfl⟩;go_wp2_with fail;refine(Ce 2 _).mono ?_
     rintro e Z ⟨rfl,z⟩;have h:=qX (O.o.2.tr z);obtain⟨K,J,Y,V⟩:=Q.o.2.2.later h.o;clear z;go_wp2_with fail;exact vB (v:=.agg #[.int .i64 2,.int .i64 (-1)]) (by simp[results,Tryz.results24,go_sem,K,J]) rfl (W.o _ 2 (-1) h.o E.o.1 E.o.2)
    have E:Hid (2=c /\ -1=p):=by
     rcases aj.o with⟨N,⟨D,-⟩|⟨-,-,⟨-,D⟩|⟨a1,a2,-⟩⟩⟩
     · omega
     · exact⟨D.symm,N.symm⟩
     omega
    obtain⟨d,H⟩:=CW 1 3000 ns;have U:=qX H;clear H;go_wp2_with fail;refine(an.o _ 1 3000 d ac.o U.o).mono ?_
    rintro e ad ⟨rfl,rfl⟩;go_wp2_with fail;refine(Ce 2 _).mono ?_
    rintro e Z ⟨rfl,z⟩;have h:=qX (O.o.2.tr z);obtain⟨K,J,Y,V⟩:=Q.o.2.2.later h.o;clear z;go_wp2_with fail;exact vB (v:=.agg #[.int .i64 2,.int .i64 (-1)]) (by simp[results,Tryz.results24,go_sem,K,J]) rfl (W.o _ 2 (-1) h.o E.o.1 E.o.2)
   replace ap:(kb.toList==[102,105,102,111])=false:=ap;replace u1:(kb.toList==ByteArray.toList ⟨#[102,105,102,111]⟩)=false:=u1;replace aB:(kb.toList==[114,97,110,107])=false:=aB;replace u2:(kb.toList==ByteArray.toList ⟨#[114,97,110,107]⟩)=false:=u2;replace av:(kb.toList==[100,117,101])=false:=av;replace u3:(kb.toList==ByteArray.toList ⟨#[100,117,101]⟩)=false:=u3;replace aq:(kb.toList==[114,111,117,110,100])=false:=aq;replace u4:(kb.toList==ByteArray.toList ⟨#[114,111,117,110,100]⟩)=false:=u4;replace aw:(kb.toList==[102,97,105,114])=true:=aw;replace u5:(kb.toList==ByteArray.toList ⟨#[102,97,105,114]⟩)=true:=u5;by_cases a0:1<=per
   ·
    by_cases a3:per<=1000
    ·
     obtain⟨d,H⟩:∃ d:Nat,Ee ns d/\c=d/\p = -1:=by
      rcases aj.o with⟨N,⟨D,-⟩|⟨-,-,⟨D,-⟩|⟨-,-,d,H,D⟩⟩⟩
      · omega
      · exact absurd ⟨a0,a3⟩ D
      rcases H with⟨I,-⟩|⟨I,-⟩|⟨I,-⟩|⟨I,-⟩|⟨-,I⟩
      · omega
      · omega
      · omega
      · omega
      exact⟨d,I,D,N⟩
     have U:=qX H.1;have E:=qY H.2.1.symm H.2.2.symm;clear H;by_cases bN:0<d
     ·
      go_wp2_with fail;refine(bd.o _ d ac.o U.o).mono ?_
      rintro e ad ⟨rfl,rfl⟩;go_wp2_with fail;refine(Ce (d:Int) _).mono ?_
      rintro e Z ⟨rfl,z⟩;have h:=qX (O.o.2.tr z);obtain⟨K,J,Y,V⟩:=Q.o.2.2.later h.o;clear z;go_wp2_with fail;exact vB (v:=.agg #[.int .i64 d,.int .i64 (-1)]) (by simp[results,Tryz.results24,go_sem,K,J]) rfl (W.o _ (d:Int) (-1) h.o E.o.1 E.o.2)
     obtain rfl:d=0:=by omega
     go_wp2_with fail;refine(bd.o _ 0 ac.o U.o).mono ?_
     rintro e ad ⟨rfl,rfl⟩;go_wp2_with fail;refine(IB _).mono ?_
     rintro e Z ⟨rfl,z⟩;have h:=qX (O.o.2.tr z);obtain⟨K,J,Y,V⟩:=Q.o.2.2.later h.o;clear z;go_wp2_with fail;exact vB (v:=.agg #[.int .i64 0,.int .i64 (-1)]) (by simp[results,Tryz.results24,go_sem,K,J]) rfl (W.o _ 0 (-1) h.o E.o.1 E.o.2)
    have E:Hid (2=c /\ -1=p):=by
     rcases aj.o with⟨N,⟨D,-⟩|⟨-,-,⟨-,D⟩|⟨a1,a2,-⟩⟩⟩
     · omega
     · exact⟨D.symm,N.symm⟩
     omega
    obtain⟨d,H⟩:=KP ns;have U:=qX H;clear H;go_wp2_with fail;refine(bd.o _ d ac.o U.o).mono ?_
    rintro e ad ⟨rfl,rfl⟩;go_wp2_with fail;refine(Ce 2 _).mono ?_
    rintro e Z ⟨rfl,z⟩;have h:=qX (O.o.2.tr z);obtain⟨K,J,Y,V⟩:=Q.o.2.2.later h.o;clear z;go_wp2_with fail;exact vB (v:=.agg #[.int .i64 2,.int .i64 (-1)]) (by simp[results,Tryz.results24,go_sem,K,J]) rfl (W.o _ 2 (-1) h.o E.o.1 E.o.2)
   have E:Hid (2=c /\ -1=p):=by
    rcases aj.o with⟨N,⟨D,-⟩|⟨-,-,⟨-,D⟩|⟨a1,a2,-⟩⟩⟩
    · omega
    · exact⟨D.symm,N.symm⟩
    omega
   obtain⟨d,H⟩:=KP ns;have U:=qX H;clear H;go_wp2_with fail;refine(bd.o _ d ac.o U.o).mono ?_
   rintro e ad ⟨rfl,rfl⟩;go_wp2_with fail;refine(Ce 2 _).mono ?_
   rintro e Z ⟨rfl,z⟩;have h:=qX (O.o.2.tr z);obtain⟨K,J,Y,V⟩:=Q.o.2.2.later h.o;clear z;go_wp2_with fail;exact vB (v:=.agg #[.int .i64 2,.int .i64 (-1)]) (by simp[results,Tryz.results24,go_sem,K,J]) rfl (W.o _ 2 (-1) h.o E.o.1 E.o.2)
 have E:Hid (3=c /\ -1=p):=by
  rcases bk.o with⟨-,N,D⟩|⟨I,-⟩|⟨I,-⟩
  · exact⟨N.symm,D.symm⟩
  · exact absurd (aN.o.1.symm.trans I) b1
  exact absurd (aN.o.1.symm.trans I) b1
 have ct:((m:Int)==8)=false:=by simpa using (show(m:Int)≠8 by omega)
 clear bb bc bp hs1;go_in
 go_wp2_with fail;refine(Ce 3 _).mono ?_
 rintro e Z ⟨rfl,z⟩;have h:=qX z;obtain⟨K,J,Y,V⟩:=Q.o.2.2.later h.o;clear z;go_wp2_with fail;exact vB (v:=.agg #[.int .i64 3,.int .i64 (-1)]) (by simp[results,Tryz.results24,go_sem,K,J]) rfl (W.o _ 3 (-1) h.o E.o.1 E.o.2)
structure ES (w:World)(g n:Nat)(out:List Sn):Prop where
 cell:∀ i,i<n->w.cell? ⟨g,i,none⟩=some (.bool (Ay out i))
 frozen:∀ i,w.frozen? ⟨g,i,none⟩=false
 lt:g<w.heap.size
theorem Ny (w:World)(n:Nat)(t:TypeId):ES (w.alloc (.cells (madeCells #[.bool false] n) t)) w.heap.size n []:=by
 refine⟨fun i h=>?_,fun i=>vQ w _ _ i,by simp⟩;rw[qO _ _ _ _ rfl];exact Gr _ _ _ h
theorem ES.of_block {w w':World}{g n:Nat}{out:List Sn}(h:ES w g n out)(z:w'.heap[g]? = w.heap[g]?)(E:w.heap.size<=w'.heap.size):ES w' g n out:=
 ⟨fun i D=>(yE (a:=⟨g,i,none⟩) z).trans (h.cell i D),fun i=>(xY (a:=⟨g,i,none⟩) z).trans (h.frozen i),qD h.lt E⟩
theorem ES.put {w:World}{g n:Nat}{out:List Sn}(h:ES w g n out)(b:Nat)(D:b<n)(f t:Int):ES (w.setCell ⟨g,b,none⟩ (.bool true)) g n (out++[⟨b,f,t⟩]):=by
 refine⟨fun i z=>?_,fun i=>by rw[qK];exact h.frozen i,by simp[World.setCell];exact h.lt⟩;rw[Da];by_cases e:b=i
 · subst e;rw[qT _ _ _ (by rw[h.cell b D];rfl)];simp
 rw[j9 _ _ _ _ (by intro E;cases E;exact e rfl),h.cell i z];simp[e]
structure EC (per:Int)(ps:List Pk)(keys:List Int)(w wr:World)(v:Value)(g:Nat)(out:List Sn)(t:Int)(f:Nat):Prop where
 seeks:LU per ps keys out t f
 own:DX wr w.heap.size v out
 done:ES wr g ps.length out
 apart:v.ownBlock≠some g
 new:w.heap.size<=g
 below:zW w wr
section
variable {per:Int} {ps:List Pk} {keys:List Int} {w wr wr':World} {v:Value} {g:Nat} {out:List Sn} {t:Int} {f:Nat}
theorem EC.later (h:EC per ps keys w wr v g out t f)(z:zW wr wr'):EC per ps keys w wr' v g out t f:=
 ⟨h.seeks,Ah h.own (fun g _ D=>z.block g D),h.done.of_block (z.block g h.done.lt) z.size,h.apart,h.new,h.below.tr z⟩
theorem EC.grown (h:EC per ps keys w wr v g out t f){x:Sn}{g' cap:Nat}{E:World}(Y:E.ownsRow w.heap.size 61 3 (.slice (some ⟨g',0,none⟩) (out.length+1) cap) (out.length+1) (cellsS out++cellsS [x]))(z:wr.grownBy E v.ownBlock)(H:v.ownBlock=some g'\/g'=wr.heap.size)
  (b:Nat) (Q:b<ps.length) (W:x=⟨b,x.beg,x.fin⟩) (J:Int) (K:Nat) (ab:LU per ps keys (out++[x]) J K):EC per ps keys w (E.setCell ⟨g,b,none⟩ (.bool true)) (.slice (some ⟨g',0,none⟩) (out.length+1) cap) g (out++[x]) J K:=by
 have I:g'≠g:=by
  rcases H with H|H
  · intro e;subst e;exact h.apart H
  have:=h.done.lt;omega
 have V:=h.done.of_block (z.block g h.done.lt (fun e=>h.apart e.symm)) z.size;have Z:But (fun k=>v.ownBlock=some k) wr E:=⟨z.os,z.tape,z.output,z.size,fun k D O=>z.block k D (fun e=>O e.symm)⟩
 have N:But (fun k=>k=g) E (E.setCell ⟨g,b,none⟩ (.bool true)):=But.setCell (S:=fun k=>k=g) (But.refl _ E) (p:=⟨g,b,none⟩) rfl _;refine⟨ab,?_,by rw[W];exact V.put b Q _ _,fun e=>I (Option.some.inj e),h.new,?_⟩
 · unfold DX;rw[qJ,GY];exact Ah Y (fun k D U=>N.block k U (fun e=>I ((Option.some.inj D).trans e)))
 exact h.below.trans ((Z.below h.below.size fun k D=>(Aq h.own D).1).trans (N.below (qI h.below.size z.size) fun k D=>by rw[D];exact h.new))
end
end Go.Proofs.YtejlihcdfffafaaGreatDoor
