/- ScriptPlays: for whatever commands, the call of the law returns true and leaves its arguments as they were; no condition but those of its row. -/
import Derived.Test.YtejlihcdfffafaaGreatDoorP44
import Derived.Test.YtejlihcdfffafaaGreatDoorCards
set_option maxHeartbeats 8000000
set_option maxRecDepth 100000
namespace Go.Proofs.YtejlihcdfffafaaGreatDoor
open Go.RowKit
theorem Dc.move {w w':World}{K I S:Nat->Prop}{g D:Nat}{s:Scr}(h:Dc w K g D s)(z:But S w w')(O:∀ k,S k->K k/\k≠g/\k≠D)(V:∀ b,I b->(K b\/w.heap.size<=b)/\b<w'.heap.size)(ai:I g)(ab:I D):Dc w' I g D s:=by
 obtain⟨N,ad,Q,al,h⟩:=h;have W:¬S g:=fun k=>(O g k).2.1 rfl
 have Y:¬S D:=fun k=>(O D k).2.2 rfl
 have far:∀ a,Apart w K a -> (∀ E,a=some E -> ¬ S E.block) /\ Apart w' I a:=fun a J=>⟨fun E e k=>(J E e).1 (O _ k).1,fun E e=>⟨fun k=>by
  rcases(V _ k).1 with Z|Z
  · exact(J E e).1 Z
  have:=(J E e).2;omega,qD (J E e).2 z.size⟩⟩
 have H:∀ i,w'.cell? ⟨g,i,none⟩=w.cell? ⟨g,i,none⟩:=fun i=>z.cell (p:=⟨g,i,none⟩) h.gl W
 refine⟨N,ad,Q,al,qD h.gl z.size,qD h.cl z.size,h.ne,(H 0).trans h.c0,(H 1).trans h.c1,(H 2).trans h.c2,(H 3).trans h.c3,(H 4).trans h.c4,(fun i=>by rw[z.frozen (p:=⟨g,i,none⟩) h.gl W];exact h.fg i),(fun i=>by rw[z.frozen (p:=⟨D,i,none⟩) h.cl Y];exact h.fc i),Dw h.nums z (far N h.nfar).1,h.nle,h.nmax,h.nnil,(far N h.nfar).2,⟨h.pks.pks.but z (far Q h.pfar).1,h.pks.cap,h.pks.max,h.pks.none_⟩,(far Q h.pfar).2,fun i am ac=>?_,ai,ab,fun b k=>(V b k).2⟩;obtain⟨U,aj,q⟩:=h.curves i am ac;exact⟨U,aj,by rw[z.cell (p:=⟨D,i,none⟩) h.cl Y];exact q.cell,Ex q.lies z (far U q.far).1,q.le,q.max,q.nil,(far U q.far).2⟩
def keptOut (g h:Nat)(z D:Value)(b:Nat):Prop:=b=g\/b=h\/z.ownBlock=some b\/D.ownBlock=some b
structure Fw (w:World)(g cb:Nat)(ov wv:Value)(xs outs:List (List UInt8))(s:Scr)(wr:World):Prop where
 bel:zW w wr
 lg:w.heap.size<=g
 lc:w.heap.size<=cb
 lines:Kc wr w.heap.size ov xs
 want:Kc wr w.heap.size wv outs
 apart:∀ b,ov.ownBlock=some b->wv.ownBlock≠some b
 og:∀ b,ov.ownBlock=some b->b≠g/\b≠cb
 wg:∀ b,wv.ownBlock=some b->b≠g/\b≠cb
 mod:Dc wr (keptOut g cb ov wv) g cb s
 ok:Bq s
 says:G9 Cr xs outs s
 short:∀ x∈xs,x.length<=900
section
variable {w wr:World} {g cb:Nat} {ov wv:Value} {xs outs:List (List UInt8)} {s:Scr}
theorem Fw.below (h:Fw w g cb ov wv xs outs s wr){w':World}(z:zW wr w'):Fw w g cb ov wv xs outs s w':=
 ⟨h.bel.tr z,h.lg,h.lc,h.lines.below z,h.want.below z,h.apart,h.og,h.wg,h.mod.below z,h.ok,h.says,h.short⟩
theorem JN:keptOut g cb ov wv g:=.inl rfl
theorem Jy:keptOut g cb ov wv cb:=.inr (.inl rfl)
theorem Fw.step (h:Fw w g cb ov wv xs outs s wr){x out:List UInt8}{s':Scr}(al:Says s x out s')(aE:x.length<=900){I:World}(ap:But (JY g cb) wr I)(a6:Dc I (keptOut g cb ov wv) g cb s'){ai ad:Obj}{D W N ao:Nat}{H aj:World}
  (aS:Lh (I.alloc ai) w.heap.size ov xs x D W H) (a4:Lh (H.alloc ad) w.heap.size wv outs out N ao aj) :
  Fw w g cb (.slice (some ⟨D,0,none⟩) (xs.length+1) W) (.slice (some ⟨N,0,none⟩) (outs.length+1) ao) (xs++[x]) (outs++[out]) s' aj:=by
 obtain⟨a2,Z,U,aw⟩:=aS;obtain⟨aB,Q,O,ar⟩:=a4;have a':=h.lg;have a7:=h.lc;have an:zW I (I.alloc ai):=ba;have ac:zW H (H.alloc ad):=ba;have Y:=h.bel.trans (ap.below h.bel.size fun k z=>by rcases z with z|z <;> omega);have am:∀ b,ov.ownBlock=some b->w.heap.size<=b/\b<wr.heap.size:=fun b E=>Aq h.lines E
 have V:∀ b,wv.ownBlock=some b->w.heap.size<=b/\b<wr.heap.size:=fun b E=>Aq h.want E
 have s1:=ap.size;have a9:=an.size;have bb:=Z.size;have a8:=ac.size;have bc:=Q.size;have bd:g<wr.heap.size:=by obtain⟨_,_,_,_,q⟩:=h.mod;exact q.gl
 have bg:cb<wr.heap.size:=by obtain⟨_,_,_,_,q⟩:=h.mod;exact q.cl
 have a1:D≠g/\D≠cb:=by
  rcases U with k|k
  · exact h.og _ k
  exact⟨by omega,by omega⟩
 have a3:N≠g/\N≠cb:=by
  rcases O with k|k
  · exact h.wg _ k
  exact⟨by omega,by omega⟩
 have a0:D≠N:=by
  rintro rfl;rcases U with k|k
  ·
   rcases O with J|J
   · exact h.apart _ k J
   have:=(am _ k).2;omega
  rcases O with J|J
  · have:=(V _ J).2;omega
  omega
 have ab:zW w H:=(Y.alloc Y.size ai).trans (Z.below (by have:=Y.size;omega) fun k z=>(am k z).1);have av:zW w aj:=(ab.alloc ab.size ad).trans (Q.below (by have:=ab.size;omega) fun k z=>(V k z).1);have a5:Dc H (keptOut g cb (.slice (some ⟨D,0,none⟩) (xs.length+1) W) wv) g cb s':=(a6.below an).move Z (fun k z=>⟨.inr (.inr (.inl z)),(h.og k z).1,(h.og k z).2⟩) (fun b E=>by
  rcases E with rfl|rfl|k|k
  · exact⟨.inl JN,by omega⟩
  · exact⟨.inl Jy,by omega⟩
  ·
   cases k
   refine⟨?_,aw⟩;rcases U with k|k
   · exact .inl (.inr (.inr (.inl k)))
   exact .inr k
  exact ⟨.inl (.inr (.inr (.inr k))),by have:=(V _ k).2;omega⟩) JN Jy
 refine⟨av,h.lg,h.lc,?_,aB,(fun b e aN=>by cases e;cases aN;exact a0 rfl),(fun b e=>by cases e;exact a1),(fun b e=>by cases e;exact a3),?_,Y0 h.ok al,Ku h.says al,fun y K=>?_⟩
 ·
  exact(a2.below ac).but Q fun k z aq=>by
   obtain rfl:D=k:=Option.some.inj z;rcases U with e|e
   · exact h.apart _ e aq
   have be:D<wr.heap.size:=(V _ aq).2;omega
 ·
  refine(a5.below ac).move Q (fun k z=>⟨.inr (.inr (.inr z)),(h.wg k z).1,(h.wg k z).2⟩) (fun b E=>?_) JN Jy;rcases E with rfl|rfl|k|k
  · exact⟨.inl JN,by omega⟩
  · exact⟨.inl Jy,by omega⟩
  · obtain rfl:D=b:=Option.some.inj k;exact⟨.inl (.inr (.inr (.inl rfl))),by omega⟩
  cases k
  refine⟨?_,ar⟩;rcases O with k|k
  · exact .inl (.inr (.inr (.inr k)))
  exact .inr k
 rcases vI.1 K with K|K
 · exact h.short y K
 rw[vJ.1 K];exact aE
end
theorem O6 (a:oA)(cap:Nat)(ls:List LL)(w:World)(bp:Nat->Addr)(b6:Env w bp)(ce:ji w a ls)(cb:ls.length<=9223372036854775807)(O:∀ x∈ls,x.wd.length<=9223372036854775807/\x.kd.length<=9223372036854775807/\x.nm.length<=9223372036854775807):Calls Tryz.prog 3 #[.slice a ls.length cap] w fun e w'=>e=.returned (.bool true)/\zW w w':=by
 have cd:=qX (eD w bp b6);have cH:=qX b6;have dm:Hid (∀(i:Nat) x,ls[i]? = some x->∃ b ab,a=some ⟨b,ab,none⟩/\PQ w b (ab+i*3) x):=fun i x bw=>by
  rcases ce with rfl|⟨b,ab,bg,-,aS⟩
  · simp at bw
  exact⟨b,ab,bg,aS i x bw⟩
 have cS:=qX O;obtain⟨n,b3⟩:=ex ls.length;have c5:=qX b3;rw[b3]at cb ⊢;clear b6 ce O b3;by_cases cG:60<n
 ·
  have d1:decide ((60:Int)<(n:Int))=true:=qM (by omega);clear cb cG;go_in
  go_wp2_with fail;refine cd.o.mono ?_
  rintro e bv ⟨rfl,a0⟩;have dd:=qX a0;clear a0;go_wp2
  go_ret;exact⟨rfl,dd.o⟩
 have d1:decide ((60:Int)<(n:Int))=false:=qF (by omega);have d0:n<=60:=by omega
 clear cb cG;go_in
 go_wp2_with fail;refine cd.o.mono ?_
 rintro e bv ⟨rfl,a0⟩;have b0:=qX a0;clear a0 cd;go_wp2_with fail;refine(Vo bv).mono ?_
 rintro e ci ⟨rfl,cP⟩;obtain⟨bk,ch⟩:=bW bv _ _ ci cP;obtain⟨J,b'⟩:=ex bv.heap.size;obtain⟨g,bh⟩:=ex (J+1);rw[b',bh]at bk;rw[b',bh];have cX:Hid (Fw w g J (.slice none 0 0) (.slice none 0 0) [] [] Cr ci):=by
  have bg:=b0.o.size;refine⟨b0.o.tr ch,by omega,by omega,Wd _ _,Wd _ _,(fun b e=>by cases e),(fun b e=>by cases e),(fun b e=>by cases e),?_,OD,⟨rfl,rfl⟩,fun x O=>by simp at O⟩;refine Dc.move (S:=fun _=>False) ⟨_,_,_,_,bk⟩ (.ofBelow br) (fun k cj=>cj.elim) (fun b H=>?_) JN Jy;have aS:=bk.gl;have cY:=bk.cl;rcases H with rfl|rfl|k|k
  · exact⟨.inl (.inl rfl),aS⟩
  · exact⟨.inl (.inr rfl),cY⟩
  · cases k
  cases k
 clear bk ch cP b' bh b0;go_wp2_with fail;go_loopw [4,5,7] (fun own dp i wr=>∃ k m:Nat,∃ K Y xs z s,k<=n/\K=own/\Y=dp/\i=.int .i64 k/\m<=k/\xs.length=m/\z.length=m/\Fw w g J K Y xs z s wr) (fun _ _ i _=>n-(intOf i).toNat)
 case atStart=>exact⟨0,0,_,_,[],[],Cr,qR _,rfl,rfl,rfl,lr,rfl,rfl,cX.o⟩
 case round=>
  obtain⟨k,m,K,Y,xs,z,s,cj,rfl,rfl,rfl,d4,Q,Z,h⟩:=hrel;have I:=qZ h Q Z;by_cases dk:k<n
  ·
   obtain⟨x,O,a4⟩:=Ab ls k (by rw[c5.o];exact dk);obtain⟨b,ab,rfl,ct⟩:=dm.o k x O;obtain⟨bl,be,de,c7,av,ad⟩:=ct.below h.bel;obtain⟨-,-,ar,aN,bm,a7⟩:=ct;obtain⟨rfl,rfl⟩:ar=de/\aN=c7:=by
    have:=(j7 h.bel bm).symm.trans av;cases this
    exact⟨rfl,rfl⟩
   obtain⟨c2,da,cW⟩:=cS.o x a4;obtain⟨ao,aE⟩:∃ ao:ByteArray,⟨x.wd.toArray⟩=ao:=⟨_,rfl⟩
   obtain⟨am,aw⟩:∃ am:ByteArray,⟨x.kd.toArray⟩=am:=⟨_,rfl⟩
   have an:Ad x.wd=.string ao:=by rw[<- aE]
   have aj:Ad x.kd=.string am:=by rw[<- aw]
   have c1:ao.size=x.wd.length:=by rw[<- aE];show x.wd.toArray.size=_;simp
   have cT:am.size=x.kd.length:=by rw[<- aw];show x.kd.toArray.size=_;simp
   rw[an]at bl;rw[aj]at be;obtain⟨cc,hl0⟩:=ex x.wd.length;obtain⟨b7,hl1⟩:=ex x.kd.length;obtain⟨aq,al⟩:=ex x.nm.length;rw[hl0]at c1 c2;rw[hl1]at cT da;rw[al]at av cW;by_cases bs:20<aq
   ·
    have cU:decide ((20:Int)<(aq:Int))=true:=qM (by omega);clear h Q Z O a4 ad a7 bm aE aw an aj hl0 hl1 al bs;go_wp2
    go_ret;exact⟨rfl,I.o.1.bel⟩
   have cU:decide ((20:Int)<(aq:Int))=false:=qF (by omega);by_cases b5:60<cc
   ·
    have dr:decide ((60:Int)<(cc:Int))=true:=qM (by omega);clear h Q Z O a4 ad a7 bm aE aw an aj hl0 hl1 al bs b5;go_wp2
    go_ret;exact⟨rfl,I.o.1.bel⟩
   have dr:decide ((60:Int)<(cc:Int))=false:=qF (by omega);by_cases co:60<b7
   ·
    have cR:decide ((60:Int)<(b7:Int))=true:=qM (by omega);clear h Q Z O a4 ad a7 bm aE aw an aj hl0 hl1 al bs b5 co;go_wp2
    go_ret;exact⟨rfl,I.o.1.bel⟩
   have cR:decide ((60:Int)<(b7:Int))=false:=qF (by omega);obtain⟨o,bt⟩:=WA x;have b8:Hid (Calls Tryz.prog 6 #[.agg #[.string ao,.string am,.slice ar aq aN]] wr fun e w'=>Y9 o wr e w'):=by
    have a1:=bE x ar aN wr ad.1 (by omega) (by omega) (by omega) o bt;rw[an,aj,al]at a1;exact a1
   have b4:Hid (∀ y,o=some y->y.length<=900):=fun y b1=>by
    subst b1;have:=cB bt (by omega) (by omega) (by omega);omega
   have b2:Hid (∀ N y,zW wr N->o=some y->Calls Tryz.prog 7 #[.pointer (some ⟨g,0,none⟩),.agg #[.string ao,.string am,.slice ar aq aN]] N fun e w'=>QK (keptOut g J K Y) g J s y N e w'):=fun N y ac b1=>by
    subst b1;have cp:=h.bel.tr ac;have a1:=TL (keptOut g J K Y) g J s N bp (cH.o.below cp).errs h.ok (h.mod.below ac) x y bt ar aN ⟨ad.1.below ac,ad.2⟩ (by omega) (fun dz dy e=>by
     obtain⟨a8,dt,dj,cC,-⟩:=a7.1.place (by omega);rw[dj]at e;cases e
     have dT:=h.lg;have du:=h.lc;refine⟨fun H=>?_,qD cC cp.size⟩;have dv:a8<w.heap.size:=cC;rcases H with H|H|H|H
     · have H:a8=g:=H;omega
     · have H:a8=J:=H;omega
     · have c':w.heap.size<=a8:=(Aq h.lines H).1;omega
     have c':w.heap.size<=a8:=(Aq h.want H).1;omega)
    rw[an,aj,al]at a1;exact a1
   have c4:Hid (∀ N,zW wr N->N.cell? ⟨b,ab+k*3,none⟩=some (.string ao)/\N.cell? ⟨b,ab+k*3+1,none⟩=some (.string am)/\N.cell? ⟨b,ab+k*3+2,none⟩=some (.slice ar aq aN)):=fun N ac=>⟨j7 ac bl,j7 ac be,j7 ac av⟩
   clear h Q Z O a4 ad a7 bm aE aw an aj hl0 hl1 al bs b5 co bt;go_wp2_with fail;refine b8.o.mono ?_
   rintro e cx ⟨rfl,bc⟩;have E:=qY bc (I.o.1.below bc);clear bl be av;obtain⟨bl,be,av⟩:=c4.o cx bc;cases o with
   | none=>
    clear bc b8 b4 b2;go_wp2
    go_roundw
    case rel=>exact⟨k+1,m,K,Y,xs,z,s,by omega,rfl,rfl,by go_num,by omega,I.o.2.1,I.o.2.2,E.o.2⟩
    case measure=>simp[intOf];omega
   | some y=>
    clear bc b8;go_wp2_with fail;refine(b2.o cx y E.o.1 rfl).mono ?_
    rintro e U ⟨out,s',rfl,cE,a5,cf⟩;have bN:=qZ cE a5 cf;have cJ:∀ bx,JY g J bx->w.heap.size<=bx:=fun bx b9=>by
     have bg:=E.o.2.lg;have aS:=E.o.2.lc;rcases b9 with b9|b9 <;> omega
    have bd:=E.o.2.bel.trans (a5.below E.o.2.bel.size cJ);have a2:Hid (Kc (U.alloc (.cells #[Ad y] 9)) w.heap.size K xs/\w.heap.size<=(U.alloc (.cells #[Ad y] 9)).heap.size/\xs.length=m/\(U.alloc (.cells #[Ad y] 9)).cell? ⟨U.heap.size,0,none⟩=some (Ad y)):=
     ⟨(E.o.2.lines.but a5 fun j ai bj=>by rcases bj with e|e;exact(E.o.2.og j ai).1 e;exact(E.o.2.og j ai).2 e).below ba,(bd.alloc bd.size _).size,I.o.2.1,by rw[qO _ _ _ _ rfl];rfl⟩
    have a':Hid (∀ V W D,Lh (U.alloc (.cells #[Ad y] 9)) w.heap.size K xs y V W D->Kc (D.alloc (.cells #[Ad out] 9)) w.heap.size Y z/\w.heap.size<=(D.alloc (.cells #[Ad out] 9)).heap.size/\z.length=m/\(D.alloc (.cells #[Ad out] 9)).cell? ⟨D.heap.size,0,none⟩=some (Ad out)):=fun V W D bq=>by
     have c6:=(E.o.2.want.but a5 fun j ai bj=>by rcases bj with e|e;exact(E.o.2.wg j ai).1 e;exact(E.o.2.wg j ai).2 e).below ((y6 _ U).alloc lr (.cells #[Ad y] 9));refine⟨(c6.but bq.2.1 fun j ai bj=>E.o.2.apart j bj ai).below ba,?_,I.o.2.2,by rw[qO _ _ _ _ rfl];rfl⟩;have bg:=bq.2.1.size;have aS:=(bd.alloc bd.size (.cells #[Ad y] 9)).size;simp at bg aS ⊢
     omega
    have dq:Hid (∀ V W D a9 a6 bb,Lh (U.alloc (.cells #[Ad y] 9)) w.heap.size K xs y V W D->Lh (D.alloc (.cells #[Ad out] 9)) w.heap.size Y z out a9 a6 bb->Fw w g J (.slice (some ⟨V,0,none⟩) (m+1) W) (.slice (some ⟨a9,0,none⟩) (m+1) a6) (xs++[y]) (z++[out]) s' bb):=fun V W D a9 a6 bb bq c8=>by
     have:=E.o.2.step bN.o.1 (b4.o y rfl) bN.o.2.1 bN.o.2.2 bq c8;rwa[I.o.2.1,I.o.2.2]at this
    have cD:Hid ((xs++[y]).length=m+1/\(z++[out]).length=m+1):=⟨by rw[qJ,I.o.2.1];rfl,by rw[qJ,I.o.2.2];rfl⟩
    clear cE a5 cf cJ bd b2 b4 bl be av;go_wp2_with (first
     | (at_builtin;(refine wpList_append_text _ rfl rfl _ _ rfl w.heap.size K xs y rfl a2.o.1 a2.o.2.1 (by rw[a2.o.2.2.1];omega) ⟨U.heap.size,0,none⟩ 1 rfl a2.o.2.2.2 ?_;intro V W D a3;have aB:=(show Hid (Lh (U.alloc (.cells #[Ad y] 9)) w.heap.size K xs y V W D)from a3);rw[a2.o.2.2.1];clear a3))
     | (at_builtin;go_must (refine wpList_append_text _ rfl rfl _ _ rfl w.heap.size Y z out rfl (a'.o _ _ _ aB.o).1 (a'.o _ _ _ aB.o).2.1 (by rw [(a'.o _ _ _ aB.o).2.2.1];omega) ⟨D.heap.size,0,none⟩ 1 rfl (a'.o _ _ _ aB.o).2.2.2 ?_;intro a9 a6 bb a3;have db:=(show Hid (Fw w g J (.slice (some ⟨V,0,none⟩) (m+1) W) (.slice (some ⟨a9,0,none⟩) (m+1) a6) (xs ++ [y]) (z ++ [out]) s' bb) from dq.o _ _ _ _ _ _ aB.o a3);rw [(a'.o _ _ _ aB.o).2.2.1];clear a3)))
    go_roundw
    case rel=>exact⟨k+1,m+1,_,_,xs++[y],z++[out],s',by omega,rfl,rfl,by go_num,by omega,cD.o.1,cD.o.2,db.o⟩
    case measure=>simp[intOf];omega
  obtain rfl:k=n:=by omega
  obtain⟨cw,cg,cm,cF,c9,cV⟩:=h.lines.whole;obtain⟨cL,cN,cA,cn,c0⟩:=h.want.value;rw[Q]at cm;rw[Z]at cA;subst cm;subst cA;have c3:Hid (Calls Tryz.prog 8 #[.slice cw m cg] wr fun e w'=>TG (fun i o=>z[i]? = some o) (Ng xs z) xs wr e w'):=by
   have:=Ns cw cg xs wr bp (cH.o.below h.bel) cF (by rw[Q];omega) h.short (fun i o=>z[i]? = some o) (Ng xs z) (V7 h.says) (fun i x s bw bh _ _=>YO bw bh);rw[Q]at this;exact this
  have ap:=qV cn Q Z h.bel;clear h Q Z cF c9 cV cn c0 I;go_wp2_with fail;refine c3.o.mono ?_
  rintro e D ⟨cM,cv,s',cy,ca,cQ,-,ck,bT⟩;rw[ap.o.2.1]at cy;subst cy;have cq:cv.length=m:=by rw[IE ck,ap.o.2.1]
  have cI:cv=z:=by
   have:=ag cq cQ;rw[<- this];exact vP (by rw[ap.o.2.2.1];exact lr)
  have dg:Hid (qW 9 #[.slice (some ⟨cM,0,none⟩) m m,.slice cL m cN] D (.bool true)):=by
   rw[cI]at ca;have:=LY (some ⟨cM,0,none⟩) cL m cN z D ca (ap.o.1.below bT) (by rw[ap.o.2.2.1];omega);rw[ap.o.2.2.1]at this;exact this
  have dn:=qX (ap.o.2.2.2.tr bT);clear bT ca cQ ck cq cI;go_wp2_with fail;refine dg.o.mono ?_
  rintro e dX ⟨rfl,cu⟩;have ds:=qX (dn.o.tr cu);clear cu;go_wp2
  go_ret;exact⟨rfl,ds.o⟩
open Go.ChangeShapes Go.WideShapes Go.ChangeAt Go.Shelf
theorem Ql:Rows.scriptPlaysRow.laid=Rows.scriptPlaysRow.laid:=rfl
theorem Ub {h:World}(D:laidMetH Tryz.prog Rows.scriptPlaysRow.laid h)(z:h.ShapedOpen Tryz.prog):∃ E,Env h E:=Us (Ql ▸ D) z
theorem Yy (os:Os)(args:Array Value):laidMetH Tryz.prog Rows.scriptPlaysRow.laid ((Ke Tryz.prog os Rows.scriptPlaysRow.laid).forCall (fun _ _=>0) ⟨#[],args,[]⟩).memory:=Ql ▸ WV os args
theorem Rp {H:Type}{enc:TypeId×Value->H}{a:Assume}{C:Checked}{os:Os}{f:FuncId}{fn:Func}{s:ChangeSpec}{conds:List PathCond}{apart fresh handsOn again:Bool}{X:World->Array Value->Prop}
  (hX:∀(w w':World)(args:Array Value),w.heap=w'.heap->X w args->X w' args)
  (own:ownKnob C.prog.godebug=none) (started:os.Started) (noInit:C.prog.inits.idxOf? f=none) (hfn:C.prog.funcs[f]? = some fn)
  (witness:∃ (w:World) (tape:Tape) (i:Input),w.os=os /\ (w.forCall tape i).Shaped C.prog /\ i.vars=[] /\ Input.okWide C.prog (w.forCall tape i) .any w.heap.size f i /\
   ((s.pre enc C.prog fn conds apart (w.forCall tape i).memory i.args /\ X (w.forCall tape i).memory i.args) /\ sizedMet enc C.prog fn (OpenSpec.ofChange s) apart (w.forCall tape i).memory i.args) /\ a.holds C.prog (lone (Frame.enter C.prog f i.args .normal) [] (w.forCall tape i)))
  (walk:∀ (W:World) (base:Nat) (args:Array Value) (ds gs:List (DataW H)) (before:List MemPlace),
   (∀(j:Nat) t v,fn.params[j]? = some t->args[j]? = some v->Value.okWide C.prog W .any base t v) ->
   DataW.Whole enc C.prog fn.params.toList s.vars apart W args.toList ds gs before ->
   conds.all (PathCond.test C.prog ⟨fn.params.toList,ds,s.plain.varTypes C.prog,gs⟩)=true->X W args->W.ShapedOpen C.prog ->
   Calls C.prog f args W fun e W'=>∃ v,e=.returned v /\ s.post enc C.prog fn apart fresh handsOn again W args v W') :
  ReturnsInHanded a C os f .any (fun w args=>(s.pre enc C.prog fn conds apart w args/\X w args)/\sizedMet enc C.prog fn (OpenSpec.ofChange s) apart w args) (s.post enc C.prog fn apart fresh handsOn again):=by
 refine returnsInHanded_of_calls own started noInit witness fun w tape i _ hsh _ hok hpre _=>?_
 obtain⟨_,_,_,fn',hfn',_,_,_,_,hval⟩:=hok;obtain rfl:fn'=fn:=Option.some.inj (hfn'.symm.trans hfn);obtain⟨⟨⟨ds,gs,before,hw,hc⟩,hx⟩,-⟩:=hpre;refine(walk (w.forCall tape i) w.heap.size i.args ds gs before hval (DataW.Whole.of_heap (w':=w.forCall tape i) (by rfl) hw) hc (hX _ _ _ (by rfl) hx) hsh).mono fun e W' ⟨v,he,hp⟩=>?_
 subst he;exact ChangeSpec.post_blind hp
theorem bX (os:Os)(V:os.Started)(Z:Type)(enc:TypeId×Value->Z):ReturnsInHanded {} Tryz.checked os 3 .any (fun w args=>(Rows.scriptPlaysSpec.pre enc Tryz.prog Tryz.f3 [] false w args/\laidMetH Tryz.prog Rows.scriptPlaysRow.laid w)/\sizedMet enc Tryz.prog Tryz.f3 (OpenSpec.ofChange Rows.scriptPlaysSpec) false w args)
   (Rows.scriptPlaysSpec.post enc Tryz.prog Tryz.f3 false true false false):=by
 refine Rp (C:=Tryz.checked) (X:=fun w _=>laidMetH Tryz.prog Rows.scriptPlaysRow.laid w) (fun _ _ _ al z=>z.of_heap al) Tryz.own V (by kernel_rfl) Tryz.func3
  (ChangeSpec.witness_shaped (enc:=enc) (C:=Tryz.checked) (os:=os) (X:=fun w _=>laidMetH Tryz.prog Rows.scriptPlaysRow.laid w) false (Ke Tryz.prog os Rows.scriptPlaysRow.laid) #[.slice none 0 0] 8 (ZJ _ _) (World.shaped_of_ZipB (by kernel_rfl) (by kernel_rfl)) (by kernel_rfl) (by kernel_rfl) (by kernel_rfl) (Yy os _)) ?_
 intro h aj args Y a1 a0 av E _ ar an;have H:∀(j:Nat) t v,Tryz.f3.params[j]? = some t->args[j]? = some v->Value.okWide Tryz.prog h .any aj t v:=av;have K:=E;obtain⟨p,q,ap,J,rfl,aN,aw⟩:=E;have I:DataW.TrodAll enc Tryz.prog h 0 (fun _=>true) true Tryz.f3.params.toList args.toList Y p:=ap;rw[Tryz.params3]at I H;obtain⟨v0,aS,rfl,rfl,D⟩:=trodAll_one I;obtain⟨rfl,rfl⟩:=trodVars_none J;have U:∀ x∈p,x.block<h.heap.size:=by obtain⟨m,ac⟩:=D;exact DataW.trod_lt m _ _ _ ac
 have ai:=D;obtain⟨O,W,ad,rfl,hl0,aE,am,aq⟩:=Z0 (H 0 22 v0 rfl rfl) D;obtain⟨N,ao⟩:=Ub ar an;refine(O6 O W ad h N ao hl0 (by simp[maxLen]at am;omega) (fun x Q=>by have:=aq x Q;simp[maxLen]at this;omega)).mono fun e aB ⟨ab,bel⟩=>?_
 subst ab;exact ⟨_,rfl,_,_,_,[],_,[],K,trodAll_mk1 (shut_bool Tryz.underlying4 _),
  (trodAll_mk1 (Below.trod Tryz.laidOut (by kernel_rfl) (vM (by kernel_rfl)) ai bel U)),rfl,bel.frame _,fun z=>by cases z⟩
theorem jQ:Rows.ScriptPlaysSaid:=
 OpenClaim.holds_of_wide 3 Tryz.f3 rfl rfl rfl rfl rfl rfl rfl ⟨rfl,rfl,rfl,rfl,rfl⟩ rfl rfl rfl rfl rfl (by kernel_rfl) Tryz.func3 (by kernel_rfl)
  (vM (by kernel_rfl)) (by unfold Func.isWrapper;rw[if_neg (xE (by kernel_rfl))];exact⟨rfl,rfl⟩)
  (fun os h z enc _=>bX os h z enc)
theorem scriptPlays_holds:Rows.ScriptPlaysCardSaid:=
 Claim7.holds_tied_plain_at .later [] Rows.scriptPlaysCard.laidKinds true Rows.scriptPlaysCard.stood.harness true
  jQ (fun _ z=>by cases z) (by kernel_rfl) (fun _ z=>by cases z) scriptPlays_row_tie rfl ⟨rfl,rfl⟩ (by kernel_rfl) rfl
  (fun f H I D=>by
   obtain rfl:f=3:=Option.some.inj ((show Tryz.prog.funcNamed Rows.scriptPlaysRow.func=some 3 by kernel_rfl).symm.trans I) |>.symm;obtain rfl:H=Tryz.f3:=(Option.some.inj (Tryz.func3.symm.trans D)).symm;exact ⟨by kernel_rfl,fun j t h=>by
    rw[Tryz.params3]at h;have E:t=22:=by
     match j,h with
     | 0,h=>exact(by simpa using h.symm)
     | j+1,h=>simp at h
    rcases E with rfl
    exact (show Tryz.prog.wantsStandIn 22=false by kernel_rfl)⟩)
  (by kernel_rfl)
#print axioms scriptPlays_holds
end Go.Proofs.YtejlihcdfffafaaGreatDoor
