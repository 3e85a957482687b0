import Derived.Laws.CopyOwn
import Derived.Test.YtejlihcdfffafaaGreatDoorP32
set_option maxHeartbeats 4000000
set_option maxRecDepth 100000
namespace Go.Proofs.YtejlihcdfffafaaGreatDoor
open Go.RowKit Go.Shelf
def Gn (k:Nat):List Value:=List.replicate k (.int .i64 1)++List.replicate (8-k) (.int .i64 0)
theorem Tryz.sizeInt1:(Tryz.prog.info? 3).map (·.size)=some 1:=by kernel_rfl
theorem kF (w:World):Calls Tryz.prog 142 #[.int .u64 1,.int .u64 8] w fun e w'=>e=.returned (.tuple #[.int .u64 0,.int .u64 8])/\w'=w:=
 Any.bits_Mul Tryz.lays212 1 8 (by decide) (by decide) w
theorem Y6 {g o dl dc:Nat}{a:Addr}{sl sc:Nat}{z cs next:List Value}(h:World)(E:h.heap[g]? = some (.cells z.toArray 3 (0,0)))(H:cs.length=Nat.min sl dl)(Q:∀ j v,cs[j]? = some v->h.cell? (a.add j)=some v)(O:o+cs.length<=z.length)(N:∀ v∈cs,v.oneCell'=true)
  (J:z.take o++cs++z.drop (o+cs.length)=next) {B:Nat} {w:World} (I:Below B w h) (K:B<=g) :
  ∃ D,(Builtin.copy_ #[27,27] 3 #[.slice (some ⟨g,o,none⟩) dl dc,.slice (some a) sl sc]).run Tryz.prog h=.ok (.int .i64 cs.length) D/\D.heap[g]? = some (.cells next.toArray 3 (0,0))/\Below B w D:=by
 have:=run_copy_row (P:=Tryz.prog) h 27 27 3 3 g o dl dc a sl sc z.toArray 3 cs Tryz.underlying27 Tryz.sizeInt1 E H Q (by simpa using O) N;refine⟨_,this,?_,below_setRow I K _⟩;rw[<- J];exact setRow_heap h g _ _ 3 _ E
theorem PO {k G:Nat}(D:k=1\/k=2\/k=4)(h:World)(J:h.heap[G]? = some (.cells (Gn k).toArray 3 (0,0))){B:Nat}{w:World}(K:Below B w h)(N:B<=G):∃ H,(Builtin.copy_ #[27,27] 3 #[.slice (some ⟨G,k,none⟩) (8-k) (8-k),.slice (some ⟨G,0,none⟩) k 8]).run Tryz.prog h=.ok (.int .i64 k) H/\H.heap[G]? = some (.cells (Gn (k+k)).toArray 3 (0,0))/\Below B w H:=by
 have z:(List.replicate k (Value.int .i64 1)).length=k:=by simp
 have:=Y6 (o:=k) (dl:=8 - k) (dc:=8 - k) (a:=⟨G,0,none⟩) (sl:=k) (sc:=8) (cs:=List.replicate k (Value.int .i64 1)) (next:=Gn (k+k)) h J (by rw [z];rcases D with rfl | rfl | rfl <;> rfl) (fun j v I=>by
  have O:=Af I;rw[z]at O;have E:v=.int .i64 1:=x8 (q9 I);subst E;rw[Addr.add_lit,cell_of_row h G _ _ _ _ J];unfold Gn;rw [List.getElem?_toArray,qU (by simp;omega),List.getElem?_replicate,if_pos (by omega)]) (by rw [z];rcases D with rfl | rfl | rfl <;> decide) (fun v E=>by rw [x8 E];rfl) (by rcases D with rfl | rfl | rfl <;> rfl) K N
 rw[z]at this;exact this
theorem VX (b:Nat)(w:World)(ac:w.cell? ⟨b,0,none⟩=some (.int .i64 1)):Calls Tryz.prog 116 #[.slice (some ⟨b,0,none⟩) 1 1,.int .i64 8] w fun e w'=>∃ G,e=.returned (.slice (some ⟨G,0,none⟩) 8 8)/\w.heap.size<=G/\AR w' (some ⟨G,0,none⟩) [1,1,1,1,1,1,1,1]/\zW w w':=by
 have ao:=Qy 8 (by decide);have Q:zW w (w.alloc (.cells (madeCells #[.int .i64 0] 8) 3)):=ba;have Z:=j7 Q ac;have O:(w.alloc (.cells (madeCells #[.int .i64 0] 8) 3)).heap[w.heap.size]? = some (.cells (Gn 0).toArray 3 (0,0)):=by
  have e:madeCells #[.int .i64 0] 8=(Gn 0).toArray:=by
   apply Array.toList_inj.1;rw[toList_madeCells_one];rfl
  rw[vZ,e]
 obtain⟨al,U⟩:=ex (w.alloc (.cells (madeCells #[.int .i64 0] 8) 3));rw[U]at Q Z O;obtain⟨G,W⟩:=ex w.heap.size;rw[W]at O;have a1:(Instr.makeSlice 27 (.int .i64 8) (.int .i64 8)).run Tryz.prog w=.ok (.slice (some ⟨G,0,none⟩) 8 8) al:=by
  have:=ao w;rw[U,W]at this;exact this
 have V:=qZ Q Z O;have J:Hid (w.heap.size<=G):=by show _<=_;omega
 obtain ⟨aS,N,ad,ai⟩:=Y6 (g:=G) (o:=0) (dl:=8) (dc:=8) (a:=⟨b,0,none⟩) (sl:=1) (sc:=1) (cs:=[Value.int .i64 1]) (next:=Gn 1) al V.o.2.2 rfl (fun j v am=>by
  have aN:=Af am;obtain rfl:j=0:=by simpa using aN
  obtain rfl:v=.int .i64 1:=by simpa using am.symm
  exact V.o.2.1) (by decide) (by simp [Value.oneCell']) rfl V.o.1 J.o
 have ar:=qY ad ai;have av:=qX (kF w);clear Q Z O U ao ac W ad ai;go_in
 go_wp2_with fail;refine av.o.mono ?_
 rintro e a0 ⟨rfl,aq⟩;rw[aq];clear aq;go_wp2_with fail;go_loopw [8] (fun n wr=>∃ k:Nat,(k=1\/k=2\/k=4\/k=8)/\n=.int .i64 k/\wr.heap[G]? = some (.cells (Gn k).toArray 3 (0,0))/\zW w wr) (fun n _=>8-(intOf n).toNat)
 case atStart=>exact⟨1,.inl rfl,rfl,ar.o.1,ar.o.2⟩
 case round=>
  obtain⟨k,aE,rfl,h,z⟩:=hrel;rcases aE with rfl|rfl|rfl|rfl
  ·
   obtain⟨K,H,D,I⟩:=PO (k:=1) (G:=G) (.inl rfl) wr.drew h (w:=w) (B:=w.heap.size) z.drew J.o;have E:=qY D I;have ap:(Builtin.copy_ #[27,27] 3 #[.slice (some ⟨G,1,none⟩) 7 7,.slice (some ⟨G,0,none⟩) 1 8]).run Tryz.prog wr.drew=.ok (.int .i64 1) K:=H;clear h z D I N H;go_wp2
   go_region;go_wp2
   go_roundw
   case rel=>exact⟨2,.inr (.inl rfl),rfl,E.o.1,E.o.2⟩
   case measure=>simp[intOf]
  ·
   obtain⟨K,H,D,I⟩:=PO (k:=2) (G:=G) (.inr (.inl rfl)) wr.drew h (w:=w) (B:=w.heap.size) z.drew J.o;have E:=qY D I;have ap:(Builtin.copy_ #[27,27] 3 #[.slice (some ⟨G,2,none⟩) 6 6,.slice (some ⟨G,0,none⟩) 2 8]).run Tryz.prog wr.drew=.ok (.int .i64 2) K:=H;clear h z D I N H;go_wp2
   go_region;go_wp2
   go_roundw
   case rel=>exact⟨4,.inr (.inr (.inl rfl)),rfl,E.o.1,E.o.2⟩
   case measure=>simp[intOf]
  ·
   obtain⟨K,H,D,I⟩:=PO (k:=4) (G:=G) (.inr (.inr rfl)) wr.drew h (w:=w) (B:=w.heap.size) z.drew J.o;have E:=qY D I;have ap:(Builtin.copy_ #[27,27] 3 #[.slice (some ⟨G,4,none⟩) 4 4,.slice (some ⟨G,0,none⟩) 4 8]).run Tryz.prog wr.drew=.ok (.int .i64 4) K:=H;clear h z D I N H;go_wp2
   go_region;go_wp2
   go_roundw
   case rel=>exact⟨8,.inr (.inr (.inr rfl)),rfl,E.o.1,E.o.2⟩
   case measure=>simp[intOf]
  have aw:Hid (∃ Y,Ending.returned (.slice (some ⟨G,0,none⟩) 8 8)=.returned (.slice (some ⟨Y,0,none⟩) 8 8)/\w.heap.size<=Y/\AR wr (some ⟨Y,0,none⟩) [1,1,1,1,1,1,1,1]/\zW w wr):=by
   refine⟨G,rfl,J.o,.inr ⟨G,0,rfl,?_,fun i x aj=>?_⟩,z⟩
   ·
    rcases qC G wr.heap.size with ab|ab
    · exact ab
    rw[vX ab]at h;cases h
   have aB:x=1:=by
    have:=q9 aj;simpa using this
   have an:=Af aj;rw[cell_of_row wr G _ _ _ _ h,vC,aB];unfold Gn;rw[List.getElem?_toArray,qU (by simpa using an),List.getElem?_replicate,if_pos (by simpa using an)]
  clear h z N;go_wp2
  go_ret;exact aw.o
theorem Ex {S:Nat->Prop}{w w':World}{a:oA}{ls:lI}(K:AQ w a ls)(z:But S w w')(I:∀ H,a=some H->¬S H.block):AQ w' a ls:=by
 rcases K with rfl|⟨b,h,rfl,D,J⟩
 · exact .inl rfl
 have E:¬S b:=I _ rfl;refine .inr ⟨b,h,rfl,qD D z.size,fun i x y N=>?_⟩;rw[z.cell (p:=⟨b,h+i*2,none⟩) D E,z.cell (p:=⟨b,h+i*2+1,none⟩) D E];exact J i x y N
structure Pn (w:World)(N cb:Nat)(pv:Value)(i:Nat)(ls:lI)(a:oA)(cap:Nat):Prop where
 cell:w.cell? ⟨cb,i,none⟩=some (.slice a ls.length cap)
 lies:AQ w a ls
 le:ls.length<=cap
 max:cap<=maxLen
 nil:a=none->ls=[]/\cap=0
 far:∀ ad,a=some ad->N<=ad.block/\ad.block<w.heap.size/\pv.ownBlock≠some ad.block
structure CF (w:World)(N g cb:Nat)(na:oA)(ncap:Nat)(pv:Value)(s:Scr):Prop where
 gN:g<N
 cN:cb<N
 ne:g≠cb
 wN:N<=w.heap.size
 c0:w.cell? ⟨g,0,none⟩=some (.slice (some ⟨cb,0,none⟩) 8 8)
 c1:w.cell? ⟨g,1,none⟩=some (Ad s.kb)
 c2:w.cell? ⟨g,2,none⟩=some (.int .i64 s.per)
 c3:w.cell? ⟨g,3,none⟩=some (.slice na s.ns.length ncap)
 c4:w.cell? ⟨g,4,none⟩=some pv
 fg:∀ i,w.frozen? ⟨g,i,none⟩=false
 fc:∀ i,w.frozen? ⟨cb,i,none⟩=false
 nums:AR w na s.ns
 nle:s.ns.length<=ncap
 nmax:ncap<=maxLen
 nnil:na=none->s.ns=[]/\ncap=0
 nfar:∀ ad,na=some ad->N<=ad.block/\ad.block<w.heap.size/\pv.ownBlock≠some ad.block
 pks:BD w N pv s.ps
 curves:∀(i:Nat) ls,s.cs[i]? = some ls->∃ a cap,Pn w N cb pv i ls a cap
def NZ (h g z:Nat)(k:Nat):Prop:=k=g\/k=z\/h<=k
section
variable {w w':World} {N g cb:Nat} {na:Option Addr} {ncap:Nat} {pv:Value} {s:Scr}
theorem Pn.but {S:Nat->Prop}{i:Nat}{ls:lI}{a:oA}{cap:Nat}(h:Pn w N cb pv i ls a cap)(D:But S w w')(H:¬S cb)(E:∀ z,a=some z->¬S z.block):Pn w' N cb pv i ls a cap:=
 ⟨by rw[D.cell (p:=⟨cb,i,none⟩) (Cg h.cell) H];exact h.cell,Ex h.lies D E,h.le,h.max,h.nil,fun z e=>⟨(h.far z e).1,qD (h.far z e).2.1 D.size,(h.far z e).2.2⟩⟩
theorem CF.below (h:CF w N g cb na ncap pv s)(z:zW w w'):CF w' N g cb na ncap pv s:=by
 refine⟨h.gN,h.cN,h.ne,qI h.wN z.size,j7 z h.c0,j7 z h.c1,j7 z h.c2,j7 z h.c3,j7 z h.c4,fun i=>?_,fun i=>?_,h.nums.below z,h.nle,h.nmax,h.nnil,fun D e=>⟨(h.nfar D e).1,qD (h.nfar D e).2.1 z.size,(h.nfar D e).2.2⟩,h.pks.later z,fun i ls H=>?_⟩
 · rw[z.frozen (p:=⟨g,i,none⟩) (qD h.gN h.wN)];exact h.fg i
 · rw[z.frozen (p:=⟨cb,i,none⟩) (qD h.cN h.wN)];exact h.fc i
 obtain⟨a,cap,E⟩:=h.curves i ls H;exact⟨a,cap,E.but (S:=fun _=>False) (.ofBelow z) id fun _ _=>id⟩
theorem CF.gate (h:CF w N g cb na ncap pv s)(H:s.cs.length=8)(D:jf s.cs s.ns):DT w (some ⟨cb,0,none⟩) 8 s.cs na ncap s.ns:=
 ⟨.inr ⟨cb,0,rfl,qD h.cN h.wN,fun i ls E=>by
  obtain⟨a,cap,z⟩:=h.curves i ls E;rw[vC];exact ⟨a,cap,z.cell,z.lies,z.le,z.max,z.nil⟩⟩,by omega,by simp [maxLen],h.nums,h.nle,h.nmax,h.nnil,D⟩
theorem BD.value {w:World}{B:Nat}{v:Value}{ps:List Pk}(z:BD w B v ps):∃ a cap,v=.slice a ps.length cap/\CU w a cap ps:=by
 have h:=z;obtain⟨-,⟨rfl,N⟩|⟨b,cap,ad,rfl,Z,E,H,Q,ac,ai⟩⟩:=h
 · have e:ps=[]:=qN.1 N;subst e;exact⟨none,0,rfl,.inl rfl,by simp,by simp[maxLen],fun _=>⟨rfl,rfl⟩⟩
 refine⟨_,cap,rfl,?_,H,Q,fun e=>by cases e⟩;have I:b<w.heap.size:=by
  rcases qC b w.heap.size with h|h
  · exact h
  rw[vX h]at E;cases E
 refine .inr ⟨b,0,rfl,I,fun i p D=>?_⟩;have Y:=Af D;have key:∀ j,j<3->w.cell? ⟨b,i*3+j,none⟩=(BV ps)[i*3+j]?:=fun j ab=>World.ownsRow.cellAt z (i*3+j) (by omega)
 obtain⟨V,O,J⟩:=Mm ps i p D;have U:=key 0 (by omega);have W:=key 1 (by omega);have K:=key 2 (by omega);rw[vC];exact⟨U.trans V,W.trans O,K.trans J⟩
theorem CF.setCurve (h:CF w N g cb na ncap pv s){f:Nat}(ad:f<8)(ac:s.cs.length=8){ls:lI}{G:Nat}(U:N<=G)(W:G<w.heap.size)(Z:pv.ownBlock≠some G)(V:AQ w (some ⟨G,0,none⟩) ls)(Y:ls.length<=maxLen):CF (w.setCell ⟨cb,f,none⟩ (.slice (some ⟨G,0,none⟩) ls.length ls.length)) N g cb na ncap pv { s with cs:=s.cs.set f ls }/\But (NZ N g cb) w (w.setCell ⟨cb,f,none⟩ (.slice (some ⟨G,0,none⟩) ls.length ls.length)):=by
 have H:But (fun k=>k=cb) w (w.setCell ⟨cb,f,none⟩ (.slice (some ⟨G,0,none⟩) ls.length ls.length)):=But.setCell (p:=⟨cb,f,none⟩) (But.refl (fun k=>k=cb) w) rfl _;have ab:=qD h.gN h.wN;have e:∀ i,(w.setCell ⟨cb,f,none⟩ (.slice (some ⟨G,0,none⟩) ls.length ls.length)).cell? ⟨g,i,none⟩=w.cell? ⟨g,i,none⟩:=fun i=>H.cell (p:=⟨g,i,none⟩) ab h.ne
 have ai:=h.cN;refine⟨⟨h.gN,h.cN,h.ne,qI h.wN H.size,(e 0).trans h.c0,(e 1).trans h.c1,(e 2).trans h.c2,(e 3).trans h.c3,(e 4).trans h.c4,fun i=>by rw[qK];exact h.fg i,fun i=>by rw[qK];exact h.fc i,Dw h.nums H (fun z E=>by have:=(h.nfar z E).1;show ¬z.block=cb;omega),h.nle,h.nmax,h.nnil,(fun z e=>⟨(h.nfar z e).1,qD (h.nfar z e).2.1 H.size,(h.nfar z e).2.2⟩),C9 h.pks H (fun k J=>by have:=(Aq h.pks J).1;show ¬k=cb;omega),fun i O Q=>?_⟩,H.mono fun k J=>.inr (.inl J)⟩;have I:(s.cs.set f ls)[i]? = some O:=Q;by_cases K:f=i
 · subst K;rw[zB (by omega)]at I;obtain rfl:=Option.some.inj I;obtain⟨a,cap,D⟩:=h.curves f s.cs[f] (qE (by omega));exact⟨some ⟨G,0,none⟩,ls.length,qT _ _ _ (by rw[D.cell];rfl),Ex V H (fun z E=>by cases E;show ¬G=cb;omega),lr,Y,(fun E=>by cases E),fun z E=>by cases E;exact⟨U,qD W H.size,Z⟩⟩
 rw[List.getElem?_set_ne K]at I;obtain⟨a,cap,D⟩:=h.curves i O I;refine⟨a,cap,?_,Ex D.lies H (fun z E=>by have:=(D.far z E).1;show ¬z.block=cb;omega),D.le,D.max,D.nil,fun z e=>⟨(D.far z e).1,qD (D.far z e).2.1 H.size,(D.far z e).2.2⟩⟩;rw[j9 _ _ _ _ (by intro E;cases E;exact K rfl)];exact D.cell
theorem CF.setGate (z:CF w N g cb na ncap pv s)(kb:List UInt8)(per:Int){H:oA}{I:Nat}{ns:List Int}(ab:AR w H ns)(V:ns.length<=I)(Y:I<=maxLen)(ac:H=none->ns=[]/\I=0)(J:∀ h,H=some h->N<=h.block/\h.block<w.heap.size/\pv.ownBlock≠some h.block){w':World}
  (D:But (fun k=>k=g) w w') (E:∀ i,i<5->w'.cell? ⟨g,i,none⟩=(#[.slice (some ⟨cb,0,none⟩) 8 8,Ad kb,.int .i64 per,.slice H ns.length I,pv]:Array Value)[i]?) (W:∀ i,w'.frozen? ⟨g,i,none⟩=false) :
  CF w' N g cb H I pv { s with kb:=kb,per:=per,ns:=ns }/\But (NZ N g cb) w w':=by
 have ai:=z.gN;have ad:=qD z.cN z.wN;refine⟨⟨z.gN,z.cN,z.ne,qI z.wN D.size,E 0 (by omega),E 1 (by omega),E 2 (by omega),E 3 (by omega),E 4 (by omega),W,fun i=>by rw[D.frozen (p:=⟨cb,i,none⟩) ad z.ne.symm];exact z.fc i,Dw ab D (fun h K=>by have:=(J h K).1;show ¬h.block=g;omega),V,Y,ac,(fun h e=>⟨(J h e).1,qD (J h e).2.1 D.size,(J h e).2.2⟩),C9 z.pks D (fun k O=>by have:=(Aq z.pks O).1;show ¬k=g;omega),fun i Z U=>?_⟩,D.mono fun k O=>.inl O⟩;obtain⟨a,cap,Q⟩:=z.curves i Z U;exact⟨a,cap,Q.but D z.ne.symm fun h K=>by have:=(Q.far h K).1;show ¬h.block=g;omega⟩
theorem CF.setPks (z:CF w N g cb na ncap pv s){pv':Value}{ps:List Pk}{J w':World}(K:But (fun k=>pv.ownBlock=some k) w J)(ad:BD J N pv' ps)(al:∀ k,pv'.ownBlock=some k->pv.ownBlock=some k\/w.heap.size<=k)
  (aj:w'=J.setCell ⟨g,4,none⟩ pv'):CF w' N g cb na ncap pv' { s with ps:=ps }/\But (NZ N g cb) w w':=by
 subst aj;have ar:=z.gN;have av:=z.cN;have ap:=z.wN;have ao:=z.ne;have ab:g<w.heap.size:=by omega
 have ai:cb<w.heap.size:=by omega
 have O:∀ k,pv.ownBlock=some k->N<=k/\k<w.heap.size:=fun k E=>Aq z.pks E
 have an:∀ k,pv'.ownBlock=some k->N<=k:=fun k E=>(Aq ad E).1
 have I:But (fun k=>k=g\/pv.ownBlock=some k) w (J.setCell ⟨g,4,none⟩ pv'):=But.setCell (p:=⟨g,4,none⟩) (K.mono fun k E=>.inr E) (.inl rfl) _;have V:¬pv.ownBlock=some g:=fun E=>by have:=(O g E).1;omega
 have U:¬pv.ownBlock=some cb:=fun E=>by have:=(O cb E).1;omega
 have Y:∀ i,J.cell? ⟨g,i,none⟩=w.cell? ⟨g,i,none⟩:=fun i=>K.cell (p:=⟨g,i,none⟩) ab V
 have e:∀ i,i≠4->(J.setCell ⟨g,4,none⟩ pv').cell? ⟨g,i,none⟩=w.cell? ⟨g,i,none⟩:=fun i Q=>by
  rw[j9 _ _ _ _ (by intro D;cases D;exact Q rfl)];exact Y i
 have far:∀ h:Addr,N<=h.block->h.block<w.heap.size->pv.ownBlock≠some h.block->¬(h.block=g\/pv.ownBlock=some h.block)/\pv'.ownBlock≠some h.block:=fun h aw aq ac=>by
  refine⟨fun q=>?_,fun q=>?_⟩
  ·
   rcases q with q|q
   · omega
   exact ac q
  rcases al _ q with q'|q'
  · exact ac q'
  omega
 have W:∀ h,na=some h->¬(h.block=g\/pv.ownBlock=some h.block)/\pv'.ownBlock≠some h.block:=fun h D=>far h (z.nfar h D).1 (z.nfar h D).2.1 (z.nfar h D).2.2
 refine⟨⟨z.gN,z.cN,z.ne,qI z.wN I.size,(e 0 (by omega)).trans z.c0,(e 1 (by omega)).trans z.c1,(e 2 (by omega)).trans z.c2,(e 3 (by omega)).trans z.c3,qT _ _ _ (by rw[Y,z.c4];rfl),fun i=>?_,fun i=>?_,Dw z.nums I (fun h D=>(W h D).1),z.nle,z.nmax,z.nnil,(fun h D=>⟨(z.nfar h D).1,qD (z.nfar h D).2.1 I.size,(W h D).2⟩),?_,fun i am Q=>?_⟩,?_⟩
 · rw[qK,K.frozen (p:=⟨g,i,none⟩) ab V];exact z.fg i
 · rw[qK,K.frozen (p:=⟨cb,i,none⟩) ai U];exact z.fc i
 · exact C9 ad (S:=fun k=>k=g) (But.setCell (p:=⟨g,4,none⟩) (But.refl (fun k=>k=g) J) rfl _) fun k E=>by have:=an k E;show ¬k=g;omega
 ·
  obtain⟨a,cap,H⟩:=z.curves i am Q;have Z:∀ h,a=some h->¬(h.block=g\/pv.ownBlock=some h.block)/\pv'.ownBlock≠some h.block:=fun h D=>far h (H.far h D).1 (H.far h D).2.1 (H.far h D).2.2
  refine⟨a,cap,?_,Ex H.lies I (fun h D=>(Z h D).1),H.le,H.max,H.nil,fun h D=>⟨(H.far h D).1,qD (H.far h D).2.1 I.size,(Z h D).2⟩⟩;rw[I.cell (p:=⟨cb,i,none⟩) ai (fun q=>by rcases q with q|q;exact ao q.symm;exact U q)];exact H.cell
 refine I.mono fun k E=>?_
 rcases E with E|E
 · exact .inl E
 exact .inr (.inr (O k E).1)
theorem CF.far (h:CF w N g cb na ncap pv s){b:Nat}(U:b<N)(O:b≠g)(K:b≠cb)(i:Nat)(u:Value):CF (w.setCell ⟨b,i,none⟩ u) N g cb na ncap pv s:=by
 have E:But (fun k=>k=b) w (w.setCell ⟨b,i,none⟩ u):=But.setCell (p:=⟨b,i,none⟩) (But.refl (fun k=>k=b) w) rfl _;have W:=h.gN;have Y:=h.cN;have V:=h.wN;have H:∀ z,(w.setCell ⟨b,i,none⟩ u).cell? ⟨g,z,none⟩=w.cell? ⟨g,z,none⟩:=fun z=>E.cell (p:=⟨g,z,none⟩) (by show g<_;omega) (fun e=>O e.symm)
 refine⟨h.gN,h.cN,h.ne,qI h.wN E.size,(H 0).trans h.c0,(H 1).trans h.c1,(H 2).trans h.c2,(H 3).trans h.c3,(H 4).trans h.c4,fun z=>by rw[qK];exact h.fg z,fun z=>by rw[qK];exact h.fc z,Dw h.nums E (fun D e=>by have:=(h.nfar D e).1;show ¬D.block=b;omega),h.nle,h.nmax,h.nnil,(fun D e=>⟨(h.nfar D e).1,qD (h.nfar D e).2.1 E.size,(h.nfar D e).2.2⟩),C9 h.pks E (fun k J=>by have:=(Aq h.pks J).1;show ¬k=b;omega),fun z ls Q=>?_⟩;obtain⟨a,cap,I⟩:=h.curves z ls Q;exact⟨a,cap,I.but E (fun e=>K e.symm) fun D e=>by have:=(I.far D e).1;show ¬D.block=b;omega⟩
end
structure Site (w0:World)(ad:Nat->Addr)(N g cb:Nat):Prop where
 env:Env w0 ad
 bg:w0.heap.size<=g
 bc:w0.heap.size<=cb
 bN:w0.heap.size<=N
theorem Site.later {w0 w w':World}{I:Nat->Addr}{D g E:Nat}(z:Site w0 I D g E)(H:zW w0 w)(J:But (NZ D g E) w w'):zW w0 w':=
 H.trans (J.below H.size fun k h=>by
  have O:=z.bg;have K:=z.bc;have N:=z.bN;rcases h with h | h | h <;> omega)
def AU (w:World)(h g H:Nat)(s:Scr):Prop:=∃ z E D,CF w h g H z E D s
theorem AU.below {w w':World}{z g D:Nat}{s:Scr}(h:AU w z g D s)(E:zW w w'):AU w' z g D s:=by
 obtain⟨H,J,I,h⟩:=h;exact⟨H,J,I,h.below E⟩
def BK (h g z:Nat)(s s1:Scr)(c:Int)(w:World)(e:Ending)(w':World):Prop:=
 ∃ D p,e=.returned D/\Ba w' D c p/\But (NZ h g z) w w'/\((c=0/\AU w' h g z s1)\/(c≠0/\AU w' h g z s))
theorem FN {z g E:Nat}{s s1:Scr}{c p:Int}{w w':World}{h:Value}(I:AU w z g E s)(D:zW w w')(J:Ba w' h c p)(H:c≠0):BK z g E s s1 c w (.returned h) w':=⟨h,p,rfl,J,.ofBelow D,.inr ⟨H,I.below D⟩⟩
theorem WQ (z n:Nat)(I:1<=n)(J:n<=1000):∃ D m,(∀ h:World,(Instr.slice 24 (.slice (some ⟨z,0,none⟩) n n) (some (.int .i64 1)) none none).run Tryz.prog h=.ok (.slice D m m) h)/\m=n-1/\(2<=n->D=some ⟨z,1,none⟩):=by
 by_cases E:n=1
 · subst E;exact⟨some ⟨z,0,none⟩,0,fun h=>by kernel_rfl,rfl,fun I=>by omega⟩
 refine⟨some ⟨z,1,none⟩,n-1,fun h=>?_,rfl,fun _=>rfl⟩;have H:(sizeOf (Tryz.prog.elem 24)).run Tryz.prog h=.ok 1 h:=by kernel_rfl
 rw[run_slice_l h 24 (some ⟨z,0,none⟩) n n (by kernel_rfl) .i64 1 (by decide) (by omega),H];simp[Result.andThen,sliced,Addr.add]
 exact E
theorem Tq {ws:List (List UInt8)}{ls:lI}(h:Er ws=some ls):ls.length<=ws.length:=by
 unfold Er at h;split at h
 · cases h
 obtain⟨ns,z,rfl⟩:=xD.1 h;rw[GN,EZ z];omega
theorem P9 {w:World}{z:Nat}{ws:List (List UInt8)}{E:oA}(D:CO w (some ⟨z,0,none⟩) ws)(h:2<=ws.length->E=some ⟨z,1,none⟩):CO w E ws.tail:=by
 match ws,D,h with
 | [],_,_=>exact .inl rfl
 | [_],_,_=>exact .inl rfl
 | x::y::r,D,h=>
  obtain⟨b,N,e,K,H⟩:=D.place (by simp);cases e
  rw[h (by simp)];refine .inr ⟨z,1,rfl,K,fun i J I=>?_⟩;have:=H (i+1) J (by simpa using I);rwa[show 0+(i+1)=1+i by omega]at this
section
variable (w0:World) (ad:Nat → Addr) (N g cb:Nat) (hS:Site w0 ad N g cb) (s:Scr) (w:World) (hw:Below w0.heap.size w0 w) (hp:AU w N g cb s) (ho:Bq s)
 (wb:Nat) (ws:List (List UInt8)) (hl:CO w (some ⟨wb,0,none⟩) ws) (hs:Fb ws)
theorem Vk (w0:World)(O:Nat->Addr)(I g D:Nat)(bw:Site w0 O I g D)(s:Scr)(w:World)(bq:zW w0 w)(K:AU w I g D s)(bj:Bq s)(a3:Nat)(ws:List (List UInt8))(a4:CO w (some ⟨a3,0,none⟩) ws)(al:Fb ws)(a8:1<=ws.length)(c:Int)(s1:Scr)(ar:Nj s ws c s1):Calls Tryz.prog 70 #[.pointer (some ⟨g,0,none⟩),.slice (some ⟨a3,0,none⟩) ws.length ws.length] w fun e w'=>BK I g D s s1 c w e w':=by
 have aN:=bw.env.below bq;obtain⟨x,r,rfl⟩:∃ x r,ws=x::r:=by
  cases ws with
  | nil=>simp at a8
  | cons x r=>exact⟨x,r,rfl⟩
 have cj:w.cell? ⟨a3,0,none⟩=some (Ad x):=by
  obtain⟨b,ck,e,-,ar⟩:=a4.place a8;cases e
  exact ar 0 x rfl
 obtain⟨n,aj⟩:=ex ((x::r).length);obtain⟨bs,m,cm,bv,bp⟩:=WQ a3 n (by omega) (by rw[<- aj];exact al.1);have bd:r.length=m:=by rw[bv,<- aj];simp
 have bh:Hid (Calls Tryz.prog 88 #[Ad x] w fun e w'=>CG (O 0) (Em x) w e w'):=Ot ⟨x.toArray⟩ w (O 0) aN.errs.c0 (by have:=al.2 x (by simp);show x.toArray.size<=_;simp;omega);have bm:Hid (∀ z,zW w z->Calls Tryz.prog 89 #[.slice bs m m] z fun e w'=>Lb (O 0) (Er r) z e w'):=fun z V=>by
  have b2:=P9 (ws:=x::r) (a4.below V) (by rw[aj];exact bp);have:=SV bs m r z (O 0) (aN.below V).errs.c0 b2 ⟨by have:=al.1;simp at this;omega,fun y b0=>al.2 y (qG _ b0)⟩;rwa[bd]at this
 have cl:0<n:=by rw[<- aj];simp
 have b3:r.length<=1000:=by have:=al.1;simp at this;omega
 have aB:=qX K;have bx:=qX bj;have a':=qX aN;have a6:=qX ar;rw[aj];clear a4 al aN ar aj bv bp bd a8 K bj bq bw;go_in
 go_wp2_with fail;refine bh.o.mono ?_
 rintro e bk ⟨ap,⟨ai,rfl⟩|⟨f,ai,rfl⟩⟩
 ·
  have N:Hid (BK I g D s s1 c w (.returned (.iface 308 (.pointer (some (O 0))))) bk):=by
   obtain⟨-,rfl,-⟩|⟨a1,ac,-⟩:=a6.o
   · exact FN aB.o ap (Bo (a'.o.below ap).errs 0 (by decide)) (by decide)
   have h:Em x=some a1:=ac;rw[ai]at h;cases h
  clear ai ap;go_wp2
  go_ret;exact N.o
 have b6:0<=f/\f<8:=by
  unfold Em at ai;obtain⟨cf,-,a5⟩:=Option.bind_eq_some_iff.1 ai;split at a5
  · rename_i h8;cases a5;exact h8
  cases a5
 have U:=qY ap ai;clear ai ap;go_wp2_with fail;refine(bm.o bk U.o.1).mono ?_
 rintro e Q ⟨av,⟨ab,rfl⟩|⟨ls,G,ab,rfl,bg,bc,a7⟩⟩
 ·
  have N:Hid (BK I g D s s1 c w (.returned (.iface 308 (.pointer (some (O 0))))) Q):=by
   have W:=U.o.1.tr av;obtain⟨ac,-⟩|⟨a1,-,⟨-,rfl,-⟩|⟨aq,Y,-⟩⟩:=a6.o
   · have h:Em x=none:=ac;rw[U.o.2]at h;cases h
   · exact FN aB.o W (Bo (a'.o.below W).errs 0 (by decide)) (by decide)
   have h:Er r=some aq:=Y;rw[ab]at h;cases h
  clear ab av;go_wp2
  go_ret;exact N.o
 have W:=U.o.1.tr av;obtain⟨hs1,bN⟩:s1={ s with cs:=s.cs.set f.toNat ls }/\((ls=[]/\c=0)\/(ls≠[]/\∃ p,Ch ls c p)):=by
  obtain⟨ac,-⟩|⟨a1,ac,⟨Y,-⟩|⟨aq,Y,b4,cc⟩⟩:=a6.o
  · have h:Em x=none:=ac;rw[U.o.2]at h;cases h
  · have h:Er r=none:=Y;rw[ab]at h;cases h
  have h:Em x=some a1:=ac;rw[U.o.2]at h;obtain rfl:=Option.some.inj h;have h:Er r=some aq:=Y;rw[ab]at h;obtain rfl:=Option.some.inj h;exact⟨b4,cc⟩
 obtain⟨H,rfl⟩:∃ H:Nat,f=H:=⟨f.toNat,by omega⟩
 have bb:H<8:=by omega
 have aw:ls.length<=maxLen:=by
  have:=Tq ab;have:=b3;unfold maxLen;omega
 obtain⟨b7,b5,b8,K⟩:=aB.o;have be:w.heap.size<=G:=qI U.o.1.size bg;have am:Hid (∀ z,zW Q z->z.cell? ⟨g,0,none⟩=some (.slice (some ⟨D,0,none⟩) 8 8)/\(∃ u,z.cell? ⟨D,H,none⟩=some u)/\z.frozen? ⟨D,H,none⟩=false/\(c=0->BK I g D s s1 c w (.returned .nilIface) (z.setCell ⟨D,H,none⟩ (.slice (some ⟨G,0,none⟩) ls.length ls.length)))):=fun z V=>by
  have bl:=W.tr V;have a0:=K.below bl;obtain⟨aq,Y,-⟩:=Ab s.cs H (by rw[bx.o.gate.len];exact bb);obtain⟨ch,ci,cd⟩:=a0.curves H aq Y;refine⟨a0.c0,⟨_,cd.cell⟩,a0.fc H,fun ad=>?_⟩;obtain⟨b1,b9⟩:=a0.setCurve bb bx.o.gate.len (ls:=ls) (G:=G) (qI K.wN be) (qD bc V.size) (fun an=>by have:=(Aq K.pks an).2;omega) (a7.below V) aw;subst ad;exact⟨.nilIface,-1,rfl,DK _,(But.ofBelow bl).trans b9,.inl ⟨rfl,b7,b5,b8,by rw[hs1];simpa using b1⟩⟩
 have bT:Hid (∀ z J p,zW Q z->Ba z J c p->c≠0->BK I g D s s1 c w (.returned J) z):=fun z J p V Z E=>FN aB.o (W.tr V) Z E
 have bt:Hid (∀ p,Ch ls c p->Calls Tryz.prog 61 #[.slice (some ⟨G,0,none⟩) ls.length ls.length] Q fun e w'=>∃ J,e=.returned J/\Ba w' J c p/\zW Q w'):=fun p K=>UH _ _ ls Q O (a'.o.below W).errs a7 lr aw c p K
 obtain⟨k,an⟩:=ex ls.length;rw[an]at am bt aw ⊢;have aE:(ls=[]↔k=0):=by rw[<- an];exact List.length_eq_zero_iff.symm
 unfold maxLen at aw;clear ab av W hs1 K be bc bg a7 an b6 U bm bh;rcases bN with⟨ad,E⟩|⟨ad,p,a9⟩
 ·
  obtain rfl:=aE.1 ad;obtain⟨cb,⟨u,b'⟩,ca,ao⟩:=am.o Q br;have N:=(show Hid (BK I g D s s1 c w (.returned .nilIface) (Q.setCell ⟨D,H,none⟩ (.slice (some ⟨G,0,none⟩) 0 0)))from ao E)
  clear ad aE ao am E;go_wp2
  go_ret;exact N.o
 have ce:0<k:=Nat.pos_of_ne_zero fun e=>ad (aE.2 e)
 clear ad aE;go_wp2_with fail;refine(bt.o p a9).mono ?_
 rintro e a2 ⟨J,rfl,Z,aS⟩;by_cases E:c=0
 ·
  obtain rfl:=Z.none_ E;obtain⟨cb,⟨u,b'⟩,ca,ao⟩:=am.o a2 aS;have N:=(show Hid (BK I g D s s1 c w (.returned .nilIface) (a2.setCell ⟨D,H,none⟩ (.slice (some ⟨G,0,none⟩) k k)))from ao E)
  clear Z aS ao am E a9;go_wp2
  go_ret;exact N.o
 have N:=(show Hid (BK I g D s s1 c w (.returned J) a2)from bT.o a2 J p aS Z E)
 obtain⟨cg,v,rfl⟩:=Z.some_ E;clear Z aS am E a9;go_wp2
 go_ret;exact N.o
end
def E8 (per:Int)(ps:List Pk)(h:List Int)(B:Nat)(w:World)(v:Value)(w':World):Prop:=∃ l,DX w' w.heap.size v l/\EE per ps h l/\l.length=ps.length/\Below B w w'
theorem Ox (a:oA)(cap:Nat)(ps:List Pk)(per:Int)(D:List Int)(B:Nat)(E:World)(g z f:Nat)(N O:Value)(Z:Nat->Prop)(w:World)(aj:Aw w a ps)(J:Al ps)(an:1<=per)(ar:per<=1000)(aw:∀ W,a=some W->0<ps.length->W.block<B)(Q:BX B E g z (.func (.func f) #[] #[N,O]) w Z [])
  (ao:∀ args H,Sem.run Tryz.prog (callFunc f args) H=.ok (.enter f args) H)
  (aE:∀ H k,Below B E H->k<ps.length->Calls Tryz.prog f #[.int .i64 ((k:Nat):Int),N,O] H fun e w'=>e=.returned (.int .i64 (D.getD k 0))/\∃ m,w'=H.drewN m) :
  Calls Tryz.prog 159 #[.slice a ps.length cap,.int .i64 per,.iface 256 (Gg g z)] w fun e w'=>∃ v,e=.returned v/\E8 per ps D B w v w':=by
 have U:=Zo D;have ac:=Qf (per:=per) (ps:=ps) U (by omega) J;have aB:B<=w.heap.size:=by
  obtain⟨v,am,-⟩:=Q.row;exact qI Q.apart.2.1 (x9 (xR am))
 have Y:∀ s,Reaches (waits fun i=>D.getD i 0) per ps [] s->s.q.length<=1000:=fun s h=>by
  have aS:=h.count ac;have ab:=h.next_le;have:=J.few;have:(waits fun i=>D.getD i 0).rest s.q=s.q.length:=rfl;omega
 refine(PW (waits fun i=>D.getD i 0) (BX B E g z (.func (.func f) #[] #[N,O])) per ps [] B _ _ _ (iZ B E g z _) ac J an ar ?_ ?_ ?_ a cap w aj aB aw Z Q).mono ?_
 · intro w I s p h a0 K;exact Tw B E g z _ I s.q s.next w K (Y s h)
 · intro w I s h al K;have V:=NP U (by omega) J h;exact TZ B E g z f N O (fun i=>D.getD i 0) ps.length I s.q w K (Y s h) al (fun k aq=>by have:=((V.wait k).1 aq).1;have:=V.le;omega) ao aE
 · intro w I s h K;rw[MK _ (fun _=>rfl)];exact Um B E g z _ I s.q w K
 rintro e w' ⟨s,v,rfl,h,ab,ap,ai,ad⟩;obtain⟨aN,av⟩:=Xa U (by omega) J h ab ap;exact⟨v,rfl,s.out,ai,aN,av,ad⟩
structure Boxed (w W:World)(p q:Value):Prop where
 below:zW w W
 c1:W.cell? ⟨w.heap.size,0,none⟩=some p
 c2:W.cell? ⟨w.heap.size+1,0,none⟩=some q
 lt:w.heap.size+2<=W.heap.size
theorem IA (w:World)(p q:Value)(t u:TypeId):Boxed w ((w.alloc (.cells #[p] t)).alloc (.cells #[q] u)) p q:=by
 have h:(w.alloc (.cells #[p] t)).heap.size=w.heap.size+1:=by simp
 refine⟨ba.alloc (by rw[h];omega) _,j7 ba (by simp),?_,by simp⟩;rw[qO _ _ _ _ h.symm];rfl
theorem Boxed.later {w D E:World}{p q:Value}(h:Boxed w D p q)(z:zW D E):Boxed w E p q:=
 ⟨h.below.tr z,j7 z h.c1,j7 z h.c2,qI h.lt z.size⟩
theorem E8.from {per:Int}{ps:List Pk}{D:List Int}{B:Nat}{w z w':World}{v:Value}(N:E8 per ps D B z v w')(h:zW w z)(H:w.heap.size<=B):E8 per ps D w.heap.size w v w':=by
 obtain⟨l,J,E,I,K⟩:=N;exact⟨l,Bb J h.size,E,I,h.trans (K.mono H)⟩
theorem dW (args:Array Value)(h:World):Sem.run Tryz.prog (callFunc 162 args) h=.ok (.enter 162 args) h:=by kernel_rfl
theorem QH (args:Array Value)(h:World):Sem.run Tryz.prog (callFunc 164 args) h=.ok (.enter 164 args) h:=by kernel_rfl
theorem TP (a:oA)(cap:Nat)(ps:List Pk)(per:Int)(H:oA)(J:Nat)(ns:List Int)(w h D:World)(K:Nat->Prop)(U:Aw w a ps)(ad:AR w H ns)(N:Al ps)(ab:1<=per)(ac:per<=1000)(Y:ns.length=8)(z:Boxed w h (.slice a ps.length cap) (.slice H ns.length J))
  (W:BX h.heap.size h (h.heap.size+1) h.heap.size (.func (.func 162) #[] #[.pointer (some ⟨w.heap.size+1,0,none⟩),.pointer (some ⟨w.heap.size,0,none⟩)]) D K []) (Q:zW h D) :
  Calls Tryz.prog 159 #[.slice a ps.length cap,.int .i64 per,.iface 256 (Gg (h.heap.size+1) h.heap.size)] D fun e w'=>∃ v,e=.returned v/\E8 per ps (Bz ps ns) w.heap.size w v w':=by
 have I:=U.below z.below;refine(Ox a cap ps per (Bz ps ns) h.heap.size h _ _ 162 _ _ K D (I.below Q) N ab ac I.at_lt W dW (fun Z k E O=>?_)).mono ?_
 · rw[Nw O];exact iw ps ns w.heap.size (w.heap.size+1) a cap H J Z k ((z.later E).c1) ((z.later E).c2) (I.below E) ((ad.below z.below).below E) N Y O
 rintro e w' ⟨v,rfl,V⟩;exact⟨v,rfl,V.from (z.below.tr Q) z.below.size⟩
theorem Tg (a:oA)(cap:Nat)(ps:List Pk)(per:Int)(H:oA)(J:Nat)(ns:List Int)(w h D:World)(K:Nat->Prop)(U:Aw w a ps)(ad:AR w H ns)(N:Al ps)(ab:1<=per)(ac:per<=1000)(Y:DF 0 1099511627776 ns)(z:Boxed w h (.slice a ps.length cap) (.slice H ns.length J))
  (W:BX h.heap.size h (h.heap.size+1) h.heap.size (.func (.func 164) #[] #[.pointer (some ⟨w.heap.size,0,none⟩),.pointer (some ⟨w.heap.size+1,0,none⟩)]) D K []) (Q:zW h D) :
  Calls Tryz.prog 159 #[.slice a ps.length cap,.int .i64 per,.iface 256 (Gg (h.heap.size+1) h.heap.size)] D fun e w'=>∃ v,e=.returned v/\E8 per ps (BP ps ns) w.heap.size w v w':=by
 have I:=U.below z.below;refine(Ox a cap ps per (BP ps ns) h.heap.size h _ _ 164 _ _ K D (I.below Q) N ab ac I.at_lt W QH (fun Z k E O=>?_)).mono ?_
 · rw[Od O];exact jL ps ns w.heap.size (w.heap.size+1) a cap H J Z k ((z.later E).c1) ((z.later E).c2) (I.below E) ((ad.below z.below).below E) N Y O
 rintro e w' ⟨v,rfl,V⟩;exact⟨v,rfl,V.from (z.below.tr Q) z.below.size⟩
theorem YM (a:oA)(cap:Nat)(ps:List Pk)(per:Int)(H:oA)(I:Nat)(ns:List Int)(w:World)(N:Aw w a ps)(Y:AR w H ns)(Q:Al ps)(ad:1<=per)(ai:per<=1000)(U:DF 0 100 ns):Calls Tryz.prog 133 #[.slice a ps.length cap,.int .i64 per,.slice H ns.length I] w fun e w'=>∃ v,e=.returned (.tuple #[v,.nilIface])/\E8 per ps (Bz ps ns) w.heap.size w v w':=by
 have aj:=IA w (.slice a ps.length cap) (.slice H ns.length I) 42 27;have ab:=qX aj;obtain⟨-,a2,aw,-⟩:=aj;have aN:Hid (∀ z,zW w z->qW 158 #[.slice a ps.length cap,.int .i64 per] z .nilIface):=fun z D=>Dq a cap ps per z (N.below D) Q ad ai
 have av:Hid (∀ z,zW w z->qW 161 #[.slice H ns.length I,.int .i64 100] z .nilIface):=fun z D=>M7 H I ns 100 z (Y.below D) U
 have aE:Hid (∀ z E J,Boxed w z (.slice a ps.length cap) (.slice H ns.length I) -> BX z.heap.size z (z.heap.size+1) z.heap.size (.func (.func 162) #[] #[.pointer (some ⟨w.heap.size+1,0,none⟩),.pointer (some ⟨w.heap.size,0,none⟩)]) E J [] -> zW z E ->
   Calls Tryz.prog 159 #[.slice a ps.length cap,.int .i64 per,.iface 256 (Gg (z.heap.size+1) z.heap.size)] E fun e w'=>∃ v,e=.returned v /\ E8 per ps (Bz ps ns) w.heap.size w v w'):=fun z E J aq O Z=>TP a cap ps per H I ns w z E J N Y Q ad ai U.len aq O Z
 clear N Y Q U;generalize a0:ps.length=n at *;generalize a3:ns.length=m at *;clear a0 a3;go_in
 go_wp2_with fail;refine(aN.o _ ab.o.below).mono ?_
 rintro e a5 ⟨rfl,D⟩;have K:=qX (ab.o.later D);have a1:=K.o.c1;have ap:=K.o.c2;clear D a2 aw;go_wp2_with fail;refine(av.o _ K.o.below).mono ?_
 rintro e h ⟨rfl,D⟩;have V:=qX (K.o.later D);have a4:=V.o.c1;have a6:=V.o.c2;clear D a1 ap;have aS:Hid (Calls Tryz.prog 163 #[.func (.func 162) #[] #[.pointer (some ⟨w.heap.size+1,0,none⟩),.pointer (some ⟨w.heap.size,0,none⟩)]] h.drew fun e w'=>e=.returned (.iface 256 (Gg (h.heap.size+1) h.heap.size))/\BX h.heap.size h.drew (h.heap.size+1) h.heap.size (.func (.func 162) #[] #[.pointer (some ⟨w.heap.size+1,0,none⟩),.pointer (some ⟨w.heap.size,0,none⟩)]) w' (fun k=>k=h.heap.size+1\/k=h.heap.size) []/\Below h.heap.size h.drew w'):=KX _ 162 _ _ rfl h.drew;have am:Hid (Boxed w h.drew (.slice a n cap) (.slice H m I)):=V.o.later (qL br 1);have an:Hid (∀ E J,BX h.heap.size h.drew (h.heap.size+1) h.heap.size (.func (.func 162) #[] #[.pointer (some ⟨w.heap.size+1,0,none⟩),.pointer (some ⟨w.heap.size,0,none⟩)]) E J [] -> Below h.heap.size h.drew E ->
   Calls Tryz.prog 159 #[.slice a n cap,.int .i64 per,.iface 256 (Gg (h.heap.size+1) h.heap.size)] E fun e w'=>∃ v,e=.returned v /\ E8 per ps (Bz ps ns) w.heap.size w v w'):=fun E J O Z=>aE.o h.drew E J am.o O Z
 go_wp2_with fail;go_region_with (first
  | (go_simp;go_at_call 163;go_must (refine aS.o.mono ?_;rintro e W ⟨rfl,al,D⟩;have a7:W.cell? ⟨w.heap.size,0,none⟩=some (.slice a n cap):=(am.o.later D).c1;have ao:Hid (Calls Tryz.prog 159 #[.slice a n cap,.int .i64 per,.iface 256 (Gg (h.heap.size+1) h.heap.size)] W fun e w'=>∃ v,e=.returned v/\E8 per ps (Bz ps ns) w.heap.size w v w'):=an.o W _ al D;clear al D))
  | (go_simp;go_at_call 159;go_must (refine ao.o.mono ?_;rintro e aB ⟨v,rfl,ac⟩;have ar:Hid (E8 per ps (Bz ps ns) w.heap.size w v aB):=ac;clear ac))
  | fail)
 all_goals (go_wp2_with fail)
 all_goals (go_ret2;exact⟨v,rfl,ar.o⟩)
theorem YI (a:oA)(cap:Nat)(ps:List Pk)(per:Int)(H:oA)(I:Nat)(ns:List Int)(w:World)(N:Aw w a ps)(Y:AR w H ns)(Q:Al ps)(ad:1<=per)(ai:per<=1000)(U:DF 0 1099511627776 ns):Calls Tryz.prog 134 #[.slice a ps.length cap,.int .i64 per,.slice H ns.length I] w fun e w'=>∃ v,e=.returned (.tuple #[v,.nilIface])/\E8 per ps (BP ps ns) w.heap.size w v w':=by
 have aj:=IA w (.slice a ps.length cap) (.slice H ns.length I) 42 27;have ab:=qX aj;obtain⟨-,a2,aw,-⟩:=aj;have aN:Hid (∀ z,zW w z->qW 158 #[.slice a ps.length cap,.int .i64 per] z .nilIface):=fun z D=>Dq a cap ps per z (N.below D) Q ad ai
 have av:Hid (∀ z,zW w z->qW 161 #[.slice H ns.length I,.int .i64 1099511627776] z .nilIface):=fun z D=>M7 H I ns 1099511627776 z (Y.below D) U
 have aE:Hid (∀ z E J,Boxed w z (.slice a ps.length cap) (.slice H ns.length I) -> BX z.heap.size z (z.heap.size+1) z.heap.size (.func (.func 164) #[] #[.pointer (some ⟨w.heap.size,0,none⟩),.pointer (some ⟨w.heap.size+1,0,none⟩)]) E J [] -> zW z E ->
   Calls Tryz.prog 159 #[.slice a ps.length cap,.int .i64 per,.iface 256 (Gg (z.heap.size+1) z.heap.size)] E fun e w'=>∃ v,e=.returned v /\ E8 per ps (BP ps ns) w.heap.size w v w'):=fun z E J aq O Z=>Tg a cap ps per H I ns w z E J N Y Q ad ai U aq O Z
 clear N Y Q U;generalize a0:ps.length=n at *;generalize a3:ns.length=m at *;clear a0 a3;go_in
 go_wp2_with fail;refine(aN.o _ ab.o.below).mono ?_
 rintro e a5 ⟨rfl,D⟩;have K:=qX (ab.o.later D);have a1:=K.o.c1;have ap:=K.o.c2;clear D a2 aw;go_wp2_with fail;refine(av.o _ K.o.below).mono ?_
 rintro e h ⟨rfl,D⟩;have V:=qX (K.o.later D);have a4:=V.o.c1;have a6:=V.o.c2;clear D a1 ap;have aS:Hid (Calls Tryz.prog 163 #[.func (.func 164) #[] #[.pointer (some ⟨w.heap.size,0,none⟩),.pointer (some ⟨w.heap.size+1,0,none⟩)]] h.drew fun e w'=>e=.returned (.iface 256 (Gg (h.heap.size+1) h.heap.size))/\BX h.heap.size h.drew (h.heap.size+1) h.heap.size (.func (.func 164) #[] #[.pointer (some ⟨w.heap.size,0,none⟩),.pointer (some ⟨w.heap.size+1,0,none⟩)]) w' (fun k=>k=h.heap.size+1\/k=h.heap.size) []/\Below h.heap.size h.drew w'):=KX _ 164 _ _ rfl h.drew;have am:Hid (Boxed w h.drew (.slice a n cap) (.slice H m I)):=V.o.later (qL br 1);have an:Hid (∀ E J,BX h.heap.size h.drew (h.heap.size+1) h.heap.size (.func (.func 164) #[] #[.pointer (some ⟨w.heap.size,0,none⟩),.pointer (some ⟨w.heap.size+1,0,none⟩)]) E J [] -> Below h.heap.size h.drew E ->
   Calls Tryz.prog 159 #[.slice a n cap,.int .i64 per,.iface 256 (Gg (h.heap.size+1) h.heap.size)] E fun e w'=>∃ v,e=.returned v /\ E8 per ps (BP ps ns) w.heap.size w v w'):=fun E J O Z=>aE.o h.drew E J am.o O Z
 go_wp2_with fail;go_region_with (first
  | (go_simp;go_at_call 163;go_must (refine aS.o.mono ?_;rintro e W ⟨rfl,al,D⟩;have a7:W.cell? ⟨w.heap.size,0,none⟩=some (.slice a n cap):=(am.o.later D).c1;have ao:Hid (Calls Tryz.prog 159 #[.slice a n cap,.int .i64 per,.iface 256 (Gg (h.heap.size+1) h.heap.size)] W fun e w'=>∃ v,e=.returned v/\E8 per ps (BP ps ns) w.heap.size w v w'):=an.o W _ al D;clear al D))
  | (go_simp;go_at_call 159;go_must (refine ao.o.mono ?_;rintro e aB ⟨v,rfl,ac⟩;have ar:Hid (E8 per ps (BP ps ns) w.heap.size w v aB):=ac;clear ac))
  | fail)
 all_goals (go_wp2_with fail)
 all_goals (go_ret2;exact⟨v,rfl,ar.o⟩)
theorem TV {R:TypeId->Value->World->Prop}(a:oA)(n cap:Nat)(per:Int)(z:oA)(m D:Nat)(w:World)(J:∀ H,Boxed w H (.slice a n cap) (.slice z m D)->Calls Tryz.prog 158 #[.slice a n cap,.int .i64 per] H fun e w'=>∃ h v,e=.returned (.iface h v)/\R h v w'):Calls Tryz.prog 133 #[.slice a n cap,.int .i64 per,.slice z m D] w fun e w'=>∃ h v,e=.returned (.tuple #[.slice none 0 0,.iface h v])/\R h v w':=by
 have E:=IA w (.slice a n cap) (.slice z m D) 42 27;have O:=qX E;obtain⟨-,V,Q,-⟩:=E;have K:=qX J;clear J;go_in
 go_wp2_with fail;refine(K.o _ O.o).mono ?_
 rintro e U ⟨h,v,rfl,I⟩;have N:=qX I;clear I;go_wp2
 go_ret2;exact⟨h,v,rfl,N.o⟩
theorem Uc {R:TypeId->Value->World->Prop}(a:oA)(n cap:Nat)(per:Int)(D:oA)(m E:Nat)(w:World)(J:∀ z,Boxed w z (.slice a n cap) (.slice D m E)->Calls Tryz.prog 158 #[.slice a n cap,.int .i64 per] z fun e w'=>e=.returned .nilIface/\zW z w')
  (N:∀ z,Boxed w z (.slice a n cap) (.slice D m E)->Calls Tryz.prog 161 #[.slice D m E,.int .i64 100] z fun e w'=>∃ h v,e=.returned (.iface h v)/\R h v w') :
  Calls Tryz.prog 133 #[.slice a n cap,.int .i64 per,.slice D m E] w fun e w'=>∃ h v,e=.returned (.tuple #[.slice none 0 0,.iface h v])/\R h v w':=by
 have O:=IA w (.slice a n cap) (.slice D m E) 42 27;have I:=qX O;obtain⟨-,Y,V,-⟩:=O;have W:=qX J;have U:=qX N;clear J N;go_in
 go_wp2_with fail;refine(W.o _ I.o).mono ?_
 rintro e ad ⟨rfl,H⟩;have Q:=qX (I.o.later H);have ab:=Q.o.c2;clear H Y V;go_wp2_with fail;refine(U.o _ Q.o).mono ?_
 rintro e ac ⟨h,v,rfl,K⟩;have Z:=qX K;clear K;go_wp2
 go_ret2;exact⟨h,v,rfl,Z.o⟩
theorem Tv {R:TypeId->Value->World->Prop}(a:oA)(n cap:Nat)(per:Int)(z:oA)(m D:Nat)(w:World)(J:∀ H,Boxed w H (.slice a n cap) (.slice z m D)->Calls Tryz.prog 158 #[.slice a n cap,.int .i64 per] H fun e w'=>∃ h v,e=.returned (.iface h v)/\R h v w'):Calls Tryz.prog 134 #[.slice a n cap,.int .i64 per,.slice z m D] w fun e w'=>∃ h v,e=.returned (.tuple #[.slice none 0 0,.iface h v])/\R h v w':=by
 have E:=IA w (.slice a n cap) (.slice z m D) 42 27;have O:=qX E;obtain⟨-,V,Q,-⟩:=E;have K:=qX J;clear J;go_in
 go_wp2_with fail;refine(K.o _ O.o).mono ?_
 rintro e U ⟨h,v,rfl,I⟩;have N:=qX I;clear I;go_wp2
 go_ret2;exact⟨h,v,rfl,N.o⟩
theorem TA {R:TypeId->Value->World->Prop}(a:oA)(n cap:Nat)(per:Int)(D:oA)(m E:Nat)(w:World)(J:∀ z,Boxed w z (.slice a n cap) (.slice D m E)->Calls Tryz.prog 158 #[.slice a n cap,.int .i64 per] z fun e w'=>e=.returned .nilIface/\zW z w')
  (N:∀ z,Boxed w z (.slice a n cap) (.slice D m E)->Calls Tryz.prog 161 #[.slice D m E,.int .i64 1099511627776] z fun e w'=>∃ h v,e=.returned (.iface h v)/\R h v w') :
  Calls Tryz.prog 134 #[.slice a n cap,.int .i64 per,.slice D m E] w fun e w'=>∃ h v,e=.returned (.tuple #[.slice none 0 0,.iface h v])/\R h v w':=by
 have O:=IA w (.slice a n cap) (.slice D m E) 42 27;have I:=qX O;obtain⟨-,Y,V,-⟩:=O;have W:=qX J;have U:=qX N;clear J N;go_in
 go_wp2_with fail;refine(W.o _ I.o).mono ?_
 rintro e ad ⟨rfl,H⟩;have Q:=qX (I.o.later H);have ab:=Q.o.c2;clear H Y V;go_wp2_with fail;refine(U.o _ Q.o).mono ?_
 rintro e ac ⟨h,v,rfl,K⟩;have Z:=qX K;clear K;go_wp2
 go_ret2;exact⟨h,v,rfl,Z.o⟩
end Go.Proofs.YtejlihcdfffafaaGreatDoor
