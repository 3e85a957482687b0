import Derived.Shelf.Slices.Delete
import Derived.Test.YtejlihcdfffafaaGreatDoorP09
import Derived.Deep.Slices
import Derived.Shelf.Strings.Cut
import Derived.Shelf.Strings.Split
import Derived.Shelf.Strings.OnBuilder
import Derived.Shelf.LaysM
import Derived.Shelf.Strconv.Itoa3
import Derived.Shelf.Bits.Mul64
import Derived.Shelf.Slices.Turned
import Derived.Shelf.SlSortCmp.WholeK
import Derived.Ground.SlsfProg
import Derived.Lib.OwnBridge
import Derived.HandedShaped
import Derived.Lib.AppendIntMem
import Derived.Shelf.Vars
import Derived.Deep.Strs
import Derived.Lay
import Derived.Deep.DeepHandedRow
set_option maxHeartbeats 1000000
set_option maxRecDepth 100000
namespace Go.Proofs.YtejlihcdfffafaaGreatDoor
open Go.RowKit
def jK:Go.Shelf.Ren where
 f:=fun _=>217
 t:=fun k=>match k with | 0=>0 | 3=>3 | 4=>4 | _=>27
 g:=fun k=>k
theorem iO:Go.Proofs.Lays2.n23 Tryz.prog jK where
 mixed:=by kernel_rfl
 f23:=by kernel_rfl
 t0:=by kernel_rfl
 a0:=fun w=>by kernel_rfl
 z0:=fun w=>by kernel_rfl
 v0:=fun w=>by kernel_rfl
 t3:=by kernel_rfl
 a3:=fun w=>by kernel_rfl
 z3:=fun w=>by kernel_rfl
 v3:=fun w=>by kernel_rfl
 t4:=by kernel_rfl
 a4:=fun w=>by kernel_rfl
 z4:=fun w=>by kernel_rfl
 v4:=fun w=>by kernel_rfl
 t22:=by kernel_rfl
 a22:=fun w=>by kernel_rfl
 z22:=fun w=>by kernel_rfl
 v22:=fun w=>by kernel_rfl
 i3:=by kernel_rfl
theorem Ml (B g cap i:Nat)(zs:List Int)(w:World)(h:w.ownsRow B 3 1 (.slice (some ⟨g,0,none⟩) zs.length cap) zs.length (ints zs))(H:i<zs.length)(E:zs.length<=cap)(z:cap<=maxLen):Calls Tryz.prog 217 #[.slice (some ⟨g,0,none⟩) zs.length cap,.int .i64 i,.int .i64 ((i:Int)+1)] w fun e w'=>e=.returned (.slice (some ⟨g,0,none⟩) (zs.length-1) cap)/\w'.ownsRow B 3 1 (.slice (some ⟨g,0,none⟩) (zs.length-1) cap) (zs.length-1) (ints (zs.eraseIdx i))/\But (fun k=>k=g) w w':=by
 have D:=Any.slices_Delete_int iO g 0 cap i (i+1) zs w (Td h) E (by unfold maxLen at z;omega) (by omega) (by omega);refine D.mono ?_
 rintro e w' ⟨rfl,q,rfl⟩;exact⟨by rw[show i+1-i=1 by omega],V4 h i q H⟩
def Ai (q:List Nat):List Int:=q.map fun(k:Nat)=>(k:Int)
theorem Am (q:List Nat):(Ai q).length=q.length:=by simp[Ai]
theorem Ky {q:List Nat}{j k:Nat}(h:q[j]? = some k):(Ai q)[j]? = some (k:Int):=by simp[Ai,h]
theorem DU (q:List Nat)(k:Nat):ints (Ai (q++[k]))=ints (Ai q)++[.int .i64 k]:=by simp[Ai,ints]
theorem Oj (L:List Nat)(i:Nat):Ai (L++[i])=Ai L++[(i:Int)]:=by simp[Ai]
theorem Nk (q:List Nat)(i:Nat):(Ai q).eraseIdx i=Ai (q.eraseIdx i):=by
 simp only[Ai,List.eraseIdx_eq_take_drop_succ,List.map_append,List.map_take,List.map_drop]
structure BX (B:Nat)(W0:World)(g gm:Nat)(mv:Value)(w:World)(D:Nat->Prop)(q:List Nat):Prop where
 env:Below B W0 w
 row:∃ v,w.heap[g]? = some (.cells #[v] 27 (0,0))/\w.ownsRow B 3 1 v q.length (ints (Ai q))/\v.ownBlock≠some g/\v.ownBlock≠some gm/\(∀ k,D k↔k=g\/k=gm\/v.ownBlock=some k)
 mea:w.heap[gm]? = some (.cells #[mv] 119 (0,0))
 apart:g≠gm/\B<=g/\B<=gm
section
variable {B:Nat} {W0:World} {g gm:Nat} {mv:Value} {w w':World} {D:Nat → Prop} {q:List Nat}
theorem BX.foot (h:BX B W0 g gm mv w D q):∀ k,D k->B<=k/\k<w.heap.size:=by
 obtain⟨v,I,E,-,-,H⟩:=h.row;intro k z;rcases(H k).1 z with rfl|rfl|z
 · exact⟨h.apart.2.1,xR I⟩
 · exact⟨h.apart.2.2,xR h.mea⟩
 exact Aq E z
theorem BX.but {S:Nat->Prop}(h:BX B W0 g gm mv w D q)(z:But S w w')(I:∀ k,D k->¬S k)(Q:∀ k,S k->B<=k):BX B W0 g gm mv w' D q:=by
 obtain⟨v,H,O,U,V,E⟩:=h.row;have J:B<=w.heap.size:=qI h.apart.2.1 (x9 (xR H));exact⟨h.env.trans (z.below J Q),⟨v,(z.block g (xR H) (I g ((E g).2 (.inl rfl)))).trans H,Ah O (fun k N K=>z.block k K (I k ((E k).2 (.inr (.inr N))))),U,V,E⟩,(z.block gm (xR h.mea) (I gm ((E gm).2 (.inr (.inl rfl))))).trans h.mea,h.apart⟩
theorem BX.later (h:BX B W0 g gm mv w D q)(z:zW w w'):BX B W0 g gm mv w' D q:=
 h.but (S:=fun _=>False) (.ofBelow z) (fun _ _ h=>h) (fun _ h=>h.elim)
theorem BX.alloc (h:BX B W0 g gm mv w D q)(o:Obj):BX B W0 g gm mv (w.alloc o) D q:=h.later ba
theorem BX.stored {v z:Value}{U J:World}{q':List Nat}(H:BX B W0 g gm mv w D q)(ap:w.heap[g]? = some (.cells #[v] 27 (0,0)))(N:zW w U)(V:But (fun k=>v.ownBlock=some k) U J)
  (aj:J.ownsRow B 3 1 z q'.length (ints (Ai q'))) (O:∀ k,z.ownBlock=some k->v.ownBlock=some k\/U.heap.size<=k) :
  AX (BX B W0 g gm mv) w (J.setCell ⟨g,0,none⟩ z) D q':=by
 obtain⟨u,E,aq,ad,Y,K⟩:=H.row;have e:u=v:=by
  rw[ap]at E;injection E with E
  injection E with E
  simp at E
  exact E.symm
 subst e;have ac:=xR E;have am:=xR H.mea;have ao:B<=w.heap.size:=qI H.apart.2.1 (x9 ac);have hs1:=N.size;have al:=(V.block g (by omega) ad).trans ((N.block g ac).trans E);have Z:=(V.block gm (by omega) Y).trans ((N.block gm am).trans H.mea);have Q:But (fun k=>k=g) J (J.setCell ⟨g,0,none⟩ z):=But.setCell (S:=fun k=>k=g) (But.refl _ J) (p:=⟨g,0,none⟩) rfl z;have W:z.ownBlock≠some g:=fun e=>by
  rcases O g e with I|I
  · exact ad I
  omega
 have ai:z.ownBlock≠some gm:=fun e=>by
  rcases O gm e with I|I
  · exact Y I
  omega
 have ab:But D w (J.setCell ⟨g,0,none⟩ z):=((But.ofBelow N).trans (V.mono fun k h=>(K k).2 (.inr (.inr h)))).trans (Q.mono fun k h=>(K k).2 (.inl h));refine⟨fun k=>k=g\/k=gm\/z.ownBlock=some k,⟨H.env.trans (ab.below ao fun k h=>(H.foot k h).1),⟨z,one_setCell al,Ah aj (fun k an h=>Q.block k h (fun e=>W (by rw[<- e];exact an))),W,ai,fun k=>Iff.rfl⟩,(Q.block gm (xR Z) (fun e=>H.apart.1 e.symm)).trans Z,H.apart⟩,ab,fun k h=>?_⟩;rcases h with rfl|rfl|h
 · exact .inl ((K _).2 (.inl rfl))
 · exact .inl ((K _).2 (.inr (.inl rfl)))
 rcases O k h with I|I
 · exact .inl ((K k).2 (.inr (.inr I)))
 exact .inr (by omega)
theorem BX.same (z:BX B W0 g gm mv w D q)(h:zW w w'):AX (BX B W0 g gm mv) w w' D q:=⟨D,z.later h,.ofBelow h,fun _ E=>.inl E⟩
theorem AX.after {H:Type}{I:World->(Nat->Prop)->H->Prop}{w E w':World}{D:Nat->Prop}{q:H}(z:zW w E)(h:AX I E w' D q):AX I w w' D q:=by
 obtain⟨K,Q,N,O⟩:=h;refine⟨K,Q,(But.ofBelow z).trans N,fun k J=>?_⟩;rcases O k J with h|h
 · exact .inl h
 exact .inr (qI z.size h)
end
theorem iZ (B:Nat)(I:World)(g D:Nat)(E:Value):IK (BX B I g D E) B:=⟨fun _ _ _ h=>h.foot,fun _ _ _ _ _ h z J H=>h.but z J H⟩
theorem ib (B:Nat)(aj:World)(g W:Nat)(Y:Value)(U:Nat->Prop)(q:List Nat)(k:Nat)(w:World)(h:BX B aj g W Y w U q)(ac:q.length<=1000):Calls Tryz.prog 194 #[.int .i64 k,.pointer (some ⟨g,0,none⟩)] w fun e w'=>e=.returned (.tuple #[])/\AX (BX B aj g W Y) w w' U (q++[k]):=by
 obtain⟨am,aq,aw,al,a1⟩:=vL Tryz.infoInt;have an:=qX h;obtain⟨v,E,ab,ai,aE,ao⟩:=h.row;have ad:=xR E;have a4:=y9 E;have H:Hid (w.heap[g]? = some (.cells #[v] 27 (0,0))/\v.ownBlock≠some g/\B<=w.heap.size):=⟨E,ai,qI h.apart.2.1 (x9 ad)⟩
 have K:zW w (w.alloc (.cells #[.int .i64 k] 3)):=ba;have aS:=qX (Ah ab (fun g' _ a2=>K.block g' a2));have ar:Hid (∀ j u,(ints [(k:Int)])[j]? = some u->(w.alloc (.cells #[.int .i64 k] 3)).cell? (Addr.add ⟨w.heap.size,0,none⟩ j)=some u):=by
  intro j u O;cases j with
  | zero=>simp[ints]at O;subst O;simp[Addr.add]
  | succ j=>simp[ints]at O
 have ap:Hid (B<=(w.alloc (.cells #[.int .i64 k] 3)).heap.size):=qI H.o.2.2 K.size;clear E ab ai aE ao h K;go_in
 go_wp2_with (at_builtin;go_must (refine wpList_append_lies _ rfl _ _ 27 rfl B 3 am (.int .i64 0) 1 8 Tryz.underlying27 aq aw al a1 rfl (by decide) v q.length (ints (Ai q)) rfl aS.o ⟨w.heap.size,0,none⟩ 1 1 (ints [(k:Int)]) rfl rfl ar.o (D7 _) (by decide) (by unfold maxLen;omega) (by omega) ap.o _ rfl ?_;intro D aB I V z Z a0;have Q:But (fun k=>v.ownBlock=some k) (w.alloc (.cells #[.int .i64 k] 3)) I:=⟨z.os,z.tape,z.output,z.size,fun k aN ac=>z.block k aN (fun e=>ac e.symm)⟩;have J:I.heap[g]? = some (.cells #[v] 27 (0,0)):=(Q.block g (by simp;omega) H.o.2.1).trans ((Below.heap_alloc w _ g ad).trans H.o.1);have a3:=y9 J;have a5:=free_of_one J;have N:Hid (I.ownsRow B 3 1 (.slice (some ⟨D,0,none⟩) (q.length+1) aB) (q.length+1) (ints (Ai q)++ints [(k:Int)])/\But (fun k=>v.ownBlock=some k) (w.alloc (.cells #[.int .i64 k] 3)) I/\(v.ownBlock=some D\/D=(w.alloc (.cells #[.int .i64 k] 3)).heap.size)):=⟨V,Q,Z⟩;clear V z Z a0 Q J))
 go_end0;refine⟨rfl,an.o.stored H.o.1 ba N.o.2.1 ?_ ?_⟩
 · rw[DU,qJ];exact N.o.1
 intro j av;have e:D=j:=Option.some.inj av;rcases N.o.2.2 with h|h
 · exact .inl (by rw[<- e];exact h)
 exact .inr (by rw[<- e,h];exact lr)
structure DT (w:World)(ca:oA)(ccap:Nat)(cs:List lI)(na:oA)(ncap:Nat)(ns:List Int):Prop where
 curves:Hf w ca cs
 cfit:cs.length<=ccap
 cmax:ccap<=maxLen
 nums:AR w na ns
 nfit:ns.length<=ncap
 nmax:ncap<=maxLen
 nnone:na=none->ns=[]/\ncap=0
 slim:jf cs ns
theorem DT.below {w w':World}{I:oA}{D:Nat}{cs:List lI}{E:oA}{H:Nat}{ns:List Int}(h:DT w I D cs E H ns)(z:zW w w'):DT w' I D cs E H ns:=⟨h.curves.below z,h.cfit,h.cmax,h.nums.below z,h.nfit,h.nmax,h.nnone,h.slim⟩
structure CU (w:World)(pa:oA)(pcap:Nat)(ps:List Pk):Prop where
 pks:Aw w pa ps
 cap:ps.length<=pcap
 max:pcap<=maxLen
 none_:pa=none->ps=[]/\pcap=0
theorem CU.below {w w':World}{D:oA}{z:Nat}{ps:List Pk}(h:CU w D z ps)(E:zW w w'):CU w' D z ps:=⟨h.pks.below E,h.cap,h.max,h.none_⟩
structure Ji (w:World)(la:oA)(lcap:Nat)(l:List Sn):Prop where
 sent:F9 w la l
 cap:l.length<=lcap
 max:lcap<=maxLen
 none_:la=none->l=[]/\lcap=0
theorem Ji.below {w w':World}{D:oA}{z:Nat}{l:List Sn}(h:Ji w D z l)(E:zW w w'):Ji w' D z l:=⟨h.sent.below E,h.cap,h.max,h.none_⟩
def Kz (c p:Int)(w:World)(e:Ending)(w':World):Prop:=∃ z D E H h,e=.returned (.tuple #[.slice z 0 D,.slice E 0 H,h])/\Ba w' h c p/\zW w w'
def Qd (cs:List lI)(k:Nat)(per:Int)(ns:List Int)(ps:List Pk)(w:World)(e:Ending)(w':World):Prop:=∃ h z E D qs l,e=.returned (.tuple #[.slice h qs.length z,.slice E l.length D,.nilIface])/\CU w' h z qs/\Ji w' E D l/\Cy (Ae cs) k per ns ps qs l/\zW w w'
structure ZN:Prop where
 check:∀(ca:oA)(ccap:Nat)(cs:List lI)(kb:ByteArray)(per:Int)(na:oA)(ncap:Nat)(ns:List Int)(w:World)(ad:Nat->Addr)(c p:Int),A8 w ad->DT w ca ccap cs na ncap ns->Ea cs (kindOf kb.toList) per ns c p ->
  Calls Tryz.prog 79 #[.agg #[.slice ca cs.length ccap,.string kb,.int .i64 per,.slice na ns.length ncap]] w fun e w'=>∃ E,e=.returned E/\Ba w' E c p/\zW w w'
 bad:∀(ca:oA)(ccap:Nat)(cs:List lI)(kb:ByteArray)(per:Int)(na:oA)(ncap:Nat)(ns:List Int)(pa:oA)(pcap:Nat)(ps:List Pk)(w:World)(ad:Nat->Addr)(c p:Int),A8 w ad->DT w ca ccap cs na ncap ns->CU w pa pcap ps->KG cs (kindOf kb.toList) per ns ps c p->0<c ->
  Calls Tryz.prog 78 #[.agg #[.slice ca cs.length ccap,.string kb,.int .i64 per,.slice na ns.length ncap],.slice pa ps.length pcap] w fun e w'=>Kz c p w e w'
 good:∀(ca:oA)(ccap:Nat)(cs:List lI)(kb:ByteArray)(per:Int)(na:oA)(ncap:Nat)(ns:List Int)(pa:oA)(pcap:Nat)(ps:List Pk)(w:World)(ad:Nat->Addr),A8 w ad->DT w ca ccap cs na ncap ns->CU w pa pcap ps->GA cs (kindOf kb.toList) per ns->Al ps->(∀ i,¬Bg (Ae cs) ps i) ->
  Calls Tryz.prog 78 #[.agg #[.slice ca cs.length ccap,.string kb,.int .i64 per,.slice na ns.length ncap],.slice pa ps.length pcap] w fun e w'=>Qd cs (kindOf kb.toList) per ns ps w e w'
def LQ:List lI:=List.replicate 8 []
theorem MS:Ae LQ=fun _=>[]:=by
 funext f
 cases h:LQ[f]? with
 | none=>simp[Ae,List.getD,h]
 | some ls=>
  rw[Cx h];exact x8 (q9 h)
theorem Ye (ps:List Pk)(i:Nat):¬Bg (Ae LQ) ps i:=by
 rw[MS];rintro⟨p,s,-,h,-⟩;exact h rfl
theorem dZ {k:Nat}{per:Int}{ns:List Int}{ps qs:List Pk}{l:List Sn}(h:Al ps)(J:Cy (Ae LQ) k per ns ps qs l):qs=ps/\Cn k per ps ns l:=by
 obtain⟨a,L,D,E,rfl,z⟩:=J;rw[MS]at D;obtain⟨K,I,H⟩:=ZI h;have e:=(VB h D K E I).trans H;rw[e]at z;exact⟨e,z⟩
theorem Ob (w':World):(Instr.makeSlice 39 (.int .i64 8) (.int .i64 8)).run Tryz.prog w'=.ok (.slice (some ⟨w'.heap.size,0,none⟩) 8 8) (w'.alloc (.cells (madeCells #[.slice none 0 0] 8) 54)):=by
 obtain⟨D,H,E,z,h⟩:=vL Tryz.infoLines;have:=yW (P:=Tryz.prog) w' 39 54 D (.slice none 0 0) Tryz.underlying39 H E .i64 .i64 8 8 (by omega) (by omega) (by rw[h];omega) (by omega);simpa[z,Value.cells]using this
structure TT (w:World)(ca:oA)(ccap:Nat)(cs:List lI)(na:oA)(ncap:Nat)(ns:List Int):Prop where
 curves:Hf w ca cs
 cfit:cs.length<=ccap
 cmax:ccap<=maxLen
 nums:AR w na ns
 nfit:ns.length<=ncap
 nmax:ncap<=maxLen
 nnone:na=none->ns=[]/\ncap=0
theorem TT.below {w w':World}{I:oA}{D:Nat}{cs:List lI}{E:oA}{H:Nat}{ns:List Int}(h:TT w I D cs E H ns)(z:zW w w'):TT w' I D cs E H ns:=⟨h.curves.below z,h.cfit,h.cmax,h.nums.below z,h.nfit,h.nmax,h.nnone⟩
end Go.Proofs.YtejlihcdfffafaaGreatDoor
namespace Go.Proofs.YtejlihcdfffafaaGreatDoor
open Go.ChangeShapes Go.WideShapes Go.ChangeAt Go.RowKit Go.Deep
section
variable {H:Type} {enc:TypeId × Value → H} {W:World} {fuel:Nat} {cs:List Value} {x:DataW H × List MemPlace}
theorem Tryz.cellsInts:Tryz.prog.cellsOf 27=1:=by kernel_rfl
theorem Tryz.cellsStr1:Tryz.prog.cellsOf 9=1:=by kernel_rfl
theorem Zx (Y:DataW.trod enc Tryz.prog W 0 (fun _=>true) true fuel 27 cs=some x):∃ a cap ns,cs=[.slice a ns.length cap]/\AR W a ns/\ns.length<=cap/\cap<=maxLen/\(a=none->ns=[]/\cap=0):=by
 rcases open_ints Tryz.underlying27 Tryz.underlying3 Tryz.cellsInt Y with⟨rfl,_⟩|⟨x,E,z,zs,rfl,_,N,J,V,_,D,Z⟩
 · exact⟨none,0,[],rfl,.inl rfl,by simp,by simp[maxLen],fun _=>⟨rfl,rfl⟩⟩
 have Q:zs.length=z:=by simpa using V
 refine⟨some x,z,zs.take E,by rw[vO,Q,Nat.min_eq_left N],?_,by rw[vO];omega,J,fun e=>by cases e⟩;by_cases K:E=0
 · subst K;exact .inl (by simp)
 obtain⟨b,I,U⟩:=x;have H:=D 0 (by omega);have O:U=none:=by simpa[Addr.add]using World.cell?_spot H
 subst O;refine .inr ⟨b,I,rfl,by simpa[Addr.add]using Cg H,fun i y h=>?_⟩;rw[yR]at h;split at h
 ·
  next hil=>
  have:=D i (by omega);rw[Addr.add_lit,List.getD,h]at this;exact this
 cases h
end
end Go.Proofs.YtejlihcdfffafaaGreatDoor
namespace Go.Proofs
open Go.Shelf
def Tryz.lays145_ren:Go.Shelf.Ren:=⟨fun | 145=>51 | 220=>69 | 219=>87 | 217=>111 | 225=>112 | 224=>113 | 267=>114 | 266=>140 | 314=>141 | n=>n,fun | 9=>9 | 4=>4 | 59=>102 | 3=>3 | 5=>5 | 46=>163 | 146=>184 | 51=>183 | n=>n,fun | 1=>5 | n=>n⟩
theorem Tryz.lays145:Go.Proofs.Lays.n145 Tryz.prog Tryz.lays145_ren:={
 mixed:=by kernel_rfl
 f145:=Tryz.func51.trans (congrArg some (by kernel_rfl))
 f217:=Tryz.func111.trans (congrArg some (by kernel_rfl))
 f219:=Tryz.func87.trans (congrArg some (by kernel_rfl))
 f220:=Tryz.func69.trans (congrArg some (by kernel_rfl))
 f224:=Tryz.func113.trans (congrArg some (by kernel_rfl))
 f225:=Tryz.func112.trans (congrArg some (by kernel_rfl))
 f266:=Tryz.func140.trans (congrArg some (by kernel_rfl))
 f267:=Tryz.func114.trans (congrArg some (by kernel_rfl))
 f314:=Tryz.func141.trans (congrArg some (by kernel_rfl))
 t3:=Tryz.underlying3
 a3:=Tryz.isAgg3
 z3:=Tryz.sizeOf3
 v3:=Tryz.zeroValue3
 t4:=Tryz.underlying4
 a4:=Tryz.isAgg4
 z4:=Tryz.sizeOf4
 v4:=Tryz.zeroValue4
 t5:=Tryz.underlying5
 a5:=Tryz.isAgg5
 z5:=Tryz.sizeOf5
 v5:=Tryz.zeroValue5
 t9:=Tryz.underlying9
 a9:=Tryz.isAgg9
 z9:=Tryz.sizeOf9
 v9:=Tryz.zeroValue9
 t46:=Tryz.underlying163
 a46:=Tryz.isAgg163
 z46:=Tryz.sizeOf163
 v46:=Tryz.zeroValue163
 t51:=Tryz.underlying183
 a51:=Tryz.isAgg183
 z51:=Tryz.sizeOf183
 v51:=Tryz.zeroValue183
 t59:=Tryz.underlying102
 a59:=Tryz.isAgg102
 z59:=Tryz.sizeOf102
 v59:=Tryz.zeroValue102
 t146:=Tryz.underlying184
 a146:=Tryz.isAgg184
 z146:=Tryz.sizeOf184
 v146:=Tryz.zeroValue184
 g1:=by kernel_rfl }
def Tryz.lays146_ren:Go.Shelf.Ren:=⟨fun | 146=>53 | 221=>75 | 268=>98 | 138=>99 | 143=>100 | 195=>120 | 197=>121 | 218=>122 | 219=>87 | 260=>145 | 217=>111 | 225=>112 | 224=>113 | 267=>114 | 266=>140 | 314=>141 | n=>n,fun | 9=>9 | 31=>24 | 3=>3 | 4=>4 | 0=>0 | 105=>171 | 21=>21 | 5=>5 | 46=>163 | 119=>229 | 139=>232 | 138=>231 | 146=>184 | 51=>183 | n=>n,fun | 1=>5 | 3=>7 | 4=>8 | n=>n⟩
theorem Tryz.lays146:Go.Proofs.Lays.n146 Tryz.prog Tryz.lays146_ren:={
 mixed:=by kernel_rfl
 f138:=Tryz.func99.trans (congrArg some (by kernel_rfl))
 f143:=Tryz.func100.trans (congrArg some (by kernel_rfl))
 f146:=Tryz.func53.trans (congrArg some (by kernel_rfl))
 f195:=Tryz.func120.trans (congrArg some (by kernel_rfl))
 f197:=Tryz.func121.trans (congrArg some (by kernel_rfl))
 f217:=Tryz.func111.trans (congrArg some (by kernel_rfl))
 f218:=Tryz.func122.trans (congrArg some (by kernel_rfl))
 f219:=Tryz.func87.trans (congrArg some (by kernel_rfl))
 f221:=Tryz.func75.trans (congrArg some (by kernel_rfl))
 f224:=Tryz.func113.trans (congrArg some (by kernel_rfl))
 f225:=Tryz.func112.trans (congrArg some (by kernel_rfl))
 f260:=Tryz.func145.trans (congrArg some (by kernel_rfl))
 f266:=Tryz.func140.trans (congrArg some (by kernel_rfl))
 f267:=Tryz.func114.trans (congrArg some (by kernel_rfl))
 f268:=Tryz.func98.trans (congrArg some (by kernel_rfl))
 f314:=Tryz.func141.trans (congrArg some (by kernel_rfl))
 t0:=Tryz.underlying0
 a0:=Tryz.isAgg0
 z0:=Tryz.sizeOf0
 v0:=Tryz.zeroValue0
 t3:=Tryz.underlying3
 a3:=Tryz.isAgg3
 z3:=Tryz.sizeOf3
 v3:=Tryz.zeroValue3
 t4:=Tryz.underlying4
 a4:=Tryz.isAgg4
 z4:=Tryz.sizeOf4
 v4:=Tryz.zeroValue4
 t5:=Tryz.underlying5
 a5:=Tryz.isAgg5
 z5:=Tryz.sizeOf5
 v5:=Tryz.zeroValue5
 t9:=Tryz.underlying9
 a9:=Tryz.isAgg9
 z9:=Tryz.sizeOf9
 v9:=Tryz.zeroValue9
 t21:=Tryz.underlying21
 a21:=Tryz.isAgg21
 z21:=Tryz.sizeOf21
 v21:=Tryz.zeroValue21
 t31:=Tryz.underlying24
 a31:=Tryz.isAgg24
 z31:=Tryz.sizeOf24
 v31:=Tryz.zeroValue24
 t46:=Tryz.underlying163
 a46:=Tryz.isAgg163
 z46:=Tryz.sizeOf163
 v46:=Tryz.zeroValue163
 t51:=Tryz.underlying183
 a51:=Tryz.isAgg183
 z51:=Tryz.sizeOf183
 v51:=Tryz.zeroValue183
 t105:=Tryz.underlying171
 a105:=Tryz.isAgg171
 z105:=Tryz.sizeOf171
 v105:=Tryz.zeroValue171
 t119:=Tryz.underlying229
 a119:=Tryz.isAgg229
 z119:=Tryz.sizeOf229
 t138:=Tryz.underlying231
 a138:=Tryz.isAgg231
 z138:=Tryz.sizeOf231
 v138:=Tryz.zeroValue231
 t139:=Tryz.underlying232
 a139:=Tryz.isAgg232
 z139:=Tryz.sizeOf232
 v139:=Tryz.zeroValue232
 t146:=Tryz.underlying184
 a146:=Tryz.isAgg184
 z146:=Tryz.sizeOf184
 v146:=Tryz.zeroValue184
 g1:=by kernel_rfl
 g3:=by kernel_rfl
 g4:=by kernel_rfl }
def Tryz.lays156_ren:Go.Shelf.Ren:=⟨fun | 156=>77 | 165=>102 | 166=>103 | 169=>104 | 240=>124 | 241=>125 | 276=>150 | 277=>151 | n=>n,fun | 31=>24 | 9=>9 | 3=>3 | 4=>4 | 0=>0 | 20=>20 | 72=>149 | 76=>73 | 70=>147 | 37=>113 | 75=>34 | 127=>174 | 164=>205 | 5=>5 | 80=>56 | n=>n,fun | n=>n⟩
theorem Tryz.lays156:Go.Proofs.Lays.n156 Tryz.prog Tryz.lays156_ren:={
 mixed:=by kernel_rfl
 f156:=Tryz.func77.trans (congrArg some (by kernel_rfl))
 f165:=Tryz.func102.trans (congrArg some (by kernel_rfl))
 f166:=Tryz.func103.trans (congrArg some (by kernel_rfl))
 f169:=Tryz.func104.trans (congrArg some (by kernel_rfl))
 f240:=Tryz.func124.trans (congrArg some (by kernel_rfl))
 f241:=Tryz.func125.trans (congrArg some (by kernel_rfl))
 f276:=Tryz.func150.trans (congrArg some (by kernel_rfl))
 f277:=Tryz.func151.trans (congrArg some (by kernel_rfl))
 t0:=Tryz.underlying0
 a0:=Tryz.isAgg0
 z0:=Tryz.sizeOf0
 v0:=Tryz.zeroValue0
 t3:=Tryz.underlying3
 a3:=Tryz.isAgg3
 z3:=Tryz.sizeOf3
 v3:=Tryz.zeroValue3
 t4:=Tryz.underlying4
 a4:=Tryz.isAgg4
 z4:=Tryz.sizeOf4
 v4:=Tryz.zeroValue4
 t9:=Tryz.underlying9
 a9:=Tryz.isAgg9
 z9:=Tryz.sizeOf9
 v9:=Tryz.zeroValue9
 t20:=Tryz.underlying20
 a20:=Tryz.isAgg20
 z20:=Tryz.sizeOf20
 v20:=Tryz.zeroValue20
 t31:=Tryz.underlying24
 a31:=Tryz.isAgg24
 z31:=Tryz.sizeOf24
 v31:=Tryz.zeroValue24
 t37:=Tryz.underlying113
 a37:=Tryz.isAgg113
 z37:=Tryz.sizeOf113
 v37:=Tryz.zeroValue113
 t70:=Tryz.underlying147
 a70:=Tryz.isAgg147
 z70:=Tryz.sizeOf147
 v70:=Tryz.zeroValue147
 t72:=Tryz.underlying149
 a72:=Tryz.isAgg149
 z72:=Tryz.sizeOf149
 v72:=Tryz.zeroValue149
 t75:=Tryz.underlying34
 a75:=Tryz.isAgg34
 z75:=Tryz.sizeOf34
 v75:=Tryz.zeroValue34
 t76:=Tryz.underlying73
 a76:=Tryz.isAgg73
 z76:=Tryz.sizeOf73
 v76:=Tryz.zeroValue73
 t127:=Tryz.underlying174
 a127:=Tryz.isAgg174
 z127:=Tryz.sizeOf174
 v127:=Tryz.zeroValue174
 t164:=Tryz.underlying205
 a164:=Tryz.isAgg205
 z164:=Tryz.sizeOf205
 v164:=Tryz.zeroValue205 }
def Tryz.laysM171_ren:Go.Shelf.Ren:=⟨fun | 171=>76 | 243=>101 | 246=>123 | 283=>146 | 284=>147 | 285=>148 | 286=>149 | 129=>176 | 317=>175 | 318=>177 | 319=>178 | 320=>179 | 337=>209 | 338=>210 | n=>n,fun | 3=>3 | 9=>9 | 2=>2 | 4=>4 | 171=>199 | 0=>0 | 53=>200 | 37=>113 | 5=>5 | 173=>203 | 212=>234 | 51=>183 | 20=>20 | 213=>235 | 46=>163 | 232=>282 | 233=>283 | n=>n,fun | 17=>9 | 18=>11 | 19=>12 | n=>n⟩
theorem Tryz.laysM171:Go.Proofs.LaysM.n171 Tryz.prog Tryz.laysM171_ren:={
 mixed:=by kernel_rfl
 f129:=Tryz.func176.trans (congrArg some (by kernel_rfl))
 f171:=Tryz.func76.trans (congrArg some (by kernel_rfl))
 f243:=Tryz.func101.trans (congrArg some (by kernel_rfl))
 f246:=Tryz.func123.trans (congrArg some (by kernel_rfl))
 f283:=Tryz.func146.trans (congrArg some (by kernel_rfl))
 f284:=Tryz.func147.trans (congrArg some (by kernel_rfl))
 f285:=Tryz.func148.trans (congrArg some (by kernel_rfl))
 f286:=Tryz.func149.trans (congrArg some (by kernel_rfl))
 f317:=Tryz.func175.trans (congrArg some (by kernel_rfl))
 f318:=Tryz.func177.trans (congrArg some (by kernel_rfl))
 f319:=Tryz.func178.trans (congrArg some (by kernel_rfl))
 f320:=Tryz.func179.trans (congrArg some (by kernel_rfl))
 f337:=Tryz.func209.trans (congrArg some (by kernel_rfl))
 f338:=Tryz.func210.trans (congrArg some (by kernel_rfl))
 t0:=Tryz.underlying0
 a0:=Tryz.isAgg0
 z0:=Tryz.sizeOf0
 v0:=Tryz.zeroValue0
 t2:=Tryz.underlying2
 a2:=Tryz.isAgg2
 z2:=Tryz.sizeOf2
 v2:=Tryz.zeroValue2
 t3:=Tryz.underlying3
 a3:=Tryz.isAgg3
 z3:=Tryz.sizeOf3
 v3:=Tryz.zeroValue3
 t4:=Tryz.underlying4
 a4:=Tryz.isAgg4
 z4:=Tryz.sizeOf4
 v4:=Tryz.zeroValue4
 t5:=Tryz.underlying5
 a5:=Tryz.isAgg5
 z5:=Tryz.sizeOf5
 v5:=Tryz.zeroValue5
 t9:=Tryz.underlying9
 a9:=Tryz.isAgg9
 z9:=Tryz.sizeOf9
 v9:=Tryz.zeroValue9
 t20:=Tryz.underlying20
 a20:=Tryz.isAgg20
 z20:=Tryz.sizeOf20
 v20:=Tryz.zeroValue20
 t37:=Tryz.underlying113
 a37:=Tryz.isAgg113
 z37:=Tryz.sizeOf113
 v37:=Tryz.zeroValue113
 t46:=Tryz.underlying163
 a46:=Tryz.isAgg163
 z46:=Tryz.sizeOf163
 v46:=Tryz.zeroValue163
 t51:=Tryz.underlying183
 a51:=Tryz.isAgg183
 z51:=Tryz.sizeOf183
 v51:=Tryz.zeroValue183
 t53:=Tryz.underlying200
 a53:=Tryz.isAgg200
 z53:=Tryz.sizeOf200
 v53:=Tryz.zeroValue200
 t171:=Tryz.underlying199
 a171:=Tryz.isAgg199
 z171:=Tryz.sizeOf199
 v171:=Tryz.zeroValue199
 t173:=Tryz.underlying203
 a173:=Tryz.isAgg203
 z173:=Tryz.sizeOf203
 v173:=Tryz.zeroValue203
 t212:=Tryz.underlying234
 a212:=Tryz.isAgg234
 z212:=Tryz.sizeOf234
 v212:=Tryz.zeroValue234
 t213:=Tryz.underlying235
 a213:=Tryz.isAgg235
 z213:=Tryz.sizeOf235
 t232:=Tryz.underlying282
 a232:=Tryz.isAgg282
 z232:=Tryz.sizeOf282
 v232:=Tryz.zeroValue282
 t233:=Tryz.underlying283
 a233:=Tryz.isAgg283
 z233:=Tryz.sizeOf283
 v233:=Tryz.zeroValue283
 g17:=by kernel_rfl
 g18:=by kernel_rfl
 g19:=by kernel_rfl
 i0:=by kernel_rfl
 i2:=by kernel_rfl
 i3:=by kernel_rfl
 i4:=by kernel_rfl
 i5:=by kernel_rfl
 i9:=by kernel_rfl
 i20:=by kernel_rfl
 i37:=by kernel_rfl
 i46:=by kernel_rfl
 i51:=by kernel_rfl
 i53:=by kernel_rfl
 i171:=by kernel_rfl
 i173:=by kernel_rfl
 i212:=by kernel_rfl
 i232:=by kernel_rfl
 i233:=by kernel_rfl
 m17:=by kernel_rfl
 m18:=by kernel_rfl
 m19:=by kernel_rfl }
def Tryz.lays212_ren:Go.Shelf.Ren:=⟨fun | 212=>142 | 263=>173 | 264=>174 | n=>n,fun | 46=>163 | 51=>183 | 146=>184 | 53=>200 | 148=>227 | n=>n,fun | n=>n⟩
theorem Tryz.lays212:Go.Proofs.Lays.n212 Tryz.prog Tryz.lays212_ren:={
 mixed:=by kernel_rfl
 f212:=Tryz.func142.trans (congrArg some (by kernel_rfl))
 f263:=Tryz.func173.trans (congrArg some (by kernel_rfl))
 f264:=Tryz.func174.trans (congrArg some (by kernel_rfl))
 t46:=Tryz.underlying163
 a46:=Tryz.isAgg163
 z46:=Tryz.sizeOf163
 v46:=Tryz.zeroValue163
 t51:=Tryz.underlying183
 a51:=Tryz.isAgg183
 z51:=Tryz.sizeOf183
 v51:=Tryz.zeroValue183
 t53:=Tryz.underlying200
 a53:=Tryz.isAgg200
 z53:=Tryz.sizeOf200
 v53:=Tryz.zeroValue200
 t146:=Tryz.underlying184
 a146:=Tryz.isAgg184
 z146:=Tryz.sizeOf184
 v146:=Tryz.zeroValue184
 t148:=Tryz.underlying227
 a148:=Tryz.isAgg227
 z148:=Tryz.sizeOf227
 v148:=Tryz.zeroValue227 }
def Tryz.lays113_ren:Go.Shelf.Ren:=⟨fun | 113=>82 | n=>n,fun | 28=>27 | 3=>3 | 4=>4 | 9=>9 | 20=>20 | 0=>0 | n=>n,fun | n=>n⟩
theorem Tryz.lays113:Go.Proofs.Lays.n113 Tryz.prog Tryz.lays113_ren:={
 mixed:=by kernel_rfl
 f113:=Tryz.func82.trans (congrArg some (by kernel_rfl))
 t0:=Tryz.underlying0
 a0:=Tryz.isAgg0
 z0:=Tryz.sizeOf0
 v0:=Tryz.zeroValue0
 t3:=Tryz.underlying3
 a3:=Tryz.isAgg3
 z3:=Tryz.sizeOf3
 v3:=Tryz.zeroValue3
 t4:=Tryz.underlying4
 a4:=Tryz.isAgg4
 z4:=Tryz.sizeOf4
 v4:=Tryz.zeroValue4
 t9:=Tryz.underlying9
 a9:=Tryz.isAgg9
 z9:=Tryz.sizeOf9
 v9:=Tryz.zeroValue9
 t20:=Tryz.underlying20
 a20:=Tryz.isAgg20
 z20:=Tryz.sizeOf20
 v20:=Tryz.zeroValue20
 t28:=Tryz.underlying27
 a28:=Tryz.isAgg27
 z28:=Tryz.sizeOf27
 v28:=Tryz.zeroValue27 }
theorem Tryz.Builder_Extra_156:Builder.Extra Tryz.prog Tryz.lays156_ren:={
 sizeBuilder:=by kernel_rfl
 liesBuilder:=by kernel_rfl
 t5:=Tryz.underlying5
 a5:=Tryz.isAgg5
 z5:=Tryz.sizeOf5
 v5:=Tryz.zeroValue5
 infoByte:=by kernel_rfl
 cellsByte:=by kernel_rfl
 sizeByte:=by kernel_rfl
 neB5:=by decide }
end Go.Proofs
namespace Go.Proofs.YtejlihcdfffafaaGreatDoor
open Go.RowKit Go.Shelf
def Q3 (w0:World):Prop:=∀ h,zW w0 h->∀ n:Int,-9223372036854775808<=n->n<=9223372036854775807 ->
 qW 76 #[.int .i64 n] h (.string ⟨(Go.Lib.itoa n).toArray⟩)
structure Env (w:World)(ad:Nat->Addr):Prop where
 errs:A8 w ad
 maxl:∃ m,w.cell? ⟨5,0,none⟩=some (.int .i64 m)
 itoa:Q3 w
theorem Env.below {w E:World}{D:Nat->Addr}(z:Env w D)(h:zW w E):Env E D:=
 ⟨z.errs.below h,by obtain⟨m,H⟩:=z.maxl;exact⟨m,j7 h H⟩,fun I J=>z.itoa I (h.tr J)⟩
abbrev Ad (x:List UInt8):Value:=.string ⟨x.toArray⟩
theorem jO (x:List UInt8)(w:World)(h:Nat->Addr)(D:Env w h)(E:x.length<=1000):Calls Tryz.prog 51 #[Ad x,.string ⟨#[32]⟩] w fun e w'=>e=.returned (.tuple #[Ad (Go.Lib.cut x [32]).1,Ad (Go.Lib.cut x [32]).2.1,.bool (Go.Lib.cut x [32]).2.2])/\∃ n,w'=w.drewN n:=by
 obtain⟨m,z⟩:=D.maxl;exact Any.strings_Cut Tryz.lays145 ⟨x.toArray⟩ ⟨#[32]⟩ m w (by show x.toArray.size<_;simp;omega) z
theorem gB (x:List UInt8)(w:World)(D:Nat->Addr)(N:Env w D)(Q:x.length<=1000):Calls Tryz.prog 53 #[Ad x,.string ⟨#[32]⟩] w fun e w'=>e=.returned (.slice (some ⟨w.heap.size,0,none⟩) (Go.Lib.split x [32]).length (Go.Lib.split x [32]).length)/\CO w' (some ⟨w.heap.size,0,none⟩) (Go.Lib.split x [32])/\zW w w':=by
 obtain⟨m,E⟩:=N.maxl;refine(Any.strings_Split Tryz.lays146 (by kernel_rfl) ⟨x.toArray⟩ ⟨#[32]⟩ m w (by show x.toArray.size<_;simp;omega) E (by decide)).mono ?_
 rintro e w' ⟨rfl,rfl⟩;have H:=Go.Lib.splitB_data ⟨#[32]⟩ 0 (Go.Lib.countB ⟨x.toArray⟩ ⟨#[32]⟩) ⟨x.toArray⟩;have I:=Go.Lib.splitB_all ⟨#[32]⟩ (by decide) 0 _ ⟨x.toArray⟩ rfl;have z:(Go.Lib.splitB ⟨#[32]⟩ 0 (Go.Lib.countB ⟨x.toArray⟩ ⟨#[32]⟩) ⟨x.toArray⟩).map (·.data.toList)=Go.Lib.split x [32]:=H;have K:(Go.Lib.split x [32]).length=Go.Lib.countB ⟨x.toArray⟩ ⟨#[32]⟩ + 1:=by rw[<- z,xZ,I]
 refine⟨by rw[K],.inr ⟨w.heap.size,0,rfl,by simp,fun i y h=>?_⟩,ba⟩;rw[qO _ _ _ _ rfl,vC];rw[<- z,xM]at h;obtain⟨s,O,J⟩:=xD.1 h;rw[List.getElem?_toArray,xM,O,<- J];rfl
theorem ja (b o c:Nat)(xs:List (List UInt8))(w:World)(D:∀(i:Nat) x,xs[i]? = some x->w.cell? ⟨b,o+i,none⟩=some (Ad x))(z:b<w.heap.size)(K:xs.length<=1000)(I:xs.length<=c)(H:(Go.Lib.join xs [32]).length<=140737488355328):qW 77 #[.slice (some ⟨b,o,none⟩) xs.length c,.string ⟨#[32]⟩] w (Ad (Go.Lib.join xs [32])):=by
 have e:(xs.map fun x=>(⟨x.toArray⟩:ByteArray)).map (·.data.toList)=xs:=by rw[List.map_map];exact List.map_id xs
 have:=Any.strings_Join Tryz.lays156 Tryz.Builder_Extra_156 b o c (xs.map fun x=>⟨x.toArray⟩) ⟨#[32]⟩ w (fun j x h=>by
  rw[xM]at h;obtain⟨y,J,E⟩:=xD.1 h;rw [D j y J,<- E]) z (by simp;omega) (by simpa using I) (by rw [e];exact H)
 rw[e,xZ]at this;exact this
theorem jw (b:Nat)(zs:List Int)(w:World)(E:0<zs.length)(H:zs.length<=1000)(D:∀(i:Nat) z,zs[i]? = some z->w.cell? ⟨b,i,none⟩=some (.int .i64 z)):Calls Tryz.prog 82 #[.slice (some ⟨b,0,none⟩) zs.length zs.length] w fun e w'=>e=.returned (.int .i64 (Go.Lib.maxOf zs))/\w'=w:=by
 have:=Any.slices_Max_int Tryz.lays113 b 0 zs.length zs.length zs w E lr (by omega) (fun j h=>by
  rw[vC,D j zs[j] (qE h)];simp [h])
 rw[xA]at this;exact this
end Go.Proofs.YtejlihcdfffafaaGreatDoor
namespace Go.Proofs
open Go.Shelf
def Tryz.sortL_ren:Go.Shelf.Ren:=⟨fun | 6=>206 | 15=>223 | 14=>222 | 28=>236 | 29=>176 | 20=>228 | 21=>229 | 22=>230 | 23=>231 | 24=>232 | 25=>233 | 26=>234 | 27=>235 | 46=>239 | 47=>240 | 48=>241 | 49=>242 | 50=>243 | 57=>244 | n=>n,fun | 22=>54 | 24=>66 | 25=>269 | 3=>3 | 39=>163 | 0=>0 | 53=>183 | 55=>200 | 4=>4 | 46=>293 | 45=>292 | 50=>289 | 5=>5 | 9=>9 | 66=>299 | 70=>303 | 76=>305 | 77=>306 | n=>n,fun | n=>n⟩
theorem Tryz.sortL:Go.Proofs.SlLaysF0.n6 Tryz.prog Tryz.sortL_ren:={
 mixed:=by kernel_rfl
 f6:=⟨Tryz.f206.name,by decide,Tryz.func206.trans (congrArg some (by kernel_rfl))⟩
 f14:=⟨Tryz.f222.name,by decide,Tryz.func222.trans (congrArg some (by kernel_rfl))⟩
 f15:=Tryz.func223.trans (congrArg some (by kernel_rfl))
 f20:=⟨Tryz.f228.name,by decide,Tryz.func228.trans (congrArg some (by kernel_rfl))⟩
 f21:=⟨Tryz.f229.name,by decide,Tryz.func229.trans (congrArg some (by kernel_rfl))⟩
 f22:=⟨Tryz.f230.name,by decide,Tryz.func230.trans (congrArg some (by kernel_rfl))⟩
 f23:=⟨Tryz.f231.name,by decide,Tryz.func231.trans (congrArg some (by kernel_rfl))⟩
 f24:=⟨Tryz.f232.name,by decide,Tryz.func232.trans (congrArg some (by kernel_rfl))⟩
 f25:=⟨Tryz.f233.name,by decide,Tryz.func233.trans (congrArg some (by kernel_rfl))⟩
 f26:=⟨Tryz.f234.name,by decide,Tryz.func234.trans (congrArg some (by kernel_rfl))⟩
 f27:=⟨Tryz.f235.name,by decide,Tryz.func235.trans (congrArg some (by kernel_rfl))⟩
 f28:=Tryz.func236.trans (congrArg some (by kernel_rfl))
 f29:=Tryz.func176.trans (congrArg some (by kernel_rfl))
 f46:=⟨Tryz.f239.name,by decide,Tryz.func239.trans (congrArg some (by kernel_rfl))⟩
 f47:=Tryz.func240.trans (congrArg some (by kernel_rfl))
 f48:=Tryz.func241.trans (congrArg some (by kernel_rfl))
 f49:=⟨Tryz.f242.name,by decide,Tryz.func242.trans (congrArg some (by kernel_rfl))⟩
 f50:=⟨Tryz.f243.name,by decide,Tryz.func243.trans (congrArg some (by kernel_rfl))⟩
 f57:=⟨Tryz.f244.name,by decide,Tryz.func244.trans (congrArg some (by kernel_rfl))⟩
 t0:=Tryz.underlying0
 a0:=Tryz.isAgg0
 z0:=Tryz.sizeOf0
 v0:=Tryz.zeroValue0
 t3:=Tryz.underlying3
 a3:=Tryz.isAgg3
 z3:=Tryz.sizeOf3
 v3:=Tryz.zeroValue3
 t4:=Tryz.underlying4
 a4:=Tryz.isAgg4
 z4:=Tryz.sizeOf4
 v4:=Tryz.zeroValue4
 t5:=Tryz.underlying5
 a5:=Tryz.isAgg5
 z5:=Tryz.sizeOf5
 v5:=Tryz.zeroValue5
 t9:=Tryz.underlying9
 a9:=Tryz.isAgg9
 z9:=Tryz.sizeOf9
 v9:=Tryz.zeroValue9
 t22:=Tryz.underlying54
 a22:=Tryz.isAgg54
 z22:=Tryz.sizeOf54
 v22:=Tryz.zeroValue54
 t25:=Tryz.underlying269
 a25:=Tryz.isAgg269
 z25:=Tryz.sizeOf269
 v25:=Tryz.zeroValue269
 t39:=Tryz.underlying163
 a39:=Tryz.isAgg163
 z39:=Tryz.sizeOf163
 v39:=Tryz.zeroValue163
 t45:=Tryz.underlying292
 a45:=Tryz.isAgg292
 z45:=Tryz.sizeOf292
 v45:=Tryz.zeroValue292
 t46:=Tryz.underlying293
 a46:=Tryz.isAgg293
 z46:=Tryz.sizeOf293
 v46:=Tryz.zeroValue293
 t50:=Tryz.underlying289
 a50:=Tryz.isAgg289
 z50:=Tryz.sizeOf289
 v50:=Tryz.zeroValue289
 t53:=Tryz.underlying183
 a53:=Tryz.isAgg183
 z53:=Tryz.sizeOf183
 v53:=Tryz.zeroValue183
 t55:=Tryz.underlying200
 a55:=Tryz.isAgg200
 z55:=Tryz.sizeOf200
 v55:=Tryz.zeroValue200
 t66:=Tryz.underlying299
 a66:=Tryz.isAgg299
 z66:=Tryz.sizeOf299
 v66:=Tryz.zeroValue299
 t70:=Tryz.underlying303
 a70:=Tryz.isAgg303
 z70:=Tryz.sizeOf303
 v70:=Tryz.zeroValue303
 t76:=Tryz.underlying305
 a76:=Tryz.isAgg305
 z76:=Tryz.sizeOf305
 v76:=Tryz.zeroValue305
 t77:=Tryz.underlying306
 a77:=Tryz.isAgg306
 z77:=Tryz.sizeOf306
 v77:=Tryz.zeroValue306 }
end Go.Proofs
namespace Go.Proofs.YtejlihcdfffafaaGreatDoor
open Go.RowKit Go.Shelf
open Go.Sort hiding Below
theorem dA (h:Addr)(cap:Nat)(ls:lI)(w:World)(E:AQ w (some h) ls)(aj:ls.length<=1000):Calls Tryz.prog 205 #[.slice (some h) ls.length cap] w fun e w'=>∃ v,e=.returned v/\Bn w' w.heap.size v ls/\zW w w':=by
 obtain⟨J,N,O,I,Y⟩:=vL Tryz.infoLine;have D:zW w (w.alloc (.cells #[] 66)):=ba;have W:=qX (Iy (E.below D));have V:=qX (G7 ls);have Q:=qX (EN ls);have K:Hid ((w.alloc (.cells #[] 66)).ownsRow w.heap.size 66 2 (.slice (some ⟨w.heap.size,0,none⟩) 0 0) 0 []):=World.ownsRow_lit w #[] 0 lr (by simp[maxLen]) (by simp);have U:=qX D;clear E D;have ac:=fun ab=>Go.Lib.run_eql_slice_nil (P:=Tryz.prog) ab 54 66 (some h) ls.length cap 0 0 Tryz.underlying54
 go_in
 go_wp2_with (at_builtin;refine wpList_append_own _ rfl _ _ 54 rfl w.heap.size 66 J (.agg #[.int .i64 0,.int .i64 0]) 2 16 Tryz.underlying54 N O I Y rfl (by decide) (.slice (some ⟨w.heap.size,0,none⟩) 0 0) 0 [] rfl K.o h ls.length cap (AL ls) rfl V.o W.o Q.o (by unfold maxLen;omega) (by omega) (by simp) ?_;intro al ai Z H ad)
 go_ret;refine⟨_,rfl,by simpa[Bn]using Z,?_⟩;exact U.o.grown H (by simp) (fun k z=>by injection z with z;subst z;exact lr)
def VV (x:Int×Int):List Value:=[.int .i64 x.1,.int .i64 x.2]
theorem ltL (x y:Int×Int):ltOf cmpL x y=decide (y.2<x.2\/(y.2=x.2/\y.1<x.1)):=by
 unfold ltOf cmpL;by_cases h:y.2=x.2
 · rw[if_pos (Sj.2 h)];rw[decide_eq_decide,KC];omega
 rw[if_neg (fun e=>h (Sj.1 e))];rw[decide_eq_decide,KC];omega
theorem kE:SWO (ltOf cmpL) where
 irrefl x:=by rw[ltL];simp
 trans x y z h1 h2:=by rw[ltL]at *;simp at *;omega
 ntrans x y z h1 h2:=by rw[ltL]at *;simp at *;omega
theorem Tryz.isAggLine (w:World):(isAgg 66).run Tryz.prog w=.ok true w:=by kernel_rfl
theorem Tryz.sizeOfLine (w:World):(Go.sizeOf 66).run Tryz.prog w=.ok 2 w:=by kernel_rfl
theorem RV {w:World}{B g cap:Nat}{ls:lI}(D:Bn w B (.slice (some ⟨g,0,none⟩) ls.length cap) ls):HoldsK VV 2 w g 0 ls.toArray:=by
 intro j z;rw[size_flatK]at z;have O:j<ls.length*2:=by simpa using z
 rw[get_flatK _ _ _ _ z];have H:=World.ownsRow.cellAt D j O;have N:=World.ownsRow.frozenAt D j;rw[vC];refine⟨?_,N⟩;rw[H];have E:j/2<ls.length:=by omega
 have h:=PX ls (j/2) (ls[j/2]).1 (ls[j/2]).2 (by simp[E]);have J:(ls.toArray)[j/2]! = ls[j/2]:=by simp[E]
 rw[J];rcases(show j%2=0\/j%2=1 by omega)with I|K
 ·
  rw[I];have e:j/2*2=j:=by omega
  rw[e]at h;exact h.1
 rw[K];have e:j/2*2+1=j:=by omega
 rw[e]at h;exact h.2
theorem PT {w:World}{g:Nat}{ls:lI}(h:HoldsK VV 2 w g 0 ls.toArray)(J:g<w.heap.size):AQ w (some ⟨g,0,none⟩) ls:=by
 refine .inr ⟨g,0,rfl,J,fun i x y D=>?_⟩;have z:i<ls.length:=by
  rcases qC i ls.length with h|h
  · exact h
  simp[qH h]at D
 have E:=(h.cell (i:=i) (c:=0) (by simpa using z) (by decide)).1;have H:=(h.cell (i:=i) (c:=1) (by simpa using z) (by decide)).1;have I:(ls.toArray)[i]! = (x,y):=by
  simp[z]at D
  simp[z,D]
 rw[I]at E H;exact⟨E,H⟩
theorem below_grow {B:Nat}{w0 w:World}(h:Go.RowKit.Below B w0 w)(os:Array Obj)(z:B<=w.heap.size):Go.RowKit.Below B w0 (grow w os):=
 h.trans ⟨rfl,rfl,rfl,by simp,fun k D=>by show(w.heap++os)[k]? = _;rw[Array.getElem?_append_left (by omega)]⟩
def DR (ls:lI):Prop:=∀(i j:Nat)(x y:Int×Int),i<j->ls[i]? = some x->ls[j]? = some y->y.2<x.2\/(y.2=x.2/\y.1<=x.1)
theorem U2 (I:Addr)(cap:Nat)(ls:lI)(w:World)(am:AQ w (some I) ls)(J:1<=ls.length)(a3:ls.length<=1000):Calls Tryz.prog 171 #[.slice (some I) ls.length cap] w fun e w'=>∃ g aS K,e=.returned (.slice (some ⟨g,0,none⟩) K.length aS)/\K.Perm ls/\DR K/\AQ w' (some ⟨g,0,none⟩) K/\zW w w':=by
 have a5:=(show Hid (Calls Tryz.prog 205 #[.slice (some I) ls.length cap] w fun e w'=>∃ v,e=.returned v/\Bn w' w.heap.size v ls/\zW w w')from dA I cap ls w am a3)
 clear am;go_in
 go_wp2_with fail;refine a5.o.mono ?_
 rintro e D ⟨v,rfl,Y,ai⟩;obtain⟨g,z,rfl,W⟩:∃ g z,v=.slice (some ⟨g,0,none⟩) ls.length z/\w.heap.size<=g/\g<D.heap.size:=by
  obtain⟨g,z,N,a6,H⟩:=World.ownsRow.form Y J;exact⟨g,z,N,a6,H⟩
 have ac:=RV Y;have av:∀ args w,(callFunc 207 args).run Tryz.prog w=.ok (.enter 207 args) w:=enters_of Tryz.func207 (by kernel_rfl) rfl;have Q:=AnyQ.slices_SortFunc Tryz.sortL 2 Tryz.isAggLine Tryz.sizeOfLine VV (fun _=>rfl) (fun x v N=>by simp[VV]at N;rcases N with rfl|rfl <;> rfl) cmpL kE 207 #[] g 0 z ls.toArray D av (fun _ _ _ _ x y=>Xh x y _) ac W.2 (by simp;omega);change Calls Tryz.prog 206 _ _ _ at Q
 rw[List.size_toArray]at Q;have a1:=(show Hid (Calls Tryz.prog 206 #[.slice (some ⟨g,0,none⟩) ls.length z,.func (.func 207) #[] #[]] D fun e w'=>e=.returned (.tuple #[])/\∃ h n os,PermIn 0 ls.length ls.toArray h/\SortedIn (ltOf cmpL) 0 ls.length h/\w'=sortWorldK VV 2 D g 0 n h os)from Q)
 have aE:Hid (HoldsK VV 2 D g 0 ls.toArray):=ac;have aj:Hid (zW w D):=ai;clear Q ac Y ai av;go_wp2_with fail;refine a1.o.mono ?_
 rintro e E ⟨rfl,h,n,os,ad,ao,O⟩;have Z:h.size=ls.length:=by have:=ad.1;simpa using this
 have aw:HoldsK VV 2 E g 0 h:=by
  rw[O];exact holdsK_grow _ _ _ _ _ _ _ (by simp[putRowK,putRow,mapBlock];exact W.2) (holdsK_putRowK _ _ _ _ _ ls.toArray h aE.o (by simpa using Z))
 have H:zW w E:=by
  rw[O];have J:zW w (putRowK VV 2 (Sort.ahead D n) g 0 h):=Go.Lib.below_putRow aj.o W.1;exact below_grow J os (by have:=aj.o.size;have:=J.size;exact this)
 have an:g<E.heap.size:=by
  rw[O];simp[sortWorldK,putRowK,putRow,mapBlock]
  omega
 have al:h.toList.toArray=h:=by simp
 have aq:h.toList.length=ls.length:=by simpa using Z
 have aB:h.toList.Perm ls:=by
  have:=ad.2.2;rw[Array.extract_eq_self_of_le (by omega),Array.extract_eq_self_of_le (by simp)]at this;simpa using this
 have ar:DR h.toList:=by
  intro i j x y a2 ap ab;have a7:j<h.toList.length:=by
   rcases qC j h.toList.length with V|V
   · exact V
   simp[qH V]at ab
  have:=ao i j (qR _) a2 (by omega);rw[ltL]at this;have a0:h[i]! = x:=by rw[zG]at ap;rw[getElem!_def,ap]
  have aN:h[j]! = y:=by rw[zG]at ab;rw[getElem!_def,ab]
  rw[a0,aN]at this;have:=xE this;omega
 have U:Hid (h.toList.Perm ls/\DR h.toList/\AQ E (some ⟨g,0,none⟩) h.toList/\zW w E):=⟨aB,ar,PT (by rw[al];exact aw) an,H⟩
 have a4:Hid (h.toList.length=ls.length):=aq;clear O aw H an al aq aB ar ad ao Z;go_wp2
 go_ret;exact⟨g,z,h.toList,by rw[a4.o];rfl,U.o.1,U.o.2.1,U.o.2.2.1,U.o.2.2.2⟩
end Go.Proofs.YtejlihcdfffafaaGreatDoor
namespace Go.Proofs.YtejlihcdfffafaaGreatDoor
open Go.ChangeShapes Go.WideShapes Go.ChangeAt Go.RowKit Go.Shelf
theorem Tryz.oneRow:((List.range 338).filter fun t=>Tryz.prog.rowNamed t [101,114,114,111,114])=[34]:=by kernel_rfl
theorem Tryz.sizeTypes:Tryz.prog.types.size=338:=by kernel_rfl
theorem Tryz.handleErr:typeHandle Tryz.prog 34=.pointer (some ⟨13,34,none⟩):=by kernel_rfl
theorem Tryz.gType:Tryz.prog.globalNamed "errors.errorType" = some 10:=by kernel_rfl
def j4 (z N E K D I h H J:Addr):Nat->Addr
 | 0=>z | 1=>N | 2=>E | 3=>K | 4=>D | 5=>I | 6=>h | 7=>H | _=>J
theorem WB {z:World}{a b:Addr}{s u:ByteArray}{x y:List UInt8}(E:z.cell? a=some (.string s))(h:z.cell? b=some (.string u))(I:s.data.toList=x)(D:u.data.toList=y)(H:x≠y):a≠b:=by
 rintro rfl;rw[E]at h;injection h with h
 injection h with h
 subst h;exact H (I.symm.trans D)
theorem V9 (i j:Nat)(H:six i)(z:six j)(E:i≠j):AV ((i:Int)+1)≠AV ((j:Int)+1):=by
 have h:i=0\/i=1\/i=2\/i=3\/i=4\/i=8:=by unfold six at H;omega
 have D:j=0\/j=1\/j=2\/j=3\/j=4\/j=8:=by unfold six at z;omega
 rcases h with rfl | rfl | rfl | rfl | rfl | rfl <;> rcases D with rfl | rfl | rfl | rfl | rfl | rfl <;> first | exact absurd rfl E | decide
theorem ZP {D:World} (H:handlesMet Tryz.prog [("errors.errorType",Rows.laid_errors_errorType)] D):D.cell? ⟨10,0,none⟩=some (.iface 189 (.agg #[.pointer (some ⟨13,34,none⟩)])):=by
 obtain⟨name,u,K,N,I,J,E,z⟩:=H _ (vJ.2 rfl);have O:name=[101,114,114,111,114]:=(Option.some.inj N).symm;subst O;obtain rfl:u=189:=Option.some.inj (I.symm.trans (by kernel_rfl));have h:K∈(List.range 338).filter fun t=>Tryz.prog.rowNamed t [101,114,114,111,114]:=List.mem_filter.2 ⟨List.mem_range.2 (by rw[<- Tryz.sizeTypes];exact J),E⟩
 rw[Tryz.oneRow]at h;obtain rfl:=vJ.1 h;rw[Tryz.handleErr]at z;simpa using World.var?_cell Tryz.gType z 0
theorem ZQ {h:World}(z:h.ShapedOpen Tryz.prog):∃ m,h.cell? ⟨5,0,none⟩=some (.int .i64 m):=
 cell_of_shapedOpen_int (t:=3) (zero:=#[.int .i64 0]) z (vM (by kernel_rfl)) (by kernel_rfl) rfl (by kernel_rfl) (by kernel_rfl) Tryz.underlying3
def jd:String:=(Rows.scriptPlaysRow.laid[2]'(by decide)).1
theorem iH {z:World}(J:∀ h,zW z h->Go.Lib.TabIs Tryz.prog h jd .u64 Go.Lib.pow10Tab):Q3 z:=fun h E n D I=>
 (Any.strconv_Itoa Tryz.laysM171 n D I h (J h E)).mono fun e w' ⟨H,k,os,K⟩=>⟨H,by rw[K];exact below_grow (qL br k) os (by simp)⟩
def U9 (P:Program)(os:Os):World:=
 { World.holding P os ⟨#[],#[],[]⟩with heap:=⟨Lay.setRows (World.holding P os ⟨#[],#[],[]⟩).heap.toList [(10,[.iface 189 (.agg #[.pointer (some ⟨13,34,none⟩)])])]⟩ }
def Ke (P:Program)(os:Os)(h:List (String×DataW Unit)):World:=(U9 P os).layVars P (h.filter fun x=>x.2.handleName?.isNone)
theorem ZJ (os:Os)(h:List (String×DataW Unit)):(Ke Tryz.prog os h).os=os:=World.layVars_os _ _ _
theorem Xq {os:Os}{h:List (String×DataW Unit)}(args:Array Value)
  (H:(U9 Tryz.prog os).layFits Tryz.prog (h.filter fun x=>x.2.handleName?.isNone) []=true)
  (J:(U9 Tryz.prog os).layIfaces Tryz.prog (h.filter fun x=>x.2.handleName?.isNone) (Ke Tryz.prog os h)=true) :
  laidMet Tryz.prog (h.filter fun x=>x.2.handleName?.isNone) ((Ke Tryz.prog os h).forCall (fun _ _=>0) ⟨#[],args,[]⟩).memory:=by
 obtain⟨L,I⟩:=ex (h.filter fun x=>x.2.handleName?.isNone);have E:∀ x∈L,(L.map (·.1)).contains x.1=true:=fun x z=>List.contains_iff_mem.2 (List.mem_map_of_mem z)
 have D:(L.filter fun x=>(L.map (·.1)).contains x.1)=L:=yQ.2 E;have N:(L.filter fun x=>!(L.map (·.1)).contains x.1)=[]:=List.filter_eq_nil_iff.2 fun x z=>by rw[E x z];decide
 have K:Ke Tryz.prog os h=(U9 Tryz.prog os).layVars Tryz.prog L:=by unfold Ke;rw[I]
 rw[I]at H J ⊢;have O:laidMet Tryz.prog L (Ke Tryz.prog os h):=laidMet_layVars (w0:=U9 Tryz.prog os) (L.map (·.1)) [] (by rw[D,K]) (by rw[D];exact H) (by rw[D];exact J) (by rw[N];exact LaidIn.none);exact O.of_heap (by simp[World.memory,World.forCall,Input.heap])
end Go.Proofs.YtejlihcdfffafaaGreatDoor
