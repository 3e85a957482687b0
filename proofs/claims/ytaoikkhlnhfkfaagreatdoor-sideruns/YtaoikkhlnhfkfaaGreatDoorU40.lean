import Derived.Test.YtaoikkhlnhfkfaaGreatDoorU00
import Derived.Test.YtaoikkhlnhfkfaaGreatDoorU39
set_option maxHeartbeats 4000000
set_option maxRecDepth 100000
set_option linter.defProp false
set_option linter.unusedSimpArgs false
set_option linter.unusedVariables false
namespace Go.Proofs.YtaoikkhlnhfkfaaGreatDoor
open Option renaming some->A,none->sA
open Go renaming World->tz,madeCells->sC,Value->xn,Calls->s8,maxLen->s7
open Proofs.Tryz renaming prog->sr,underlying3->ur,underlying23->ue
open Go.RowKit
variable {S:Nat ->Prop}{k:Nat}
structure ER (w:M)(g n:Nat)(f:Nat->Int):Prop where
 E:∀i,i<n->w.cell? (C g i)=A (.q (f i))
 s:∀i,w.frozen? (C g i)=false
 G:g<w.heap.size
section
variable {w w':tz}{g n:Nat}{f:Nat->Int}
def LX (w:M) n(t:tI):ER (w.alloc (.c (sC #[.q 0] n) t)) w.heap.size n (λ_=>0):=by
 refine⟨λi E=>?_,λi=>jB w _ _ i,sm⟩;rw[Ŏ _ _ _ _ J];exact NK _ _ _ E
def ER.e (h:ER w g n f)(E:w'.heap[g]? = w.heap[g]?)(G:w.heap.size<=w'.heap.size):ER w' g n f:=
 ⟨λi I=>(lB (a:=⟨g,i,_⟩) E).trans (h.E i I),λi=>(ko (a:=⟨g,i,_⟩) E).trans (h.s i),rZ h.G G⟩
def ER.r (h:ER w g n f)(E:Ç S w w')(G:¬S g):=h.e (E.block g h.G G) E.h
def ER.K (h:ER w g n f)(G:k<n) x:ER (w.setCell (C g k) (.q x)) g n (A8 f k x):=by
 refine⟨λi E=>?_,λi=>by rw[ñ];exact h.s i,by simp;exact h.G⟩;by_cases e:k=i
 . subst e;rw[ś _ _ _ (by rw[h.E k G];rfl),AX]
 rw[sF _ _ _ _ (by simp_all),h.E i E,Az _ _ (λe'=>e e'.symm)]
end
structure Em (w:M)(g:Nat)(pv qv gv:Vl)(gm:Nat)(cur:Int)(rv:Vl):Prop where
 e:w.cell? (C g 0)=A pv
 a:w.cell? (C g 1)=A qv
 k:w.cell? (C g 2)=A gv
 l:w.cell? (C g 3)=A (.map (A gm))
 b:w.cell? (C g 4)=A (.q cur)
 p:w.cell? (C g 5)=A rv
 h:∀i,w.frozen? (C g i)=false
section
variable {w w':tz}{g gm:Nat}{pv qv gv rv:xn}{cur:Int}
def Em.G (h:Em w g pv qv gv gm cur rv):g<w.heap.size:=BZ h.e
def Em.r (h:Em w g pv qv gv gm cur rv)(G:Ç S w w')(E:¬S g):Em w' g pv qv gv gm cur rv:=let e:∀i,w'.cell? (C g i)=w.cell? _:=λi=>G.E (p:=⟨g,i,_⟩) h.G E;⟨by rw[e];exact h.e,by rw[e];exact h.a,by rw[e];exact h.k,by rw[e];exact h.l,by rw[e];exact h.b,by rw[e];exact h.p,λi=>by rw[G.s (p:=⟨g,i,_⟩) h.G E];exact h.h i⟩
def WB (w:M) g i j(v:Vl)(h:i≠j):(w.setCell (C g i) v).cell? (C g j)=w.cell? (C g j):=
 sF _ _ _ _ (λe=>h (by injection e))
def Em.m (h:Em w g pv qv gv gm cur rv) x:Em (w.setCell (C g 4) (.q x)) g pv qv gv gm x rv:=
 ⟨by rw[WB _ _ _ _ _ N];exact h.e,by rw[WB _ _ _ _ _ N];exact h.a,by rw[WB _ _ _ _ _ N];exact h.k,by rw[WB _ _ _ _ _ N];exact h.l,ŏ _ _ _ h.b,by rw[WB _ _ _ _ _ N];exact h.p,λi=>by rw[ñ];exact h.h i⟩
def Em.j (h:Em w g pv qv gv gm cur rv)(v:Vl):Em (w.setCell (C g 5) v) g pv qv gv gm cur v:=
 ⟨by rw[WB _ _ _ _ _ N];exact h.e,by rw[WB _ _ _ _ _ N];exact h.a,by rw[WB _ _ _ _ _ N];exact h.k,by rw[WB _ _ _ _ _ N];exact h.l,by rw[WB _ _ _ _ _ N];exact h.b,ŏ _ _ _ h.p,λi=>by rw[ñ];exact h.h i⟩
end
def Gw (g E I:Nat)(G:Vl)(k:Nat):=k=g\/k=E\/k=I\/G.ownBlock=A k
structure CG (B g gt gm n:Nat)(pv qv:Vl)(w:M)(rv:Vl)(q:FQ):Prop where
 cells:Em w g pv qv (.sl gt 0 n n) gm q.v rv
 d:ER w gt n q.tag
 e:Jk sr 3 3 w gm q.last
 row:w.ownsRow B 3 1 rv q.q.length (É (Au q.q))
 apart:gt≠g/\gm≠g/\gm≠gt
 b:rv.ownBlock≠A g/\rv.ownBlock≠A gt/\rv.ownBlock≠A gm
 t:B<=g/\B<=gt/\B<=gm
section
variable {B g gt gm n:Nat}{pv qv:xn}{w w':tz}{rv:xn}{q:FQ}
def CG.a (h:CG B g gt gm n pv qv w rv q):∀k,Gw g gt gm rv k->B<=k/\k<w.heap.size:=by
 rintro k (rfl|rfl|rfl|E)
 . exact⟨h.t.1,h.cells.G⟩
 . exact⟨h.t.2.1,h.d.G⟩
 . exact⟨h.t.2.2,h.e.G⟩
 exact AC h.row E
def CG.r (h:CG B g gt gm n pv qv w rv q)(G:Ç S w w')(E:∀k,Gw g gt gm rv k->¬S k):CG B g gt gm n pv qv w' rv q:=
 ⟨h.cells.r G (E g (.inl J)),h.d.r G (E gt (.inr (.inl J))),h.e.r G (E gm (.inr (.inr (.inl J)))),Ai h.row (λk I O=>G.block k O (E k (.inr (.inr (.inr I))))),h.apart,h.b,h.t⟩
def CG.later (h:CG B g gt gm n pv qv w rv q)(E:zW w w'):=h.r (S:=λ_=>False) (.e E) (λ_ _ h=>h)
def fD (w:M) g i(v:Vl):Ç (λk=>k=g) w (w.setCell (C g i) v):=Ç.g (S:=λk=>k=g) (Ç.I _ w) (p:=⟨g,i,_⟩) J v
def CG.i (h:CG B g gt gm n pv qv w rv q)(E:k<n) x:CG B g gt gm n pv qv (w.setCell (C gt k) (.q x)) rv {q with tag:=A8 q.tag k x}:=let G:=fD w gt k (.q x);⟨h.cells.r G (λe=>h.apart.1 e.symm),h.d.K E x,h.e.r G h.apart.2.2,Ai h.row (λk I E=>G.block k E (λe=>h.b.2.1 (by rw[<-e];exact I))),h.apart,h.b,h.t⟩
def CG.s (h:CG B g gt gm n pv qv w rv q){l}(E:w.grownBy w' (A gm))(U:Jk sr 3 3 w' gm l):CG B g gt gm n pv qv w' rv {q with last:=l}/\Ç (λk=>k=gm) w w':=let G:Ç _ w w':=⟨E.os,E.tape,E.output,E.size,λk I V=>E.block k I (λe=>V (Ö e))⟩;⟨⟨h.cells.r G (λe=>h.apart.2.1 e.symm),h.d.r G (λe=>h.apart.2.2 e.symm),U,Ai h.row (λk O I=>G.block k I (λe=>h.b.2.2 (by rw[<-e];exact O))),h.apart,h.b,h.t⟩,G⟩
def CG.m (h:CG B g gt gm n pv qv w rv q) x:CG B g gt gm n pv qv (w.setCell (C g 4) (.q x)) rv {q with v:=x}:=let E:=fD w g 4 (.q x);⟨h.cells.m x,h.d.r E h.apart.1,h.e.r E h.apart.2.1,Ai h.row (λk G I=>E.block k I (λe=>h.b.1 (by rw[<-e];exact G))),h.apart,h.b,h.t⟩
def CG.j (h:CG B g gt gm n pv qv w rv q){V:M}{v':Vl}{r':lN}(G:Ç (λk=>rv.ownBlock=A k) w V)(Y:V.ownsRow B 3 1 v' r'.length (É (Au r')))(I:∀k,v'.ownBlock=A k->rv.ownBlock=A k\/w.heap.size<=k):CG B g gt gm n pv qv (V.setCell (C g 5) v') v' {q with q:=r'}:=by
 let E:∀j,j<w.heap.size->rv.ownBlock≠A j->v'.ownBlock≠A j:=λj ac k e=>by
  obtain O|O:=I j e
  . exact k O
  omega
 let U:=E g h.cells.G h.b.1;let I:=fD V g 5 v';exact⟨(h.cells.r G (λe=>h.b.1 e)).j v',(h.d.r G (λe=>h.b.2.1 e)).r I h.apart.1,(h.e.r G (λe=>h.b.2.2 e)).r I h.apart.2.1,Ai Y (λk Z V=>I.block k V (λe=>U (by rw[<-e];exact Z))),h.apart,⟨U,E gt h.d.G h.b.2.1,E gm h.e.G h.b.2.2⟩,h.t⟩
end
structure BX (B:Nat)(W0:M)(g gt gm n:Nat)(pv qv:Vl)(w:M)(D:Nat->Prop)(q:FQ):Prop where
 b:Below B W0 w
 parts:∃rv,CG B g gt gm n pv qv w rv q/\∀k,D k↔Gw g gt gm rv k
section
variable {B:Nat}{W0:tz}{g gt gm n:Nat}{pv qv:xn}{w w':tz}{D:Nat->Prop}{q:FQ}
def BX.a (h:BX B W0 g gt gm n pv qv w D q):∀k,D k->B<=k/\k<w.heap.size:=by
 let⟨O,I,E⟩:=h.parts;exact λk G=>I.a k ((E k).1 G)
def BX.t (h:BX B W0 g gt gm n pv qv w D q):B<=w.heap.size:=by
 let⟨G,E,I⟩:=h.parts;have:=E.cells.G;have:=E.t.1;omega
def BX.r (h:BX B W0 g gt gm n pv qv w D q)(G:Ç S w w')(V:∀k,D k->¬S k)(U:∀k,S k->B<=k):BX B W0 g gt gm n pv qv w' D q:=by
 let⟨Y,O,E⟩:=h.parts;exact⟨h.b.trans (G.d h.t U),Y,O.r G (λk I=>V k ((E k).2 I)),E⟩
def BX.later (h:BX B W0 g gt gm n pv qv w D q)(E:zW w w'):=h.r (S:=λ_=>False) (.e E) (λ_ _ h=>h) (λ_ h=>h.elim)
def BX.alloc (h:BX B W0 g gt gm n pv qv w D q) o:BX B W0 g gt gm n pv qv (w.alloc o) D q:=h.later ba
def BX.e{U O q'}(h:BX B W0 g gt gm n pv qv w D q)(G:∀k,D k↔Gw g gt gm U k)(V:Ç D w w')(Y:CG B g gt gm n pv qv w' O q')(Z:∀k,O.ownBlock=A k->U.ownBlock=A k\/w.heap.size<=k):Bh (BX B W0 g gt gm n pv qv) w w' D q':=
 ⟨Gw g gt gm O,⟨h.b.trans (V.d h.t λk E=>(h.a k E).1),_,Y,λ_=>Iff.rfl⟩,V,λk E=>by
  obtain E|E|E|E:=E
  . exact .inl ((G k).2 (.inl E))
  . exact .inl ((G k).2 (.inr (.inl E)))
  . exact .inl ((G k).2 (.inr (.inr (.inl E))))
  obtain I|I:=Z k E
  . exact .inl ((G k).2 (.inr (.inr (.inr I))))
  exact .inr I⟩
end
def Tryz.M1:Go.Maps.Keyed sr 3:=Go.Maps.int_keyed ur
def Tryz.M2 (w:M):(zeroValue 3).run sr w=.ok (.q 0) w:=kr
def Tryz.t:sr.underlying 233=A (.map 3 3):=kr
section
variable {B:Nat}{W0:tz}{g gt gm n:Nat}{pv qv:xn}{w:tz}{D:Nat->Prop}{q:FQ}
def Xn (h:BX B W0 g gt gm n pv qv w D q)(Y:0<q.q.length):s8 sr 152 #[.pp g 0] w λe w'=>e=.r (.q (q.q.length:Int))/\w'=w:=by
 let⟨e,E,Z⟩:=h.parts;let G:=E.row;rw[<-AJ]at G;obtain⟨e,cap,rfl,I,U⟩:=Ro G;rw[AJ]at I E;let V:=E.cells.p;let⟨l,O⟩:=ex q.q.length;rw[O]at V I Y⊢;have e:((l:Int)==0)=false:=by simpa using (show l≠0 by omega)
 have e:(l:Int)≠0:=N;unfold s7 at U;clear E G Z h O;go_in
 go_wp2
 go_ret;exact⟨J,J⟩
end
structure Zm (B:Nat)(W0:M)(pa qa:oA)(ps:List Pk)(ws:lZ):Prop where
 b:AL W0 pa ps
 i:Bc W0 qa ws
 a:∀ad,pa=A ad->0<ps.length->ad.block<B
 e:∀ad,qa=A ad->ad.block<B
 y:Ar ps
 d:Ip ws
def zI{B}{w w':M}{a:oA}{xs:lZ}(h:Bc w a xs)(I:∀ad,a=A ad->ad.block<B)(E:Below B w w'):Bc w' a xs:=by
 obtain rfl|⟨b,off,rfl,G,U⟩:=h
 . exact .inl J
 let O:=I (C b off) J;exact .inr ⟨b,off,J,rZ G E.size,λi x V=>by rw[E.cell (p:=(C b (off+i))) O];exact U i x V⟩
section
variable {B:Nat}{W0:tz}{g gt gm n:Nat}{pv qv:xn}{w:tz}{D:Nat->Prop}{q:FQ}
def BX.u{w':M}(h:BX B W0 g gt gm n pv qv w D q)(E:zW w w'):Bh (BX B W0 g gt gm n pv qv) w w' D q:=⟨D,h.later E,.e E,λ_ G=>.inl G⟩
def xI{ps}{Z:lZ}(h:BX B W0 g gt gm n pv qv w D q):s8 sr 152 #[.pp g 0] w λe w'=>e=.r (.q (q.q.length:Int))/\Bh (BX B W0 g gt gm n pv qv) w w' D ((Co ps Z).a q):=by
 by_cases O:q.q.length=0
 .
  let e:(Co ps Z).a q=q.g:=Æ O;rw[e,O];exact (by
    have am:=Io h;let⟨e,E,U⟩:=h.parts;let aa:=E.row;rw[<-AJ]at aa;obtain⟨aj,cap,rfl,ak,al⟩:=Ro aa;rw[AJ]at ak E U;rw[O]at ak E U;have k:=E.cells.p;have k:=E.cells.b;have k:=E.cells.h 4;let G:=E.m 0;have ao:=G.cells.l;have av:=G.cells.p;have V:Hid (CG B g gt gm n pv qv (w.setCell (C g 4) (.q 0)) (.s aj 0 cap) {q with v:=0}/\(∀k,D k↔Gw g gt gm (.s aj 0 cap) k)/\Ç (λk=>k=g) w (w.setCell (C g 4) (.q 0))):=⟨G,U,fD ..⟩
    let⟨w1,g,ab,ac⟩:=G.e.a Tryz.t 0;let Y:=G.s ac ab;have an:=Y.1.cells.p;have ai:=Io Y;unfold s7 at al;clear E aa U h G ab ac Y;go_in
    go_wp2
    go_ret;refine⟨rfl,am.o.e (q':=q.g) V.o.2.1 ((V.o.2.2.l λk I=>(V.o.2.1 k).2 (.inl I)).G (ai.o.2.l λk I=>(V.o.2.1 k).2 (.inr (.inr (.inl I))))) ai.o.1 (λk I=>.inl I)⟩)
 let e:(Co ps Z).a q=q:=Ä O;rw[e];apply(Xn h N).mono
 rintro e w'⟨rfl,rfl⟩;exact⟨J,h.u br⟩
def rq{U}(h:CG B g gt gm n pv qv w U q){k}(E:k<n):s8 sr 162 #[.pp g 0,.q (k:Int)] w λe w'=>e=.r (.q (q.tag k))/\∃m,w'=w.drewN m:=by
 have G:=h.cells.k;have I:=h.d.E k E;generalize q.tag k=x at*;clear h;go_in
 go_wp2
 go_ret;exact⟨J,0,J⟩
def xu{ps}{ab:lZ}(h:BX B W0 g gt gm n pv qv w D q)(aa:0<q.q.length)(L:q.q.length<=300)(aB:q.q.Nodup)(ak:∀k,k∈q.q->k<n):s8 sr 151 #[.pp g 0] w λe w'=>e=.r (.q ((Co ps ab).pick q:Nat))/\Bh (BX B W0 g gt gm n pv qv) w w' D ((Co ps ab).h q):=by
 have r9:=Io h;let⟨k,O,aj⟩:=h.parts;let Y:=O.row;rw[<-AJ]at Y;obtain⟨r,cap,rfl,ao,l,-⟩:=Qm Y (by rw[AJ];exact aa);rw[AJ]at ao O aj Y;let V:=J8 q.tag aa;let⟨k,G⟩:=ex (q.q.getD (BN q.tag q.q) 0);have se:=ak k (by rw[<-G,ä V];exact Ζ V);let Z:=iq B 162 (.pp g 0) q.tag n r cap q.q w N aa ak Y ao l (λ_ _=>J) (λm' k G=>rq (w:=w.drewN m') (O.later (ì br _)) G);unfold IV at Z;let P:=O.cells.p;let Q:∀x,x=q.tag k->True:=λ_ _=>sk
 have I:=qY O aj;let aC:Hid ((q.q.eraseIdx (BN q.tag q.q)).length=q.q.length-1):=by
  show _=_
  rw[l6,Æ V]
 have l:Hid ((Co ps ab).pick q=k/\(Co ps ab).h q={q with q:=q.q.eraseIdx (BN q.tag q.q),v:=q.tag k}):=by
  refine⟨G,?_⟩;show q.h (q.q.getD (BN q.tag q.q) 0)=_
  rw[Q8 _ _ aB V,G];rfl
 rw[l.o.1,l.o.2];let⟨l,ac⟩:=ex q.q.length;let⟨aG,an⟩:=ex (BN q.tag q.q);let⟨T,al⟩:=ex (q.tag k);rw[G,ac,an]at Z;rw[an]at aC⊢;have w:=Io Z;have R:=qY ac al;rw[ac]at P L aa ao;rw[al];clear Y O aj h G ak V aB ac an Z Q al;go_in
 go_wp2_with fail;apply w.o.mono
 rintro e e⟨rfl,aq,ai⟩;let U:CG B g gt gm n pv qv (e.setCell (C g 5) (.sl r 0 (l-1) cap)) (.sl r 0 (l-1) cap) {q with q:=q.q.eraseIdx aG}:=
  I.o.1.j (r':=q.q.eraseIdx aG) (ai.l λj E=>by rw[E];rfl) (by rw[aC.o,R.o.1];exact aq) (λj E=>.inl E)
 let am:=I.o.1.cells.r (S:=λj=>j=r) ai (λe=>I.o.1.b.1 (by rw[<-e];rfl));have e:=am.h 5;have e:=am.p;have e:=U.cells.k;let j:=U.d.E k se;have e:=U.cells.h 4;have e:=U.cells.b;let aE:=R.o.2;rw[aE]at j;have aw:=qY U ai;clear U aq ai am aE;go_wp2
 go_ret;let h:=(I.o.2 r).2 (.inr (.inr (.inr J)));let av:=(I.o.2 g).2 (.inl J);exact⟨J,r9.o.e I.o.2 ((aw.o.2.l λj E=>by rw[E];exact h).G (((fD ..).l λj E=>by rw[E];exact av).G ((fD ..).l λj E=>by rw[E];exact av))) (aw.o.1.m T) (λj E=>.inl E)⟩
end
section
variable {B:Nat}{W0:tz}{g gt gm:Nat}{pa:Option Addr}{pcap:Nat}{qa:Option Addr}{qcap:Nat}{ps:List Pk}{ws:List Int}{D:Nat->Prop}{q:FQ}{w:tz}
def xm (E:Zm B W0 pa qa ps ws)(h:BX B W0 g gt gm ps.length (.s pa ps.length pcap) (.s qa ws.length qcap) w D q)(K:q.q.length<=300)(hv:0<=q.v/\q.v<=100000000)(se:∀f,0<=q.last f/\q.last f<=100000000){k:Nat}{p}(j:ps[k]? = A p):s8 sr 150 #[.p (A ⟨g,0,sA⟩),.int .i64 k] w λe w'=>e=.r (.t #[])/\Bh (BX B W0 g gt gm ps.length (.s pa ps.length pcap) (.s qa ws.length qcap)) w w' D ((Co ps ws).e q k):=by
 have HH:=Io h;have HB:=Io h.t;let⟨Z,X,Q⟩:=h.parts;have hkl:=Ap j;have hf8:=TZ E.y k;have hok:=Bw (E.y.d _ p j).1;have hfew:=E.y.j;have hpf:p.b=((Aj ps k:Nat):Int):=by rw[G8 j];omega
 have hlw:=E.b.a E.a h.b;have hnw:=zI E.i E.e h.b;obtain⟨x,u,-⟩:=Ao ws (Aj ps k) (by rw[E.d.len];exact hf8);have hwt:=E.d.d _ x u;have h12:=nK hwt;have hinc:DR ps ws k=p.h*(12/x):=by unfold DR;rw[D7 j,KG u]
 have hincr:=LQ E.d.y E.y k;have hdiv:=vg hwt (show 0<=p.h by omega);rw[<-hinc]at hdiv;obtain⟨O,off,rfl,hplt,V⟩:=hlw.h (by omega);obtain⟨qb,P,rfl,hqlt,hqc⟩:=hnw.h (by rw[E.d.len];omega);have hw8:=E.d.len;have hcome:(Co ps ws).e q k=⟨q.q++[k],A8 q.tag k (max q.v (q.last (Aj ps k))+DR ps ws k),q.v,A8 q.last (Aj ps k) (max q.v (q.last (Aj ps k))+DR ps ws k)⟩:=rfl;rw[hcome];have hlf:=se (Aj ps k);let⟨f,hf⟩:=ex (Aj ps k);let⟨I,hI⟩:=ex (DR ps ws k);let⟨z,R⟩:=ex p.h;let⟨tk,htk⟩:=ex p.a;let⟨U,hla⟩:=ex (q.last f);let⟨S,hcv⟩:=ex q.v;let⟨n,hnl⟩:=ex ps.length;have L:=(V k p j).1;have r9:=(V k p j).2.1;have d2:=(V k p j).2.2;rw[hf]at hpf u hf8 hlf⊢;rw[hpf]at L;rw[R]at r9 hdiv hok;rw[htk]at d2;rw[hI]at hdiv hincr⊢;rw[hla]at hlf⊢;rw[hcv]at hv⊢;have dq:=hqc f x u;have hbW:zW w (w.alloc (.c #[.int .i64 f,.int .i64 z,.int .i64 tk] 68)):=ba;have hAW:=X.later hbW;let⟨W,e⟩:=ex (w.alloc (.c #[.int .i64 f,.int .i64 z,.int .i64 tk] 68));rw[e]at hAW hbW;have b0:W.cell? ⟨w.heap.size,0,sA⟩=A (.int .i64 f):=by rw[<-e];simp
 have b1:W.cell? ⟨w.heap.size,1,sA⟩=A (.int .i64 z):=by rw[<-e];simp
 have a0:=X.cells.e;have a1:=hAW.cells.a;have a2:=hAW.cells.k;have a3:=hAW.cells.l;have p:=hAW.cells.b;rw[hcv]at p;rw[hnl]at a0 a2;rw[hw8]at a1;have eq:=jf hbW dq;have hkey:keyOf sr 3 (.int .i64 f)=A (.int .i64 f):=Go.Maps.keyOf_int_mk ur (WalkArith.wf_i64 (by omega));have hlook:=λm=>by
  have:=(hAW.later (ì br m)).e.d Tryz.M1 Tryz.t ur (Tryz.M2 _) hkey;rw[hla]at this;exact this
 have Y:Hid (CG B g gt gm ps.length (.s (A ⟨O,off,sA⟩) ps.length pcap) (.s (A ⟨qb,P,sA⟩) ws.length qcap) W Z q/\(∀k,D k↔Gw g gt gm Z k)/\zW w W):=⟨hAW,Q,hbW⟩
 have v1:IntKind.i64.wrap (z*12)=z*12:=Ĵ _ (by omega);have hf8i:(f:Int)<8:=by omega
 have hx1:=hwt.1;have hx0:¬x=0:=by omega
 have hx2:(x==0)=false:=by simpa using hx0
 have v3:IntKind.i64.wrap I=I:=Ĵ _ (by omega);let⟨T,hT⟩:=ex (max S U+I);have v2:IntKind.i64.wrap (max S U+I)=T:=by rw[<-hT];exact Ĵ _ (by omega)
 have HT:Hid (0<=T/\T<=200000000):=⟨by omega,by omega⟩
 rw[hT];have HW:=Io e;rw[hnl]at hkl hfew;have z:Hid (ps.length=n/\q.v=S/\q.last f=U):=⟨hnl,hcv,hla⟩
 clear h hlw hnw V hqc j u hinc hcome X hAW Q hf hI R htk hla hcv hnl se e hpf E;go_in
 go_wp2_with fail;rw[HW.o];go_quiet (fail);let⟨V,h⟩:=ex (W.drewN nq);rw[h];have hbV:zW W V:=by rw[<-h];exact ì br _
 have hAV:=Y.o.1.later hbV;have a2':=hAV.cells.k;rw[z.o.1]at a2';have hkn:k<ps.length:=by rw[z.o.1];exact hkl
 have ck:=hAV.d.E k hkn;have fk:=hAV.d.s k;have hA2:=hAV.i hkn T;have a3':=hA2.cells.l;have b0':(V.setCell ⟨gt,k,sA⟩ (.int .i64 T)).cell? ⟨w.heap.size,0,sA⟩=A (.int .i64 f):=by
  rw[sF _ _ _ _ (λe=>by
   have e':gt=w.heap.size:=ť Addr.block e;have:=(HH.o.a gt (((Y.o.2.1 gt).2 (.inr (.inl J))))).2;omega)]
  exact jf hbV b0
 have HV:Hid (CG B g gt gm ps.length (.s (A ⟨O,off,sA⟩) ps.length pcap) (.s (A ⟨qb,P,sA⟩) ws.length qcap) (V.setCell ⟨gt,k,sA⟩ (.int .i64 T)) Z {q with tag:=A8 q.tag k T}/\zW W V):=⟨hA2,hbV⟩
 have hwf:(Lit.int .i64 T).wf=true:=WalkArith.wf_i64 (by have:=HT.o;omega);have hA2d:=hA2.later (ì br 1);let⟨m,hupd,ht3,hg3⟩:=hA2d.e.store Tryz.M1 Tryz.t ur hf8 hkey hwf;have e:=hA2d.s hg3 ht3;have a5:=e.1.cells.p;have f5:=e.1.cells.h 5;have HV3:=Io e;let⟨x,hV2⟩:=ex (V.setCell ⟨gt,k,sA⟩ (.int .i64 T));have HV2:=Io hV2;have hupd':(Instr.mapUpdate 233 (.map (A gm)) (.int .i64 f) (.int .i64 T)).run sr x.drew=.ok () m:=by rw[<-hV2];exact hupd
 rw[hV2]at a3' b0';clear h hbV hAV hA2 a0 a1 a2 a3 p L r9 d2 dq eq b0 b1 hlook v1 v2 v3 hkn hdiv hincr hupd e hA2d ht3 hg3;go_wp2_with fail;clear hV2;go_region;let f:=HV3.o.1;let hb0:zW m (m.alloc (.c #[.int .i64 k] 3)):=ba;have HA4:=Io (f.later hb0);let HRow:Hid ((m.alloc (.c #[.int .i64 k] 3)).ownsRow B 3 1 Z q.q.length (É (Au q.q))):=HA4.o.row;let HNew:Hid (∀j u,(É [(k:Int)])[j]? = A u->(m.alloc (.c #[.int .i64 k] 3)).cell? (Addr.add ⟨m.heap.size,0,sA⟩ j)=A u):=by
  intro j u e;cases j with
  |zero=>simp[É]at e;subst e;simp[Addr.add]
  |succ j=>simp[É]at e
 let HBs:Hid (B<=(m.alloc (.c #[.int .i64 k] 3)).heap.size):=by
  have:=(HA4.o.a g (.inl J))
  show B<=_
  omega
 let⟨i0,hi,hz0,hz1,hz2⟩:=ó Tryz.b;clear f hb0;go_wp2_with (at_builtin;go_must (apply wpList_append_lies _ J _ _ 23 J B 3 i0 (.int .i64 0) 1 8 ue hi hz0 hz1 hz2 J (by decide) Z q.q.length (É (Au q.q)) J HRow.o ⟨m.heap.size,0,sA⟩ 1 1 (É [(k:Int)]) J J HNew.o (Ff _) (by decide) (by unfold s7;omega) (by omega) HBs.o _ J;intro n cap5 p ho5 hg5 hat5 hlt5;let hbut:Ç (λk=>Z.ownBlock=A k) (m.alloc (.c #[.int .i64 k] 3)) p:=⟨hg5.os,hg5.tape,hg5.output,hg5.size,λk hk K=>hg5.block k hk (λe=>K e.symm)⟩;let hc5:=HA4.o.cells.r hbut (λe=>HA4.o.b.1 e);have c5:=hc5.p;have f5:=hc5.h 5;have u:Hid (p.ownsRow B 3 1 (.s (A ⟨n,0,sA⟩) (q.q.length+1) cap5) (q.q.length+1) (É (Au q.q)++É [(k:Int)])/\Ç (λk=>Z.ownBlock=A k) (m.alloc (.c #[.int .i64 k] 3)) p/\(Z.ownBlock=A n\/n=(m.alloc (.c #[.int .i64 k] 3)).heap.size)):=⟨ho5,hbut,hat5⟩;clear ho5 hg5 hat5 hlt5 hbut hc5))
 go_end0;let hnew5:∀j,(Value.slice (A ⟨n,0,sA⟩) (q.q.length+1) cap5).ownBlock=A j->Z.ownBlock=A j\/(m.alloc (.c #[.int .i64 k] 3)).heap.size<=j:=λj f=>by
  let e:=Ö f;obtain h|h:=u.o.2.2
  . exact .inl (by rw[<-e];exact h)
  exact .inr (by rw[<-e,h];exact lr)
 let hrow5:p.ownsRow B 3 1 (.s (A ⟨n,0,sA⟩) (q.q.length+1) cap5) (q.q++[k]).length (É (Au (q.q++[k]))):=by
  rw[FJ,ý];exact u.o.1
 let hfin:=HA4.o.j (r':=q.q++[k]) u.o.2.1 hrow5 hnew5;let hDf:=Y.o.2.1;let hg_:=(hDf g).2 (.inl J);let hgt_:=(hDf gt).2 (.inr (.inl J));let hgm_:=(hDf gm).2 (.inr (.inr (.inl J)));let B:Ç D w V:=(Ç.e Y.o.2.2).G (.e HV.o.2);let e:Ç D V x:=by rw[<-HV2.o];exact(fD V gt k _).l λj f=>by rw[f];exact hgt_
 let k:Ç D x m:=by
  have:=HV3.o.2;rw[HV2.o]at this;exact(Ç.e (ì br 1)).G (this.l λj f=>by rw[f];exact hgm_)
 let e4:Ç D m (p.setCell ⟨g,5,sA⟩ (.s (A ⟨n,0,sA⟩) (q.q.length+1) cap5)):=((Ç.e ba).G (u.o.2.1.l λj f=>(hDf j).2 (.inr (.inr (.inr f))))).G ((fD ..).l λj f=>by rw[f];exact hg_);let hall:=((B.G e).G k).G e4;refine⟨J,HH.o.e hDf hall (by rw[z.o.2.1]at hfin;exact hfin) (λj f=>?_)⟩;obtain h|h:=hnew5 j f
 . exact .inl h
 exact .inr (by
  have:=((B.G e).G k).h;simp at h
  omega)
end
def LZ (g:Nat):Vl:=.agg #[.func (.func 150) #[.pp g 0] #[],.func (.func 151) #[.pp g 0] #[],.func (.func 152) #[.pp g 0] #[]]
section
variable {B:Nat}{W0:tz}{g gt gm:Nat}{pa:Option Addr}{pcap:Nat}{qa:Option Addr}{qcap:Nat}{ps:List Pk}{ws:List Int}{D:Nat->Prop}{q:FQ}{w:tz}{pv qv:xn}{n:Nat}
def ZM (h:BX B W0 g gt gm n pv qv w D q):s8 sr 209 #[LZ g] w λe w'=>e=.r (.q (q.q.length:Int))/\Bh (BX B W0 g gt gm n pv qv) w w' D ((Co ps ws).a q):=by
 have V:Hid (∀w',BX B W0 g gt gm n pv qv w' D q->Ë 152 #[.pp g 0] w' λe U=>e=.r (.q (q.q.length:Int))/\Bh (BX B W0 g gt gm n pv qv) w' U D ((Co ps ws).a q)):=λw' G=>xI G
 have O:=Io h;clear h;unfold LZ;go_in
 go_wp2_with fail;apply(V.o _ (O.o.alloc _)).mono
 rintro e w1⟨rfl,E⟩;have I:=Io (E.a ba);clear E;go_wp2
 go_ret;exact⟨J,I.o⟩
def YC (h:BX B W0 g gt gm n pv qv w D q)(I:0<q.q.length)(V:q.q.length<=300)(O:q.q.Nodup)(G:∀k,k∈q.q->k<n):s8 sr 208 #[LZ g] w λe w'=>e=.r (.q ((Co ps ws).pick q:Nat))/\Bh (BX B W0 g gt gm n pv qv) w w' D ((Co ps ws).h q):=by
 have w:Hid (∀w',BX B W0 g gt gm n pv qv w' D q->Ë 151 #[.pp g 0] w' λe Z=>e=.r (.q ((Co ps ws).pick q:Nat))/\Bh (BX B W0 g gt gm n pv qv) w' Z D ((Co ps ws).h q)):=λw' U=>xu U I V O G
 have Y:=Io h;clear h G I O;unfold LZ;go_in
 go_wp2_with fail;apply(w.o _ (Y.o.alloc _)).mono
 rintro e e⟨rfl,E⟩;have V:=Io (E.a ba);clear E;go_wp2
 go_ret;exact⟨J,V.o⟩
def ZJ (Z:Zm B W0 pa qa ps ws)(h:BX B W0 g gt gm ps.length (.s pa ps.length pcap) (.s qa ws.length qcap) w D q)(ac:q.q.length<=300)(O:0<=q.v/\q.v<=100000000)(I:∀f,0<=q.last f/\q.last f<=100000000){k:Nat}{p}(E:ps[k]? = A p):s8 sr 207 #[LZ g,.q (k:Int)] w λe w'=>e=.r (.t #[])/\Bh (BX B W0 g gt gm ps.length (.s pa ps.length pcap) (.s qa ws.length qcap)) w w' D ((Co ps ws).e q k):=by
 have p:Hid (∀w',BX B W0 g gt gm ps.length (.s pa ps.length pcap) (.s qa ws.length qcap) w' D q->Ë 150 #[.pp g 0,.q (k:Int)] w' λe w=>e=.r (.t #[])/\Bh (BX B W0 g gt gm ps.length (.s pa ps.length pcap) (.s qa ws.length qcap)) w' w D ((Co ps ws).e q k)):=λw' U=>xm Z U ac O I E
 have Y:=Io h;clear h E I O;unfold LZ;go_in
 go_wp2_with fail;apply(p.o _ (Y.o.alloc _)).mono
 rintro e e⟨rfl,G⟩;have V:=Io (G.a ba);clear G;go_wp2
 go_end0;exact⟨J,V.o⟩
end
def Kl (per:Int)(ps:List Pk)(G:lZ)(B g E:Nat)(w:M)(v:Vl)(w':M):=
 ∃l f,Dz w' w.heap.size v l/\Gn per ps G l ((List.range ps.length).map f)/\Below B w w'/\ER w' E ps.length f/\w'.cell? (C g 2)=A (.sl E 0 ps.length ps.length)
def oz ps(E:lZ) q:((Co ps E).a q).tag=q.tag:=by
 unfold Ě.a;split<;>rfl
def bN a cap ps per aa an I B U g ac aj ao w(G:Zm B U a aa ps I)(Z:1<=per)(p:per<=1000)(V:BX B U g ac aj ps.length (.s a ps.length cap) (.s aa I.length an) w ao FP):Ë 110 #[.s a ps.length cap,.q per,.f 225 (LZ g)] w λe w'=>∃v,e=.r v/\Kl per ps I B g ac w v w':=by
 have e:=G.d.y;have f:=LV (per:=per) e G.y Z;have k:∀s,Â (Co ps I) per ps FP s->s.q.q.length<=300/\s.e<=300:=λs E=>by
  have a2:=E.b f;have X:=E.a;have:=G.y.j;have:(Co ps I).rest s.q=s.q.q.length:=rfl;omega
 refine(XE (Co ps I) (BX B U g ac aj ps.length (.s a ps.length cap) (.s aa I.length an)) per ps FP B _ _ _ (⟨λ_ _ _ h=>h.a,λ_ _ _ _ _ h Y aC aI=>h.r Y aC aI⟩) f G.y Z p ?_ ?_ ?_ a cap w (G.b.a G.a V.b) V.t G.a ao V).mono ?_
 . intro w D s p E a O;let⟨aE,a1⟩:=k s E;obtain⟨aW,aq,-⟩:=RI e G.y E;exact ZJ G O aE N (λf=>by have:=aq f;omega) a
 . intro w D s E a O;let⟨H,r⟩:=ð e G.y Z E;exact YC O a (k s E).1 r.l.b (λk ax=>by have:=(r.p k ax).1;have:=r.t;omega)
 . intro w D s E O;exact ZM O
 rintro e w'⟨s,v,rfl,E,X,f,g,Y,a0,O⟩;obtain⟨aN,a,-⟩:=O.parts;have e:=a.d;rw[oz]at e;exact⟨v,J,s.p,s.q.tag,g,⟨s,E,X,f,J,J⟩,Y,e,a.cells.k⟩
def Wt g(w:M):s8 sr 121 #[.pp g 0] w λe w'=>e=.r (.f 225 (LZ g))/\zW w w':=by
 unfold LZ;go_in
 go_wp2
 go_ret;exact⟨J,br⟩
def uX (w:M) aa O E(U V:tI):CG w.heap.size (w.heap.size+1+1) w.heap.size (w.heap.size+1) E aa O (((w.alloc (.c (sC #[.q 0] E) U)).alloc (.map #[] 0)).alloc (.c #[aa,O,.sl w.heap.size 0 E E,.map (A (w.heap.size+1)),.q 0,.sn] V)) (.sn) FP/\zW w (((w.alloc (.c (sC #[.q 0] E) U)).alloc (.map #[] 0)).alloc (.c #[aa,O,.sl w.heap.size 0 E E,.map (A (w.heap.size+1)),.q 0,.sn] V)):=by
 let⟨i,Y⟩:=ex (w.alloc (.c (sC #[.q 0] E) U));let⟨e,Z⟩:=ex (i.alloc (.map #[] 0));have G:i.z=w.z+1:=by rw[<-Y];simp
 have W:e.z=w.z+1+1:=by rw[<-Z];simp[G]
 have Q:zW w i:=by rw[<-Y];exact ba
 have R:zW i e:=by rw[<-Z];exact ba
 have X:ER i w.z E (λ_=>0):=by rw[<-Y];exact LX w E U
 have T:Jk sr 3 3 e (w.z+1) (λ_=>0):=by rw[<-Z,<-G];exact iA i _ _ _
 rw[Y,Z];obtain⟨U,G⟩:∃U:Array Vl,U= #[aa,O,.sl w.z 0 E E,.map (A (w.z+1)),.q 0,.sn]:=⟨_,J⟩
 rw[<-G];have I:∀i,(e.alloc (.c U V)).cell? (C (w.z+1+1) i)=U[i]?:=λi=>by rw[<-W];exact Ŏ _ _ _ _ J
 have E:zW e (e.alloc (.c U V)):=ba;have w:=R.tr E;refine⟨⟨⟨by rw[I,G];rfl,by rw[I,G];rfl,by rw[I,G];rfl,by rw[I,G];rfl,by rw[I,G];rfl,by rw[I,G];rfl,λi=>by rw[<-W];exact jB e _ _ i⟩,X.e (w.block _ X.G) w.size,T.r (S:=λ_=>False) (.e E) id,Ĉ _ _ _ _,N,⟨(nofun),(nofun),nofun⟩,N⟩,Q.tr w⟩
def fe (V:oA) E G(O:oA) U I(w:M)(e:E<=1000):s8 sr 120 #[.s V E G,.s O U I] w λe w'=>∃g Y Z,e=.r (.pp g 0)/\BX w.heap.size w g Y Z E (.s V E G) (.s O U I) w' (Gw g Y Z (.sn)) FP/\zW w w':=by
 have e:∀w':M,(Instr.makeSlice 23 (.q E) (.q E)).run sr w'=.ok (.sl w'.z 0 E E) (w'.alloc (.c (sC #[.q 0] E) 3)):=λw'=>by
  let⟨Z,Y,g,X,e⟩:=ó Tryz.b;have:=Ŭ (P:=sr) w' 23 3 Z (.q 0) ue Y g .i64 .i64 E E N N (by rw[e];omega) N;simpa[X,Value.cells]using this
 have e:=@run_makeMap sr;go_in
 go_wp2
 go_ret;let⟨e,Y⟩:=uX w (.s V E G) (.s O U I) E 3 235;exact⟨_,_,_,J,⟨Y,_,e,λ_=>Iff.rfl⟩,Y⟩
variable {R:tI ->Vl ->M ->Prop}
def VH (a:oA) n cap per(G:oA) m I(w:M)(h:Ë 109 #[.s a n cap,.q per] w λe w'=>∃ty v,e=.r (.f ty v)/\R ty v w'):s8 sr 119 #[.s a n cap,.q per,.s G m I] w λe w'=>∃ty v,e=.r (.f ty v)/\R ty v w':=by
 have U:=Io h;clear h;go_in
 go_wp2_with fail;apply U.o.mono
 rintro e a⟨ty,v,rfl,E⟩;have O:=Io E;clear E;go_wp2
 go_ret;exact⟨ty,v,J,O.o⟩
def Ug (a:oA) n cap per(E:oA) m G(w:M)(h:Ë 109 #[.s a n cap,.q per] w λe w'=>e=.returned .n/\zW w w')
  (I:∀W,zW w W->Ë 116 #[.s E m G,.func (.func 149) #[] #[]] W λe w'=>∃ty v,e=.r (.f ty v)/\R ty v w'):
  Calls sr 119 #[.s a n cap,.q per,.s E m G] w λe w'=>∃ty v,e=.r (.f ty v)/\R ty v w':=by
 have a:=Io h;have Z:=Io I;clear h I;go_in
 go_wp2_with fail;apply a.o.mono
 rintro e a⟨rfl,U⟩;have V:=Io U;clear U;go_wp2_with fail;apply(Z.o _ V.o).mono
 rintro e a⟨ty,v,rfl,O⟩;have Y:=Io O;clear O;go_wp2
 go_ret;exact⟨ty,v,J,Y.o⟩
def iM (a:oA) cap ps per(O:oA) V(G:lZ)(w:M)(S:AL w a ps)(R:Bc w O G)(X:Ar ps)(l:1<=per)(f:per<=1000)(T:Ip G):s8 sr 68 #[.s a ps.length cap,.q per,.s O G.length V] w λe w'=>∃v,e=.r (.t #[v,.n])/\∃g I,Kl per ps G w.heap.size g I w v w':=by
 have P:Hid (qW 119 #[.s a ps.length cap,.q per,.s O G.length V] w .n):=by
   have P:=Io (DW a cap ps per w S X l f);have b:=Io (λW E=>Tx O V G W (R.d E) T);clear S R X T;generalize ps.length=n at*;generalize G.length=m at*;show s8 _ _ _ _ _;go_in
   go_wp2_with fail;apply P.o.mono
   rintro e r9⟨rfl,E⟩;have Q:=Io E;clear E;go_wp2_with fail;apply(b.o _ Q.o).mono
   rintro e b⟨rfl,rfl⟩;go_wp2
   go_ret;exact⟨J,Q.o⟩
 have L:=Io (λW=>fe a ps.length cap O G.length V W (by have:=X.j;omega));have se:Hid (∀W b Y g I Z D,zW w W ->BX W.z W g I Z ps.length (.s a ps.length cap) (.s O G.length V) b D FP ->zW W b ->zW b Y ->
   Ë 110 #[.s a ps.length cap,.q per,.f 225 (LZ g)] Y λe w'=>∃v,e=.r v/\Kl per ps G w.z g I w v w'):=λW b Y g I Z D E e w U=>by
     have b:=S.d E;have m:=R.d E;have n:=w.size;refine(bN a cap ps per O V G W.z W g I Z D Y ⟨b,m,b.i,λa a=>?_,X,T⟩ l f (e.later U)).mono ?_
     .
      obtain⟨b,off,e,b,-⟩:=m.h (by rw[T.len];omega);rw[e]at a;cases a
      exact b
     rintro e w'⟨v,rfl,l,f,e,g,m,D,b⟩;have a:=(E.tr w).trans (U.mono (rX E.size n));exact⟨v,J,l,f,BA e a.size,g,a.trans (m.mono E.size),D,b⟩
 clear S R X T;generalize b:ps.length=n at*;generalize a:G.length=m at*;clear b a;go_in
 go_wp2_with fail;apply P.o.mono
 rintro e r9⟨rfl,E⟩;have Q:=Io E;clear E;go_wp2_with fail;apply(L.o _).mono
 rintro e e⟨g,I,Z,rfl,a,w⟩;have b:=Io (λY U=>se.o r9 e Y g I Z _ Q.o a w U);clear a w;go_wp2_with fail;apply(Wt g _).mono
 rintro e e⟨rfl,U⟩;have a:=b.o e U;have b:=Io a;clear a U;go_wp2_with fail;apply b.o.mono
 rintro e a⟨v,rfl,a⟩;have b:=Io a;clear a;go_wp2
 go_ret2;exact⟨v,J,g,I,b.o⟩
def SE (a:oA) n cap per(E:oA) m G(w:M)(h:Ë 119 #[.s a n cap,.q per,.s E m G] w λe w'=>∃ty v,e=.r (.f ty v)/\R ty v w'):s8 sr 68 #[.s a n cap,.q per,.s E m G] w λe w'=>∃ty v,e=.r (.t #[.sn,.f ty v])/\R ty v w':=by
 have U:=Io h;clear h;go_in
 go_wp2_with fail;apply U.o.mono
 rintro e a⟨ty,v,rfl,I⟩;have O:=Io I;clear I;go_wp2
 go_ret2;exact⟨ty,v,J,O.o⟩
def dY (a:oA) cap ps per(G:oA) aa U(w:M) ad(V:Errs9 w ad)(Y:AL w a ps)(Z:ps.length<=cap)(O:cap<=s7) c p(h:FO ps per c p)(I:0<c):Ë 65 #[.s a ps.length cap,.q per,.s G aa U] w λe w'=>∃ty v,e=.r (.t #[.sn,.f ty v])/\(Bo w' (.f ty v) c p/\zW w w'):=by
 refine Zc (R:=λty v w'=>Bo w' _ c p/\Below _ w w') a _ _ _ G _ _ w (λW E=>(IC a _ ps _ c p W ad (V.d E.d) (Y.d E.d) Z O h I).mono ?_);rintro e w'⟨ty,v,rfl,I,a⟩;exact⟨ty,v,J,I,E.d.tr a⟩
def cO (a:oA) cap ps per(G:oA) O(I:lZ)(w:M) ad(V:Errs9 w ad)(S:AL w a ps)(T:Bc w G I)(Z:Ar ps)(X:1<=per)(U:per<=1000) c(h:BK 0 100 I c)(Y:0<c):Ë 65 #[.s a ps.length cap,.q per,.s G I.length O] w λe w'=>∃ty v,e=.r (.t #[.sn,.f ty v])/\(Bo w' (.f ty v) c (-1)/\zW w w'):=by
 refine Zd (R:=λty v w'=>Bo w' (.f ty v) c (-1)/\zW w w') a _ cap per G _ O w (λW E=>DW a cap ps per W (S.d E.d) Z X U) (λW E=>(O5 G _ I _ W ad (V.d E.d).j (T.d E.d) c h Y).mono ?_);rintro e w'⟨rfl,a⟩;have U:=E.d.tr a;let⟨ty,v,c,a⟩:=U7 (V.d U) h Y;exact⟨ty,v,by rw[c],a,U⟩
def bR (a:oA) cap ps per(G:oA) aa U(w:M) ad(V:Errs9 w ad)(Y:AL w a ps)(Z:ps.length<=cap)(O:cap<=s7) c p(h:FO ps per c p)(I:0<c):Ë 66 #[.s a ps.length cap,.q per,.s G aa U] w λe w'=>∃ty v,e=.r (.t #[.sn,.f ty v])/\(Bo w' (.f ty v) c p/\zW w w'):=by
 refine ZK (R:=λty v w'=>Bo w' _ c p/\Below _ w w') a _ _ _ G _ _ w (λW E=>(IC a _ ps _ c p W ad (V.d E.d) (Y.d E.d) Z O h I).mono ?_);rintro e w'⟨ty,v,rfl,I,a⟩;exact⟨ty,v,J,I,E.d.tr a⟩
def fZ (a:oA) cap ps per(G:oA) O(I:lZ)(w:M) ad(V:Errs9 w ad)(S:AL w a ps)(T:Bc w G I)(Z:Ar ps)(X:1<=per)(U:per<=1000) c(h:BK 0 1099511627776 I c)(Y:0<c):Ë 66 #[.s a ps.length cap,.q per,.s G I.length O] w λe w'=>∃ty v,e=.r (.t #[.sn,.f ty v])/\(Bo w' (.f ty v) c (-1)/\zW w w'):=by
 refine ZV (R:=λty v w'=>Bo w' (.f ty v) c (-1)/\zW w w') a _ cap per G _ O w (λW E=>DW a cap ps per W (S.d E.d) Z X U) (λW E=>(O5 G O I _ W ad (V.d E.d).j (T.d E.d) c h Y).mono ?_);rintro e w'⟨rfl,a⟩;have U:=E.d.tr a;let⟨ty,v,c,a⟩:=U7 (V.d U) h Y;exact⟨ty,v,by rw[c],a,U⟩
def Zf (a:oA) cap ps per(E:oA) Y I(w:M) ad(O:Errs9 w ad)(U:AL w a ps)(V:ps.length<=cap)(G:cap<=s7) c p(h:FO ps per c p)(Z:0<c):Ë 67 #[.s a ps.length cap,.q per,.s E Y I] w λe w'=>∃ty v,e=.r (.t #[.sn,.f ty v])/\(Bo w' (.f ty v) c p/\zW w w'):=
 Wq (R:=λty v w'=>Bo w' _ c p/\Below _ w w') a _ _ _ E _ _ w (IC a _ ps _ c p w ad O U V G h Z)
def Yw (a:oA) cap ps per(E:oA) V(G:lZ)(w:M) ad(O:Errs9 w ad)(X:AL w a ps)(Z:Bc w E G)(Y:Ar ps)(I:1<=per)(W:per<=1000) c(h:BK 1 3000 G c)(U:0<c):Ë 67 #[.s a ps.length cap,.q per,.s E G.length V] w λe w'=>∃ty v,e=.r (.t #[.sn,.f ty v])/\(Bo w' (.f ty v) c (-1)/\zW w w'):=by
 refine Wx (R:=λty v w'=>Bo w' _ c _/\Below _ w w') a _ _ _ E _ _ w (DW a _ ps _ w X Y I W) (λW I=>(TI E _ G W ad (O.d I).j (Z.d I) c h U).mono ?_);rintro e w'⟨rfl,rfl⟩;let⟨ty,v,Z,a⟩:=aH (O.d I) h U;exact⟨ty,v,by rw[Z],a,I⟩
def pI{w:M}{ad}(E:Errs9 w ad){G:lZ}{c}(h:EN G c)(I:0<c):∃ty v,Ha ad c=.f ty v/\Bo w (.f ty v) c (-1):=by
 obtain⟨rfl,-⟩|⟨rfl,-⟩|⟨rfl,-⟩:=h
 . exact⟨_,_,J,CJ E 2 dc⟩
 . exact⟨_,_,J,CJ E 1 dc⟩
 omega
def WL (a:oA) cap ps per(E:oA) Y I(w:M) ad(O:Errs9 w ad)(U:AL w a ps)(V:ps.length<=cap)(G:cap<=s7) c p(h:FO ps per c p)(Z:0<c):Ë 119 #[.s a ps.length cap,.q per,.s E Y I] w λe w'=>∃ty v,e=.r (.f ty v)/\(Bo w' (.f ty v) c p/\zW w w'):=
 VH (R:=λty v w'=>Bo w' _ c p/\Below _ w w') a _ _ _ E _ _ w (IC a _ ps _ c p w ad O U V G h Z)
def Xm (a:oA) cap ps per(E:oA) V(G:lZ)(w:M) ad(O:Errs9 w ad)(X:AL w a ps)(Z:Bc w E G)(Y:Ar ps)(I:1<=per)(W:per<=1000) c(h:EN G c)(U:0<c):Ë 119 #[.s a ps.length cap,.q per,.s E G.length V] w λe w'=>∃ty v,e=.r (.f ty v)/\(Bo w' (.f ty v) c (-1)/\zW w w'):=by
 refine Ug (R:=λty v w'=>Bo w' _ c _/\Below _ w w') a _ _ _ E _ _ w (DW a _ ps _ w X Y I W) (λW I=>(RA E _ G W ad (O.d I).j (Z.d I) c h U).mono ?_);rintro e w'⟨rfl,rfl⟩;let⟨ty,v,Z,a⟩:=pI (O.d I) h U;exact⟨ty,v,by rw[Z],a,I⟩
end Go.Proofs.YtaoikkhlnhfkfaaGreatDoor
