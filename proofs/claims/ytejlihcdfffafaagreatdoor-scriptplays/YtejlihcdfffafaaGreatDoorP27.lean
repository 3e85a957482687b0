import Derived.Test.YtejlihcdfffafaaGreatDoorP22
import Derived.Test.YtejlihcdfffafaaGreatDoorP12
import Derived.Deep.CutRange
set_option maxHeartbeats 40000000
set_option maxRecDepth 100000
namespace Go.Proofs.YtejlihcdfffafaaGreatDoor
open Go.RowKit
structure Ef (w:World)(g n:Nat)(f:Nat->Int):Prop where
 cell:∀ i,i<n->w.cell? ⟨g,i,none⟩=some (.int .i64 (f i))
 frozen:∀ i,w.frozen? ⟨g,i,none⟩=false
 lt:g<w.heap.size
section
variable {w w':World} {g n:Nat} {f:Nat → Int}
theorem Jr (w:World)(n:Nat)(t:TypeId):Ef (w.alloc (.cells (madeCells #[.int .i64 0] n) t)) w.heap.size n (fun _=>0):=by
 refine⟨fun i h=>?_,fun i=>vQ w _ _ i,by simp⟩;rw[qO _ _ _ _ rfl];exact Gr _ _ _ h
theorem Ef.of_block (h:Ef w g n f)(z:w'.heap[g]? = w.heap[g]?)(D:w.heap.size<=w'.heap.size):Ef w' g n f:=
 ⟨fun i E=>(yE (a:=⟨g,i,none⟩) z).trans (h.cell i E),fun i=>(xY (a:=⟨g,i,none⟩) z).trans (h.frozen i),qD h.lt D⟩
theorem Ef.but {S:Nat->Prop}(h:Ef w g n f)(z:But S w w')(D:¬S g):Ef w' g n f:=h.of_block (z.block g h.lt D) z.size
theorem Ef.put (h:Ef w g n f){k:Nat}(E:k<n)(x:Int):Ef (w.setCell ⟨g,k,none⟩ (.int .i64 x)) g n (AB f k x):=by
 refine⟨fun i D=>?_,fun i=>by rw[qK];exact h.frozen i,by simp[World.setCell];exact h.lt⟩;by_cases e:k=i
 · subst e;rw[qT _ _ _ (by rw[h.cell k E];rfl),AJ]
 rw[j9 _ _ _ _ (by intro z;cases z;exact e rfl),h.cell i D,Au _ _ (fun z=>e z.symm)]
end
structure DJ (w:World)(g:Nat)(pv qv gv:Value)(gm:Nat)(cur:Int)(rv:Value):Prop where
 c0:w.cell? ⟨g,0,none⟩=some pv
 c1:w.cell? ⟨g,1,none⟩=some qv
 c2:w.cell? ⟨g,2,none⟩=some gv
 c3:w.cell? ⟨g,3,none⟩=some (.map (some gm))
 c4:w.cell? ⟨g,4,none⟩=some (.int .i64 cur)
 c5:w.cell? ⟨g,5,none⟩=some rv
 free:∀ i,w.frozen? ⟨g,i,none⟩=false
section
variable {w w':World} {g gm:Nat} {pv qv gv rv:Value} {cur:Int}
theorem DJ.lt (h:DJ w g pv qv gv gm cur rv):g<w.heap.size:=Cg h.c0
theorem DJ.but {S:Nat->Prop}(h:DJ w g pv qv gv gm cur rv)(z:But S w w')(D:¬S g):DJ w' g pv qv gv gm cur rv:=by
 have e:∀ i,w'.cell? ⟨g,i,none⟩=w.cell? ⟨g,i,none⟩:=fun i=>z.cell (p:=⟨g,i,none⟩) h.lt D
 exact⟨by rw[e];exact h.c0,by rw[e];exact h.c1,by rw[e];exact h.c2,by rw[e];exact h.c3,by rw[e];exact h.c4,by rw[e];exact h.c5,fun i=>by rw[z.frozen (p:=⟨g,i,none⟩) h.lt D];exact h.free i⟩
theorem Rj (w:World)(g i j:Nat)(v:Value)(h:i≠j):(w.setCell ⟨g,i,none⟩ v).cell? ⟨g,j,none⟩=w.cell? ⟨g,j,none⟩:=
 j9 _ _ _ _ (fun e=>h (by injection e))
theorem DJ.setV (h:DJ w g pv qv gv gm cur rv)(x:Int):DJ (w.setCell ⟨g,4,none⟩ (.int .i64 x)) g pv qv gv gm x rv:=
 ⟨by rw[Rj _ _ _ _ _ (by omega)];exact h.c0,by rw[Rj _ _ _ _ _ (by omega)];exact h.c1,by rw[Rj _ _ _ _ _ (by omega)];exact h.c2,by rw[Rj _ _ _ _ _ (by omega)];exact h.c3,vD _ _ _ h.c4,by rw[Rj _ _ _ _ _ (by omega)];exact h.c5,fun i=>by rw[qK];exact h.free i⟩
theorem DJ.setR (h:DJ w g pv qv gv gm cur rv)(v:Value):DJ (w.setCell ⟨g,5,none⟩ v) g pv qv gv gm cur v:=
 ⟨by rw[Rj _ _ _ _ _ (by omega)];exact h.c0,by rw[Rj _ _ _ _ _ (by omega)];exact h.c1,by rw[Rj _ _ _ _ _ (by omega)];exact h.c2,by rw[Rj _ _ _ _ _ (by omega)];exact h.c3,by rw[Rj _ _ _ _ _ (by omega)];exact h.c4,vD _ _ _ h.c5,fun i=>by rw[qK];exact h.free i⟩
end
def Fg (g z h:Nat)(D:Value)(k:Nat):Prop:=k=g\/k=z\/k=h\/D.ownBlock=some k
structure Cm (B g gt gm n:Nat)(pv qv:Value)(w:World)(rv:Value)(q:FQ):Prop where
 cells:DJ w g pv qv (.slice (some ⟨gt,0,none⟩) n n) gm q.v rv
 given:Ef w gt n q.tag
 tells:Hr Tryz.prog 3 3 w gm q.last
 row:w.ownsRow B 3 1 rv q.q.length (ints (Ai q.q))
 apart:gt≠g/\gm≠g/\gm≠gt
 rapart:rv.ownBlock≠some g/\rv.ownBlock≠some gt/\rv.ownBlock≠some gm
 le:B<=g/\B<=gt/\B<=gm
section
variable {B g gt gm n:Nat} {pv qv:Value} {w w':World} {rv:Value} {q:FQ}
theorem Cm.foot (h:Cm B g gt gm n pv qv w rv q):∀ k,Fg g gt gm rv k->B<=k/\k<w.heap.size:=by
 rintro k (rfl|rfl|rfl|z)
 · exact⟨h.le.1,h.cells.lt⟩
 · exact⟨h.le.2.1,h.given.lt⟩
 · exact⟨h.le.2.2,h.tells.lt⟩
 exact Aq h.row z
theorem Cm.but {S:Nat->Prop}(h:Cm B g gt gm n pv qv w rv q)(z:But S w w')(D:∀ k,Fg g gt gm rv k->¬S k):Cm B g gt gm n pv qv w' rv q:=
 ⟨h.cells.but z (D g (.inl rfl)),h.given.but z (D gt (.inr (.inl rfl))),h.tells.but z (D gm (.inr (.inr (.inl rfl)))),Ah h.row (fun k H E=>z.block k E (D k (.inr (.inr (.inr H))))),h.apart,h.rapart,h.le⟩
theorem Cm.later (h:Cm B g gt gm n pv qv w rv q)(z:zW w w'):Cm B g gt gm n pv qv w' rv q:=h.but (S:=fun _=>False) (.ofBelow z) (fun _ _ h=>h)
theorem VW (w:World)(g i:Nat)(v:Value):But (fun k=>k=g) w (w.setCell ⟨g,i,none⟩ v):=But.setCell (S:=fun k=>k=g) (But.refl _ w) (p:=⟨g,i,none⟩) rfl v
theorem Cm.setTag (h:Cm B g gt gm n pv qv w rv q){k:Nat}(z:k<n)(x:Int):Cm B g gt gm n pv qv (w.setCell ⟨gt,k,none⟩ (.int .i64 x)) rv { q with tag:=AB q.tag k x }:=by
 have D:=VW w gt k (.int .i64 x);exact⟨h.cells.but D (fun e=>h.apart.1 e.symm),h.given.put z x,h.tells.but D h.apart.2.2,Ah h.row (fun k E z=>D.block k z (fun e=>h.rapart.2.1 (by rw[<- e];exact E))),h.apart,h.rapart,h.le⟩
theorem Cm.setLast (h:Cm B g gt gm n pv qv w rv q){l:Nat->Int}(z:w.grownBy w' (some gm))(J:Hr Tryz.prog 3 3 w' gm l):Cm B g gt gm n pv qv w' rv { q with last:=l }/\But (fun k=>k=gm) w w':=by
 have D:But (fun k=>k=gm) w w':=⟨z.os,z.tape,z.output,z.size,fun k E H=>z.block k E (fun e=>H (Option.some.inj e))⟩
 exact⟨⟨h.cells.but D (fun e=>h.apart.2.1 e.symm),h.given.but D (fun e=>h.apart.2.2 e.symm),J,Ah h.row (fun k I E=>D.block k E (fun e=>h.rapart.2.2 (by rw[<- e];exact I))),h.apart,h.rapart,h.le⟩,D⟩
theorem Cm.setV (h:Cm B g gt gm n pv qv w rv q)(x:Int):Cm B g gt gm n pv qv (w.setCell ⟨g,4,none⟩ (.int .i64 x)) rv { q with v:=x }:=by
 have z:=VW w g 4 (.int .i64 x);exact⟨h.cells.setV x,h.given.but z h.apart.1,h.tells.but z h.apart.2.1,Ah h.row (fun k D E=>z.block k E (fun e=>h.rapart.1 (by rw[<- e];exact D))),h.apart,h.rapart,h.le⟩
theorem Cm.setR (h:Cm B g gt gm n pv qv w rv q){D:World}{z:Value}{r':List Nat}(I:But (fun k=>rv.ownBlock=some k) w D)(V:D.ownsRow B 3 1 z r'.length (ints (Ai r')))(N:∀ k,z.ownBlock=some k->rv.ownBlock=some k\/w.heap.size<=k):Cm B g gt gm n pv qv (D.setCell ⟨g,5,none⟩ z) z { q with q:=r' }:=by
 have H:∀ j,j<w.heap.size->rv.ownBlock≠some j->z.ownBlock≠some j:=fun j W U e=>by
  rcases N j e with J|J
  · exact U J
  omega
 have K:=H g h.cells.lt h.rapart.1;have E:=VW D g 5 z;exact⟨(h.cells.but I (fun e=>h.rapart.1 e)).setR z,(h.given.but I (fun e=>h.rapart.2.1 e)).but E h.apart.1,(h.tells.but I (fun e=>h.rapart.2.2 e)).but E h.apart.2.1,Ah V (fun k Q O=>E.block k O (fun e=>K (by rw[<- e];exact Q))),h.apart,⟨K,H gt h.given.lt h.rapart.2.1,H gm h.tells.lt h.rapart.2.2⟩,h.le⟩
end
structure BJ (B:Nat)(W0:World)(g gt gm n:Nat)(pv qv:Value)(w:World)(D:Nat->Prop)(q:FQ):Prop where
 env:Below B W0 w
 parts:∃ rv,Cm B g gt gm n pv qv w rv q/\∀ k,D k↔Fg g gt gm rv k
section
variable {B:Nat} {W0:World} {g gt gm n:Nat} {pv qv:Value} {w w':World} {D:Nat → Prop} {q:FQ}
theorem BJ.foot (H:BJ B W0 g gt gm n pv qv w D q):∀ k,D k->B<=k/\k<w.heap.size:=by
 obtain⟨I,E,z⟩:=H.parts;exact fun k h=>E.foot k ((z k).1 h)
theorem BJ.le (z:BJ B W0 g gt gm n pv qv w D q):B<=w.heap.size:=by
 obtain⟨E,h,H⟩:=z.parts;have:=h.cells.lt;have:=h.le.1;omega
theorem BJ.but {S:Nat->Prop}(h:BJ B W0 g gt gm n pv qv w D q)(z:But S w w')(N:∀ k,D k->¬S k)(J:∀ k,S k->B<=k):BJ B W0 g gt gm n pv qv w' D q:=by
 obtain⟨I,K,E⟩:=h.parts;exact⟨h.env.trans (z.below h.le J),I,K.but z (fun k H=>N k ((E k).2 H)),E⟩
theorem BJ.later (h:BJ B W0 g gt gm n pv qv w D q)(z:zW w w'):BJ B W0 g gt gm n pv qv w' D q:=h.but (S:=fun _=>False) (.ofBelow z) (fun _ _ h=>h) (fun _ h=>h.elim)
theorem BJ.alloc (h:BJ B W0 g gt gm n pv qv w D q)(o:Obj):BJ B W0 g gt gm n pv qv (w.alloc o) D q:=h.later ba
theorem iT (B:Nat)(I:World)(g K D n:Nat)(H J:Value):IK (BJ B I g K D n H J) B:=⟨fun _ _ _ h=>h.foot,fun _ _ _ _ _ h z N E=>h.but z N E⟩
theorem BJ.leaves {J E:Value}{q':FQ}(I:BJ B W0 g gt gm n pv qv w D q)(z:∀ k,D k↔Fg g gt gm J k)(K:But D w w')(O:Cm B g gt gm n pv qv w' E q')(N:∀ k,E.ownBlock=some k->J.ownBlock=some k\/w.heap.size<=k):AX (BJ B W0 g gt gm n pv qv) w w' D q':=
 ⟨Fg g gt gm E,⟨I.env.trans (K.below I.le fun k h=>(I.foot k h).1),E,O,fun _=>Iff.rfl⟩,K,fun k h=>by
  rcases h with h|h|h|h
  · exact .inl ((z k).2 (.inl h))
  · exact .inl ((z k).2 (.inr (.inl h)))
  · exact .inl ((z k).2 (.inr (.inr (.inl h))))
  rcases N k h with H|H
  · exact .inl ((z k).2 (.inr (.inr (.inr H))))
  exact .inr H⟩
end
structure Dx (w wr:World)(gt gc gd gl n:Nat)(v:Value)(out:List Sn)(next:Nat)(tag last:Nat->Int):Prop where
 own:DX wr w.heap.size v out
 tags:Ef wr gt n tag
 came:Jq wr gc n next
 done:ES wr gd n out
 last:Ef wr gl 8 last
 ne:gt≠gc/\gt≠gd/\gt≠gl/\gc≠gd/\gc≠gl/\gd≠gl
 vne:v.ownBlock≠some gt/\v.ownBlock≠some gc/\v.ownBlock≠some gd/\v.ownBlock≠some gl
 new:w.heap.size<=gt/\w.heap.size<=gc/\w.heap.size<=gd/\w.heap.size<=gl
 below:zW w wr
section
variable {w wr wr':World} {gt gc gd gl n:Nat} {v:Value} {out:List Sn} {next:Nat} {tag last:Nat → Int}
theorem Dx.later (h:Dx w wr gt gc gd gl n v out next tag last)(z:zW wr wr'):Dx w wr' gt gc gd gl n v out next tag last:=
 ⟨Ah h.own (fun g _ D=>z.block g D),h.tags.of_block (z.block gt h.tags.lt) z.size,h.came.of_block (z.block gc h.came.lt) z.size,h.done.of_block (z.block gd h.done.lt) z.size,h.last.of_block (z.block gl h.last.lt) z.size,h.ne,h.vne,h.new,h.below.tr z⟩
theorem Dx.setCame (h:Dx w wr gt gc gd gl n v out next tag last)(D:next<n):Dx w (wr.setCell ⟨gc,next,none⟩ (.bool true)) gt gc gd gl n v out (next+1) tag last:=by
 have z:=Jn wr gc next (.bool true);exact⟨Ah h.own (fun g I H=>z.block g H (fun e=>h.vne.2.1 (by rw[<- e];exact I))),h.tags.but z h.ne.1,h.came.put D,h.done.of_block (z.block gd h.done.lt (fun e=>h.ne.2.2.2.1 e.symm)) z.size,h.last.but z (fun e=>h.ne.2.2.2.2.1 e.symm),h.ne,h.vne,h.new,h.below.trans (z.below h.below.size fun k E=>by rw[E];exact h.new.2.1)⟩
theorem Dx.setTag (h:Dx w wr gt gc gd gl n v out next tag last){k:Nat}(D:k<n)(x:Int):Dx w (wr.setCell ⟨gt,k,none⟩ (.int .i64 x)) gt gc gd gl n v out next (AB tag k x) last:=by
 have z:=Jn wr gt k (.int .i64 x);exact⟨Ah h.own (fun g E H=>z.block g H (fun e=>h.vne.1 (by rw[<- e];exact E))),h.tags.put D x,h.came.of_block (z.block gc h.came.lt (fun e=>h.ne.1 e.symm)) z.size,h.done.of_block (z.block gd h.done.lt (fun e=>h.ne.2.1 e.symm)) z.size,h.last.but z (fun e=>h.ne.2.2.1 e.symm),h.ne,h.vne,h.new,h.below.trans (z.below h.below.size fun k D=>by rw[D];exact h.new.1)⟩
theorem Dx.setLast (h:Dx w wr gt gc gd gl n v out next tag last){f:Nat}(H:f<8)(x:Int):Dx w (wr.setCell ⟨gl,f,none⟩ (.int .i64 x)) gt gc gd gl n v out next tag (AB last f x):=by
 have z:=Jn wr gl f (.int .i64 x);exact⟨Ah h.own (fun g I E=>z.block g E (fun e=>h.vne.2.2.2 (by rw[<- e];exact I))),h.tags.but z h.ne.2.2.1,h.came.of_block (z.block gc h.came.lt h.ne.2.2.2.2.1) z.size,h.done.of_block (z.block gd h.done.lt h.ne.2.2.2.2.2) z.size,h.last.put H x,h.ne,h.vne,h.new,h.below.trans (z.below h.below.size fun k D=>by rw[D];exact h.new.2.2.2)⟩
theorem Dx.newLast (h:Dx w wr gt gc gd gl n v out next tag last)(t:TypeId):Dx w (wr.alloc (.cells (madeCells #[.int .i64 0] 8) t)) gt gc gd wr.heap.size n v out next tag (fun _=>0):=by
 have z:=h.later (br.alloc lr (.cells (madeCells #[.int .i64 0] 8) t));have H:=h.tags.lt;have D:=h.came.lt;have E:=h.done.lt;refine⟨z.own,z.tags,z.came,z.done,Jr wr 8 t,⟨h.ne.1,h.ne.2.1,by omega,h.ne.2.2.2.1,by omega,by omega⟩,⟨h.vne.1,h.vne.2.1,h.vne.2.2.1,fun e=>?_⟩,⟨h.new.1,h.new.2.1,h.new.2.2.1,h.below.size⟩,z.below⟩;have:=(Aq h.own e).2;omega
theorem Dx.sent (h:Dx w wr gt gc gd gl n v out next tag last)(b:Nat)(W:b<n){K z:World}{f t:Int}{g' cap:Nat}(V:zW wr K)
  (ab:z.ownsRow w.heap.size 61 3 (.slice (some ⟨g',0,none⟩) (out.length+1) cap) (out.length+1) (cellsS out++cellsS [⟨b,f,t⟩])) (I:K.grownBy z v.ownBlock) (N:v.ownBlock=some g'\/g'=K.heap.size) :
  Dx w (z.setCell ⟨gd,b,none⟩ (.bool true)) gt gc gd gl n (.slice (some ⟨g',0,none⟩) (out.length+1) cap) (out++[⟨b,f,t⟩]) next tag last:=by
 have J:∀ g,g<wr.heap.size->v.ownBlock≠some g->g'≠g:=fun g E ai e=>by
  rcases N with N|N
  · exact ai (by rw[N,e])
  have:=V.size;omega
 have Z:But (fun k=>v.ownBlock=some k) K z:=⟨I.os,I.tape,I.output,I.size,fun k H ad=>I.block k H (fun e=>ad e.symm)⟩
 have D:But (fun k=>v.ownBlock=some k) wr z:=(But.ofBelow V).trans Z;have O:=Jn z gd b (.bool true);have Y:=h.done.of_block (D.block gd h.done.lt h.vne.2.2.1) D.size;have Q:∀ g,g<wr.heap.size->g≠gd->v.ownBlock≠some g->(z.setCell ⟨gd,b,none⟩ (.bool true)).heap[g]? = wr.heap[g]?:=fun g E aj ac=>(O.block g (qD E D.size) aj).trans (D.block g E ac)
 have U:wr.heap.size<=(z.setCell ⟨gd,b,none⟩ (.bool true)).heap.size:=qI D.size O.size;refine⟨?_,h.tags.of_block (Q gt h.tags.lt h.ne.2.1 h.vne.1) U,h.came.of_block (Q gc h.came.lt h.ne.2.2.2.1 h.vne.2.1) U,Y.put b W f t,h.last.of_block (Q gl h.last.lt (fun e=>h.ne.2.2.2.2.2 e.symm) h.vne.2.2.2) U,h.ne,⟨fun e=>J gt h.tags.lt h.vne.1 (Option.some.inj e),fun e=>J gc h.came.lt h.vne.2.1 (Option.some.inj e),fun e=>J gd h.done.lt h.vne.2.2.1 (Option.some.inj e),fun e=>J gl h.last.lt h.vne.2.2.2 (Option.some.inj e)⟩,h.new,?_⟩
 · unfold DX;rw[qJ,GY];exact Ah ab (fun g E al=>O.block g al (fun e=>J gd h.done.lt h.vne.2.2.1 (by rw[<- e];exact Option.some.inj E)))
 exact(h.below.trans (D.below h.below.size fun k H=>(Aq h.own H).1)).trans (O.below (qI h.below.size D.size) fun k H=>by rw[H];exact h.new.2.2.1)
end
theorem ZK (w:World)(n:Nat)(E H:TypeId):Dx w ((((w.alloc (.cells (madeCells #[.int .i64 0] n) E)).alloc (.cells (madeCells #[.bool false] n) H)).alloc (.cells (madeCells #[.bool false] n) H)).alloc (.cells (madeCells #[.int .i64 0] 8) E)) w.heap.size (w.heap.size+1) (w.heap.size+2) (w.heap.size+3) n (.slice none 0 0) [] 0 (fun _=>0) (fun _=>0):=by
 obtain⟨z,K⟩:=ex (w.alloc (.cells (madeCells #[.int .i64 0] n) E));obtain⟨h,N⟩:=ex (z.alloc (.cells (madeCells #[.bool false] n) H));obtain⟨D,J⟩:=ex (h.alloc (.cells (madeCells #[.bool false] n) H));obtain⟨ab,U⟩:=ex (D.alloc (.cells (madeCells #[.int .i64 0] 8) E));have s1:z.heap.size=w.heap.size+1:=by rw[<- K];simp
 have ac:h.heap.size=w.heap.size+2:=by rw[<- N];simp[s1]
 have al:D.heap.size=w.heap.size+3:=by rw[<- J];simp[ac]
 have aj:zW w z:=by rw[<- K];exact ba
 have Z:zW z h:=by rw[<- N];exact ba
 have O:zW h D:=by rw[<- J];exact ba
 have I:zW D ab:=by rw[<- U];exact ba
 have Y:Ef z w.heap.size n (fun _=>0):=by rw[<- K];exact Jr w n E
 have ad:Jq h (w.heap.size+1) n 0:=by rw[<- N,<- s1];exact SL z n H
 have V:ES D (w.heap.size+2) n []:=by rw[<- J,<- ac];exact Ny h n H
 have ai:Ef ab (w.heap.size+3) 8 (fun _=>0):=by rw[<- U,<- al];exact Jr D 8 E
 rw[K,N,J,U];have Q:=(Z.tr O).trans (I.mono (qI Z.size O.size));have W:=O.tr I;exact⟨qQ _ _ _ _,Y.of_block (Q.block _ Y.lt) Q.size,ad.of_block (W.block _ ad.lt) W.size,V.of_block (I.block _ V.lt) I.size,ai,by omega,⟨(fun e=>by cases e),(fun e=>by cases e),(fun e=>by cases e),fun e=>by cases e⟩,by omega,aj.tr Q⟩
def Ic (ps:List Pk)(s:St FQ):Nat:=2*(ps.length-s.out.length)+if s.next<ps.length/\Ar ps s.next<=s.now then 0 else 1
def TI (per:Int)(ps:List Pk)(ws:List Int)(w:World)(e:Ending)(w':World):Prop:=
 ∃ v h l f,e=.returned (.tuple #[v,.slice (some ⟨h,0,none⟩) ps.length ps.length])/\DX w' w.heap.size v l/\Ef w' h ps.length f/\Ff per ps ws l ((List.range ps.length).map f)/\zW w w'
theorem Vi {ps:List Pk}{s s':St FQ}(h:s'.out.length=s.out.length+1)(z:s.out.length<ps.length):Ic ps s'<Ic ps s:=by
 unfold Ic;rw[h];split <;> split <;> omega
theorem VT {ps:List Pk}{s s':St FQ}(D:s'.out=s.out)(z:s'.next<ps.length/\Ar ps s'.next<=s'.now)(h:¬(s.next<ps.length/\Ar ps s.next<=s.now)):Ic ps s'<Ic ps s:=by
 unfold Ic;rw[D,if_pos z,if_neg h];omega
theorem Xr (dn:oA)(fh:Nat)(ps:List Pk)(per:Int)(du:oA)(eK:Nat)(ws:List Int)(w:World)(V:Aw w dn ps)(dr:AR w du ws)(cM:Al ps)(Z:1<=per)(dX:per<=1000)(ca:Gd ws):Calls Tryz.prog 49 #[.slice dn ps.length fh,.int .i64 per,.slice du ws.length eK] w fun e w'=>TI per ps ws w e w':=by
 have z:=qZ V cM ca.ok;have ff:=cM.few;have eo:=ca.len;obtain⟨eb,el,rfl,-,dt⟩:=dr.place (by omega);have ew:Hid (∀ Q f,zW w Q->f<8->∃ x,BI ws f=x/\1<=x/\x<=12/\Q.cell? ⟨eb,el+f,none⟩=some (.int .i64 x)):=fun Q f ao cp=>by
  obtain⟨x,a7,-⟩:=Ab ws f (by omega);have:=ca.nums.each f x a7;exact⟨x,IZ a7,this.1,this.2,j7 ao (dt f x a7)⟩
 obtain⟨n,cd⟩:=ex ps.length;have ac:=qX cd;clear V dr cM ca dt;rw[cd,eo];rw[cd]at ff;have e':∀ w':World,(Instr.makeSlice 120 (.int .i64 n) (.int .i64 n)).run Tryz.prog w'=.ok (.slice (some ⟨w'.heap.size,0,none⟩) n n) (w'.alloc (.cells (madeCells #[.bool false] n) 4)):=fun w'=>by
  obtain⟨b6,b7,bv,b4,b9⟩:=vL Tryz.infoBool;have:=yW (P:=Tryz.prog) w' 120 4 b6 (.bool false) Tryz.underlying120 b7 bv .i64 .i64 n n (by omega) (by omega) (by rw[b9];omega) (by omega);simpa[b4,Value.cells]using this
 have eS:∀ w':World,(Instr.makeSlice 27 (.int .i64 n) (.int .i64 n)).run Tryz.prog w'=.ok (.slice (some ⟨w'.heap.size,0,none⟩) n n) (w'.alloc (.cells (madeCells #[.int .i64 0] n) 3)):=fun w'=>by
  obtain⟨b6,b7,bv,b4,b9⟩:=vL Tryz.infoInt;have:=yW (P:=Tryz.prog) w' 27 3 b6 (.int .i64 0) Tryz.underlying27 b7 bv .i64 .i64 n n (by omega) (by omega) (by rw[b9];omega) (by omega);simpa[b4,Value.cells]using this
 have cH:∀ w':World,(Instr.makeSlice 27 (.int .i64 8) (.int .i64 8)).run Tryz.prog w'=.ok (.slice (some ⟨w'.heap.size,0,none⟩) 8 8) (w'.alloc (.cells (madeCells #[.int .i64 0] 8) 3)):=fun w'=>by
  obtain⟨b6,b7,bv,b4,b9⟩:=vL Tryz.infoInt;have:=yW (P:=Tryz.prog) w' 27 3 b6 (.int .i64 0) Tryz.underlying27 b7 bv .i64 .i64 8 8 (by omega) (by omega) (by rw[b9];omega) (by omega);simpa[b4,Value.cells]using this
 have d0:Hid (Dx w ((((w.alloc (.cells (madeCells #[.int .i64 0] n) 3)).alloc (.cells (madeCells #[.bool false] n) 4)).alloc (.cells (madeCells #[.bool false] n) 4)).alloc (.cells (madeCells #[.int .i64 0] 8) 3)) w.heap.size (w.heap.size+1) (w.heap.size+2) (w.heap.size+3) n (.slice none 0 0) [] 0 (fun _=>0) (fun _=>0)):=ZK w n _ _;have e9:=qX cH;obtain⟨eJ,ez,e8,em,ea⟩:=vL Tryz.infoSent;clear cd;go_in
 go_wp2_with fail;obtain⟨an,hgt⟩:=ex w.heap.size;obtain⟨aN,cy⟩:=ex (w.heap.size+1);obtain⟨ab,cL⟩:=ex (w.heap.size+2);obtain⟨db,cX⟩:=ex (w.heap.size+3);obtain⟨fg,cF⟩:=ex ((((w.alloc (.cells (madeCells #[.int .i64 0] n) 3)).alloc (.cells (madeCells #[.bool false] n) 4)).alloc (.cells (madeCells #[.bool false] n) 4)).alloc (.cells (madeCells #[.int .i64 0] 8) 3));have e4:Hid (Dx w fg an aN ab db n (.slice none 0 0) [] 0 (fun _=>0) (fun _=>0)):=by
  have:=d0.o;rwa[cF,cX,cL,cy,hgt]at this
 rw[cF,cX,cL,cy,hgt];clear cF cX cL cy hgt d0 e' cH eS;go_loopg [8,12,13,14] (Ic ps ⟨[],0,0,EK⟩) (fun en v bh eI t wr=>∃ s a0,en=Ic ps s/\bh=.slice (some ⟨a0,0,none⟩) 8 8/\eI=.int .i64 s.q.v/\t=.int .i64 s.now/\Reaches (BR ps ws) per ps EK s/\Dx w wr an aN ab a0 n v s.out s.next s.q.tag s.q.last)
 case atStart=>exact⟨_,db,rfl,rfl,rfl,rfl,.start,e4.o⟩
 case round=>
  obtain⟨s,a0,rfl,rfl,rfl,rfl,bt,bm⟩:=hrel;obtain⟨eA,ei⟩:∃ Q,Q=wr:=⟨_,rfl⟩
  subst ei;have cm:=qX bt;have cf:=qX bm;obtain⟨a4,a',cG,eM,et,-,-,-⟩:=bm.own.open;have eR:=bt.now_in ⟨Z,dX⟩ z.o.2.1;have fb:=bt.count (JI z.o.2.2 z.o.2.1 Z);have c6:=bt.next_le;rw[ac.o]at c6;have e7:s.out.length<=n:=by omega
  have bs:=NL z.o.2.2 z.o.2.1 bt;have eC:0<=s.q.v/\s.q.v<=10000000:=by have:=bs.1;omega
  obtain⟨E,ci⟩:=ex s.now;obtain⟨L,co⟩:=ex s.out.length;obtain⟨ap,cq⟩:=ex s.q.v;have b0:=qZ ci co cq;rw[ci,co]at eR;rw[cq]at eC;rw[co]at e7 eM cG;have fL:=qX cG;rw[ci,cq];unfold maxLen at et;clear bt bm fb c6 ci co cq bs;subst cG;by_cases ds:L<n
  ·
   go_wp2_with fail;go_loopg [15,16,17] n (fun eW fd d8 ec eE=>∃(k:Nat)(s1:St FQ)(first U:Int),eW=n-k/\k<=n/\ec=.int .i64 k/\fd=.int .i64 U/\d8=.int .i64 first/\s1.q.v=ap/\Ez per ps ws s s1 k first U/\Dx w eE an aN ab a0 n (.slice a4 L a') s1.out s1.next s1.q.tag s1.q.last)
   case atStart=>exact⟨0,s,-1,-1,rfl,qR _,rfl,rfl,rfl,b0.o.2.2,Ez.start cm.o,cf.o⟩
   case round=>
    obtain⟨k,s1,first,U,rfl,fk,rfl,rfl,rfl,dT,ad,bm⟩:=hrel;obtain⟨K,ek⟩:∃ Q,Q=wr:=⟨_,rfl⟩
    subst ek;have be:=qY ad dT;have W:=qX bm;have bw:=ad.now.trans b0.o.1;have cJ:=qX bw;have ev:=ad.reach.next_le;rw[ac.o]at ev;clear ad bm dT bw;by_cases aw:k<n
    ·
     obtain⟨p,hpk,-⟩:=Ab ps k (by rw[ac.o];exact aw);obtain⟨bN,b8,rfl,-,aq⟩:=z.o.1.place (by rw[ac.o];omega);have fr:=A7 (z.o.2.1.each _ p hpk).1;have b3:=Pb z.o.2.1 k;have ck:p.flow=((Ag ps k:Nat):Int):=by rw[FI hpk];omega
     have a3:=Av hpk;have cn:=j7 W.o.below (aq k p hpk).1;have d1:=j7 W.o.below (aq k p hpk).2.1;have d2:=j7 W.o.below (aq k p hpk).2.2;have cg:=W.o.came.cell k aw;have cI:=qY hpk a3;obtain⟨t,bc⟩:=ex (!decide (k<s1.next)&&decide (p.tick<=E));have a1:=qX bc;have ce:Hid (∀ Q,zW w Q->Q.cell? ⟨bN,b8+k*3,none⟩=some (.int .i64 p.flow)/\Q.cell? ⟨bN,b8+k*3+1,none⟩=some (.int .i64 p.size)):=fun Q ao=>⟨j7 ao (aq k p hpk).1,j7 ao (aq k p hpk).2.1⟩
     clear aq a3 hpk bc;go_upto_region 14 with fail
     go_cut [55]from 36 to 121 (fun eh cQ=>eh=.bool t/\K=cQ)
     case first=>
      by_cases bj:k<s1.next
      ·
       rw[qM bj]at cg;have b5:Hid (t=false):=by
        show t=false
        rw[<- a1.o,qM bj];rfl
       go_wp2_with fail;go_meet;exact⟨by rw[b5.o],rfl⟩
      rw[qF bj]at cg;by_cases a3:p.tick<=E
      ·
       have b5:Hid (t=true):=by
        show t=true
        rw[<- a1.o,qF bj,qM a3];rfl
       go_wp2_with fail;go_meet;exact⟨by rw[b5.o],rfl⟩
      have b5:Hid (t=false):=by
       show t=false
       rw[<- a1.o,qF bj,qF a3];rfl
      go_wp2_with fail;go_meet;exact⟨by rw[b5.o],rfl⟩
     case rest=>
     obtain⟨rfl,ej⟩:=hcut;subst ej;go_upto_if 55 with fail
     go_cut [18,19]from 36 to 121 (fun _ _ cQ=>∃ h,Ez per ps ws s h k first U/\h.q.v=ap/\(Ar ps k<=h.now->k<h.next)/\Dx w cQ an aN ab a0 n (.slice a4 L a') h.out h.next h.q.tag h.q.last)
     case first=>
      by_cases bc:t=true
      ·
       have cc:¬k<s1.next/\p.tick<=E:=by
        have:=a1.o;rw[bc]at this;simpa using this
       obtain⟨cx,D⟩:=be.o.1.comes z.o.2.1 cI.o.1 cc.1 (by rw[cJ.o];exact cc.2);have am:=W.o.setCame (show s1.next<n by omega);rw[<- cx]at am D;obtain⟨x,a7,ai,fv,dp⟩:=ew.o (K.setCell ⟨aN,k,none⟩ (.bool true)) (Ag ps k) am.below b3;obtain⟨cV,cR⟩:=ce.o _ am.below;rw[ck]at cV;have cw:=am.last.cell (Ag ps k) b3;have fi:=W.o.came.frozen k;have es:=am.tags.cell k aw;have fa:=am.tags.frozen k;have bs:=NL z.o.2.2 z.o.2.1 be.o.1.reach;have c9:0<=s1.q.last (Ag ps k)/\s1.q.last (Ag ps k)<=10000000:=by have:=bs.2.1 (Ag ps k);omega
       have cv:Dn ps ws k=p.size*(12/x):=by unfold Dn;rw[CP cI.o.1,a7]
       have cu:=Jt z.o.2.2 z.o.2.1 k;have d7:=z.o.2.2.part (Ag ps k);rw[a7]at d7;have ep:Int.tdiv 12 x=12/x:=Int.tdiv_eq_ediv_of_nonneg (by decide);have cT:s1.q.come (Ag ps) (Dn ps ws) k=⟨s1.q.q++[k],AB s1.q.tag k (max ap (s1.q.last (Ag ps k))+Dn ps ws k),s1.q.v,AB s1.q.last (Ag ps k) (max ap (s1.q.last (Ag ps k))+Dn ps ws k)⟩:=by
        unfold FQ.come;rw[be.o.2]
       rw[cT]at D;rw[cv]at cu D;obtain⟨f,cp⟩:=ex (Ag ps k);obtain⟨c8,cA⟩:=ex p.size;obtain⟨y,bk⟩:=ex (12/x);rw[cp]at cw c9 dp cV D b3;obtain⟨bh,c0⟩:=ex (s1.q.last f);rw[cA]at cR cu D;rw[bk]at ep cu D d7;rw[c0]at cw c9 D;obtain⟨a6,ch⟩:=ex (c8*y);rw[ch]at cu D;obtain⟨T,bp⟩:=ex (max ap bh+a6);rw[bp]at D;have v0:wrap64 y=y:=by unfold wrap64;omega
       have v1:wrap64 (c8*y)=a6:=by rw[ch];unfold wrap64;omega
       have e5:¬x=0:=by omega
       have aj:(x==0)=false:=by simpa using e5
       have fj:(f:Int)<8:=by omega
       obtain⟨eT,eq⟩:=ex (K.setCell ⟨aN,k,none⟩ (.bool true));rw[eq]at am dp cV cR cw es fa;have cE:=(am.setTag aw T).later (qL br 1);have b1:=am.setTag aw T;have fS:=b1.last.cell f b3;have fl:=b1.last.frozen f;have eN:=b1.tags.cell k aw;rw[AJ]at eN;have bl:Hid (∃ h,Ez per ps ws s h k first U/\h.q.v=ap/\(Ar ps k<=h.now->k<h.next)/\Dx w (((eT.setCell ⟨an,k,none⟩ (.int .i64 T)).drewN 1).setCell ⟨a0,f,none⟩ (.int .i64 T)) an aN ab a0 n (.slice a4 L a') h.out h.next h.q.tag h.q.last):=⟨_,D,be.o.2,fun _=>yV _,cE.setLast b3 T⟩
       subst bc;by_cases fN:bh<ap
       ·
        obtain rfl:T=ap+a6:=by omega
        have v2:wrap64 (ap+a6)=ap+a6:=by unfold wrap64;omega
        clear D am cE b1 cT cv bs c0 cp ch bp ck cn d1 d2 a7 bk cx cc cA;go_wp2
        go_region;go_wp2_with fail;go_meet;exact bl.o
       obtain rfl:T=bh+a6:=by omega
       have v2:wrap64 (bh+a6)=bh+a6:=by unfold wrap64;omega
       clear D am cE b1 cT cv bs c0 cp ch bp ck cn d1 d2 a7 bk cx cc cA;go_wp2
       go_region;go_wp2_with fail;go_meet;exact bl.o
      have d5:Hid (t=false):=by
       show t=false
       simpa using bc
      have dv:Ar ps k<=s1.now->k<s1.next:=fun ee=>by
       have:=a1.o;rw[d5.o]at this;have dX:¬(¬k<s1.next/\p.tick<=E):=by simpa using this
       rw[cI.o.2,cJ.o]at ee;omega
      have ey:=qX dv;have fc:=d5.o;subst fc;clear bc dv cn d1 d2 cg;go_wp2_with fail;go_meet;exact⟨s1,be.o.1,be.o.2,ey.o,W.o⟩
     case rest=>
     obtain⟨h,D,ar,hs2,O⟩:=hcut;have aB:=qZ D ar hs2;have aE:=qX O;have dg:=O.done.cell k aw;have c4:=O.came.cell k aw;have cj:=O.tags.cell k aw;clear cn d1 d2 cg ck a1;cases J:Ay h.out k with
     | true=>
      rw[J]at dg;have N:=qX (D.pass z.o.2.2 z.o.2.1 Z hs2 J);clear D O hs2 J ar;go_wp2
      go_roundg (n-(k+1))
      case measure=>omega
      case rel=>exact⟨k+1,h,first,U,rfl,by omega,by go_num,rfl,rfl,aB.o.2.1,N.o,aE.o⟩
     | false=>
      rw[J]at dg;obtain⟨a5,I⟩:∃ e1:Int,e1=if first<0 then(k:Int)else first:=⟨_,rfl⟩
      by_cases a9:k<h.next
      ·
       rw[qM a9]at c4;by_cases c7:U<0
       ·
        have de:U = -1:=by
         rcases D.best with⟨e,-⟩|⟨b,e,-⟩
         · exact e
         omega
        by_cases al:first<0
        ·
         have N:Hid (Ez per ps ws s h (k+1) a5 k):=D.takes z.o.2.2 z.o.2.1 Z a9 J I (.inl de);rw[if_pos al]at I;subst I;have b2:decide (U<0)=true:=qM c7;clear D O hs2 J ar;go_wp2
         go_quiet (fail);go_wp2
         go_roundg (n-(k+1))
         case measure=>omega
         case rel=>exact⟨k+1,h,_,_,rfl,by omega,by go_num,rfl,rfl,aB.o.2.1,N.o,aE.o.later (qL br _)⟩
        have N:Hid (Ez per ps ws s h (k+1) a5 k):=D.takes z.o.2.2 z.o.2.1 Z a9 J I (.inl de);rw[if_neg al]at I;subst I;have b2:decide (U<0)=true:=qM c7;clear D O hs2 J ar;go_wp2
        go_quiet (fail);go_wp2
        go_roundg (n-(k+1))
        case measure=>omega
        case rel=>exact⟨k+1,h,_,_,rfl,by omega,by go_num,rfl,rfl,aB.o.2.1,N.o,aE.o.later (qL br _)⟩
       obtain⟨b,av,fu⟩:∃ b:Nat,U=b/\b<k:=by
        rcases D.best with⟨e,-⟩|⟨b,e,d4,-⟩
        · omega
        exact⟨b,e,d4⟩
       by_cases Y:h.q.tag k<h.q.tag b
       ·
        by_cases al:first<0
        ·
         have N:Hid (Ez per ps ws s h (k+1) a5 k):=D.takes z.o.2.2 z.o.2.1 Z a9 J I (.inr ⟨b,av,Y⟩);rw[if_pos al]at I;subst I;have aS:b<n:=by omega
         have bb:=O.tags.cell b aS;obtain⟨bd,ai⟩:=ex (h.q.tag k);obtain⟨bg,aj⟩:=ex (h.q.tag b);rw[ai]at cj Y;rw[aj]at bb Y;subst av;have b2:decide ((b:Int)<0)=false:=qF (by omega);have cS:decide (bd<bg)=true:=qM Y;clear ai aj;clear D O hs2 J ar;go_wp2
         go_quiet (fail);go_wp2
         go_roundg (n-(k+1))
         case measure=>omega
         case rel=>exact⟨k+1,h,_,_,rfl,by omega,by go_num,rfl,rfl,aB.o.2.1,N.o,aE.o.later (qL br _)⟩
        have N:Hid (Ez per ps ws s h (k+1) a5 k):=D.takes z.o.2.2 z.o.2.1 Z a9 J I (.inr ⟨b,av,Y⟩);rw[if_neg al]at I;subst I;have aS:b<n:=by omega
        have bb:=O.tags.cell b aS;obtain⟨bd,ai⟩:=ex (h.q.tag k);obtain⟨bg,aj⟩:=ex (h.q.tag b);rw[ai]at cj Y;rw[aj]at bb Y;subst av;have b2:decide ((b:Int)<0)=false:=qF (by omega);have cS:decide (bd<bg)=true:=qM Y;clear ai aj;clear D O hs2 J ar;go_wp2
        go_quiet (fail);go_wp2
        go_roundg (n-(k+1))
        case measure=>omega
        case rel=>exact⟨k+1,h,_,_,rfl,by omega,by go_num,rfl,rfl,aB.o.2.1,N.o,aE.o.later (qL br _)⟩
       by_cases al:first<0
       ·
        have N:Hid (Ez per ps ws s h (k+1) a5 U):=D.keeps z.o.2.2 z.o.2.1 Z hs2 J I (.inr ⟨b,av,by omega⟩);rw[if_pos al]at I;subst I;have aS:b<n:=by omega
        have bb:=O.tags.cell b aS;obtain⟨bd,ai⟩:=ex (h.q.tag k);obtain⟨bg,aj⟩:=ex (h.q.tag b);rw[ai]at cj Y;rw[aj]at bb Y;subst av;have b2:decide ((b:Int)<0)=false:=qF (by omega);have cS:decide (bd<bg)=false:=qF Y;clear ai aj;clear D O hs2 J ar;go_wp2
        go_quiet (fail);go_wp2
        go_roundg (n-(k+1))
        case measure=>omega
        case rel=>exact⟨k+1,h,_,_,rfl,by omega,by go_num,rfl,rfl,aB.o.2.1,N.o,aE.o.later (qL br _)⟩
       have N:Hid (Ez per ps ws s h (k+1) a5 U):=D.keeps z.o.2.2 z.o.2.1 Z hs2 J I (.inr ⟨b,av,by omega⟩);rw[if_neg al]at I;subst I;have aS:b<n:=by omega
       have bb:=O.tags.cell b aS;obtain⟨bd,ai⟩:=ex (h.q.tag k);obtain⟨bg,aj⟩:=ex (h.q.tag b);rw[ai]at cj Y;rw[aj]at bb Y;subst av;have b2:decide ((b:Int)<0)=false:=qF (by omega);have cS:decide (bd<bg)=false:=qF Y;clear ai aj;clear D O hs2 J ar;go_wp2
       go_quiet (fail);go_wp2
       go_roundg (n-(k+1))
       case measure=>omega
       case rel=>exact⟨k+1,h,_,_,rfl,by omega,by go_num,rfl,rfl,aB.o.2.1,N.o,aE.o.later (qL br _)⟩
      rw[qF a9]at c4;by_cases al:first<0
      ·
       have N:Hid (Ez per ps ws s h (k+1) a5 U):=D.keeps z.o.2.2 z.o.2.1 Z hs2 J I (.inl a9);rw[if_pos al]at I;subst I;clear D O hs2 J ar;go_wp2
       go_quiet (fail);go_wp2
       go_roundg (n-(k+1))
       case measure=>omega
       case rel=>exact⟨k+1,h,_,_,rfl,by omega,by go_num,rfl,rfl,aB.o.2.1,N.o,aE.o.later (qL br _)⟩
      have N:Hid (Ez per ps ws s h (k+1) a5 U):=D.keeps z.o.2.2 z.o.2.1 Z hs2 J I (.inl a9);rw[if_neg al]at I;subst I;clear D O hs2 J ar;go_wp2
      go_quiet (fail);go_wp2
      go_roundg (n-(k+1))
      case measure=>omega
      case rel=>exact⟨k+1,h,_,_,rfl,by omega,by go_num,rfl,rfl,aB.o.2.1,N.o,aE.o.later (qL br _)⟩
    have cY:k=n:=by omega
    have ad:=be.o.1;rw[cY,<- ac.o]at ad;have bx:s1.out.length=L:=by rw[ad.out];exact b0.o.2.1
    obtain⟨bN,b8,rfl,-,aq⟩:=z.o.1.place (by rw[ac.o];omega);have ce:Hid (∀ Q (i:Nat) p,zW w Q->ps[i]? = some p->Q.cell? ⟨bN,b8+i*3+1,none⟩=some (.int .i64 p.size)/\Q.cell? ⟨bN,b8+i*3+2,none⟩=some (.int .i64 p.tick)):=fun Q i p ao V=>⟨j7 ao (aq i p V).2.1,j7 ao (aq i p V).2.2⟩
    clear aq;have fs:¬k<n:=aw;by_cases ao:U<0
    ·
     obtain⟨p,c2,V,a2,dd⟩:=ad.none z.o.2.2 z.o.2.1 Z ao (by rw[bx,ac.o];exact ds);have cU:s1.next<n:=by have:=Af V;rw[ac.o]at this;exact this
     have cD:=W.o.newLast 3;have cl:=(ce.o _ s1.next p cD.below V).2;have cH:=e9.o;have bl:Hid (Reaches (BR ps ws) per ps EK ⟨s1.out,p.tick,s1.next,s1.q.rests⟩ /\ Dx w (K.alloc (.cells (madeCells #[.int .i64 0] 8) 3)) an aN ab K.heap.size n (.slice a4 L a') s1.out s1.next s1.q.tag (fun _=>0) /\ Ic ps ⟨s1.out,p.tick,s1.next,s1.q.rests⟩ < Ic ps s):=⟨a2,cD,VT ad.out ⟨by rw [ac.o];exact cU,by simp only;rw [Av V];exact q8 _⟩ (fun d6=>dd (by
      obtain⟨q,c5,-⟩:=Ab ps s.next d6.1;exact ⟨q,c5,by rw [<- Av c5];exact d6.2⟩))⟩
     obtain⟨fm,cC⟩:=ex s1.next;obtain⟨fz,a3⟩:=ex p.tick;have N:=qY cC a3;rw[cC]at cl cU c2;rw[a3]at cl;subst c2;clear ad a2 dd cD V cC a3 cY bx;go_wp2
     go_roundg (Ic ps ⟨s1.out,p.tick,s1.next,s1.q.rests⟩)
     case measure=>exact bl.o.2.2
     case rel=>exact⟨_,_,rfl,rfl,rfl,by rw[N.o.2],bl.o.1,bl.o.2.1⟩
    obtain⟨b,p,av,V,J,a2⟩:=ad.one z.o.2.2 z.o.2.1 Z ao;have aS:b<n:=by have:=Af V;rw[ac.o]at this;exact this
    have cl:=(ce.o _ b p W.o.below V).1;obtain⟨-,-,ef,c1,-,-⟩:=A7 (z.o.2.1.each _ _ V).1;have dz:0<=per*p.size:=vG (by omega) (by omega);have dk:per*p.size<=1000*1500:=yD (by omega) c1 (by omega) (by omega);have bw:=cJ.o;rw[bw]at a2;obtain⟨y,bk⟩:=ex p.size;obtain⟨m,cW⟩:=ex (per*y);obtain⟨H,cN⟩:=ex (E+m);rw[bk]at cl dz dk a2;rw[cW]at dz dk a2;rw[cN]at a2;have fx:IntKind.i64.wrap (per*y)=m:=by rw[cW];exact vY _ (by omega)
    have fR:IntKind.i64.wrap (E+m)=H:=by rw[<- cN];exact vY _ (by omega)
    have cP:=qY bx ad.out;have ct:=W.o.own;unfold DX at ct;rw[bx]at ct;have eg:=qX a2;have b':zW K ((K.alloc (.cells #[.int .i64 b,.int .i64 E,.int .i64 H] 61)).alloc (.cells #[.int .i64 b,.int .i64 E,.int .i64 H] 61)):=ba.alloc (by simp) _;have a8:=qY (W.o.later b') b';have eL:Hid (((K.alloc (.cells #[.int .i64 b,.int .i64 E,.int .i64 H] 61)).alloc (.cells #[.int .i64 b,.int .i64 E,.int .i64 H] 61)).ownsRow w.heap.size 61 3 (.slice a4 L a') L (cellsS s1.out)):=Ah ct (fun g _ eV=>b'.block g eV);have e3:Hid (∀ j u,(cellsS [⟨b,E,H⟩])[j]? = some u->((K.alloc (.cells #[.int .i64 b,.int .i64 E,.int .i64 H] 61)).alloc (.cells #[.int .i64 b,.int .i64 E,.int .i64 H] 61)).cell? ((⟨K.heap.size+1,0,none⟩:Addr).add j)=some u):=World.news_of_block (cs:=#[.int .i64 b,.int .i64 E,.int .i64 H]) (t:=61) (by have:=vZ (K.alloc (.cells #[.int .i64 b,.int .i64 E,.int .i64 H] 61)) (.cells #[.int .i64 b,.int .i64 E,.int .i64 H] 61);simpa using this);have d':Hid (((K.alloc (.cells #[.int .i64 b,.int .i64 E,.int .i64 H] 61)).alloc (.cells #[.int .i64 b,.int .i64 E,.int .i64 H] 61)).cell? ⟨K.heap.size,2,none⟩=some (.int .i64 H)):=j7 ba (by simp);have da:Hid (w.heap.size<=((K.alloc (.cells #[.int .i64 b,.int .i64 E,.int .i64 H] 61)).alloc (.cells #[.int .i64 b,.int .i64 E,.int .i64 H] 61)).heap.size/\K.heap.size<((K.alloc (.cells #[.int .i64 b,.int .i64 E,.int .i64 H] 61)).alloc (.cells #[.int .i64 b,.int .i64 E,.int .i64 H] 61)).heap.size):=⟨a8.o.1.below.size,by simp;omega⟩
    have e0:Hid (some K.heap.size≠(Value.slice a4 L a').ownBlock):=fun e=>by
     have:=(Aq W.o.own e.symm).2;omega
    have cb:=qY W.o.done.lt aS;obtain⟨T,bp⟩:=ex (s1.q.tag b);have a1:=qX bp;have ft:=qX J;subst av;clear ad a2 V J ef c1 bk cW cN cY bx b' ct bp bw;go_wp2_with (at_builtin;go_must (refine wpList_append_lies _ rfl _ _ 57 rfl w.heap.size 61 eJ (.agg #[.int .i64 0,.int .i64 0,.int .i64 0]) 3 24 Tryz.underlying57 ez e8 em ea rfl (by decide) (.slice a4 L a') L (cellsS s1.out) rfl eL.o ⟨K.heap.size+1,0,none⟩ 1 1 (cellsS [⟨b,E,H⟩]) rfl rfl e3.o (FL _) (by decide) (by unfold maxLen;omega) (by omega) da.o.1 _ rfl ?_;intro c' dy bq dm bT c3 e2;have dj:bq.cell? ⟨K.heap.size,2,none⟩=some (.int .i64 H):=(bT.cell_far ⟨K.heap.size,2,none⟩ da.o.2 e0.o).trans d'.o;have fq:bq.cell? ⟨ab,b,none⟩=some (.bool (Ay s1.out b)):=(bT.cell_far ⟨ab,b,none⟩ a8.o.1.done.lt (fun e=>a8.o.1.vne.2.2.1 e.symm)).trans (a8.o.1.done.cell b cb.o.2);have fn:bq.frozen? ⟨ab,b,none⟩=false:=(bT.frozen_far ⟨ab,b,none⟩ a8.o.1.done.lt (fun e=>a8.o.1.vne.2.2.1 e.symm)).trans (a8.o.1.done.frozen b);have fp:(bq.setCell ⟨ab,b,none⟩ (.bool true)).cell? ⟨K.heap.size,2,none⟩=some (.int .i64 H):=(j9 _ _ _ _ (by intro e;have e6:=congrArg Addr.block e;have:=cb.o.1;simp at e6;omega)).trans dj;have dq:Hid (Dx w (bq.setCell ⟨ab,b,none⟩ (.bool true)) an aN ab a0 n (.slice (some ⟨c',0,none⟩) (L+1) dy) (s1.out++[⟨b,E,H⟩]) s1.next s1.q.tag s1.q.last):=(by have:=W.o.sent b cb.o.2 (f:=E) (t:=H) (g':=c') (cap:=dy) a8.o.2 (by rw[cP.o.1];exact dm) bT c3;rwa[cP.o.1]at this);have fy:(bq.setCell ⟨ab,b,none⟩ (.bool true)).cell? ⟨an,b,none⟩=some (.int .i64 T):=(by have:=dq.o.tags.cell b cb.o.2;rwa[a1.o]at this);clear dm bT c3 e2 dj))
    go_roundg (Ic ps ⟨s1.out++[⟨(b:Nat),E,H⟩],H,s1.next,s1.q.left b⟩)
    case measure=>exact Vi (by simp[cP.o.2]) (by rw[b0.o.2.1,ac.o];exact ds)
    case rel=>exact⟨_,a0,rfl,rfl,by rw[show(s1.q.left b).v=s1.q.tag b from rfl,a1.o],rfl,eg.o,dq.o⟩
  have er:Hid (TI per ps ws w (.returned (.tuple #[.slice a4 L a',.slice (some ⟨an,0,none⟩) n n])) eA):=by
   have bj:=cm.o.count (JI z.o.2.2 z.o.2.1 Z);have cU:=cm.o.next_le;have cR:=b0.o.2.1;have d4:=ac.o;exact⟨_,an,s.out,s.q.tag,by rw[ac.o],cf.o.own,by rw[ac.o];exact cf.o.tags,⟨s,cm.o,by omega,by omega,rfl,rfl⟩,cf.o.below⟩
  go_wp2
  go_ret2;exact er.o
end Go.Proofs.YtejlihcdfffafaaGreatDoor
