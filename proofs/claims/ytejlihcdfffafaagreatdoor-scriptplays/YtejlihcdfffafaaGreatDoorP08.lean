import Derived.Deep.DeepCutAuto
import Derived.Deep.RegionLaw
import Derived.Test.YtejlihcdfffafaaGreatDoorP07
import Derived.Laws.StructEq
import Derived.Deep.AppendLies
set_option maxHeartbeats 2000000
set_option maxRecDepth 100000
namespace Go.Proofs.YtejlihcdfffafaaGreatDoor
open Go.RowKit
theorem J8 {B:Nat}{w w':World}(h:Below B w.drew w'):Below B w w':=⟨h.os,h.tape,h.output,h.size,h.block⟩
theorem ku (g:Nat)(l t n:Int)(w:World)(h:Nat->Addr)(I:I6 w h)(D:w.cell? ⟨g,3,none⟩=some (.int .i64 l))(z:D9 l t n≠0):Calls Tryz.prog 212 #[.pointer (some ⟨g,0,none⟩),.int .i64 t,.int .i64 n] w fun e w'=>e=.returned (.tuple #[.int .i64 0,Fy h (D9 l t n)])/\w'=w:=by
 obtain⟨v,H⟩:=Q7 h z;have E:=qX (GU g l t n w h I D);rw[H]at E ⊢;clear H z I D;go_in
 go_wp2_with (go_at_call 224;refine E.o.mono ?_;rintro e J ⟨rfl,rfl⟩)
 go_ret2;exact⟨rfl,rfl⟩
theorem LC (g:Nat)(m r v t n k:Int)(o:Bool)(R:Value)(w:World)(W:Addr)(Y:w.cell? ⟨1,0,none⟩=some (.iface 308 (.pointer (some W))))(V:w.cell? ⟨g,0,none⟩=some (.int .i64 m))(J:w.cell? ⟨g,1,none⟩=some (.int .i64 r))(aw:0<=t)(an:t<=1099511627776)(am:1<=n)(n1:n<=1500)(av:0<=k)(aB:k<=30000000)
  (ai:Hid (Calls Tryz.prog 224 #[.pointer (some ⟨g,0,none⟩),.int .i64 t,.int .i64 n] w fun e w'=>e=.returned .nilIface/\w'=w))
  (Z:Hid (∀ w',zW w w'->Calls Tryz.prog 226 #[.pointer (some ⟨g,0,none⟩),.int .i64 t] w' fun e I=>e=.returned (.int .i64 v)/\zW w' I))
  (ab:Hid (∀ w':World,Calls Tryz.prog 225 #[.agg #[.int .i64 m,.int .i64 r],.int .i64 v,.int .i64 (n*1000)] w' fun e I=>e=.returned (.tuple #[.int .i64 k,.bool o])/\I=w'.alloc (.cells #[.int .i64 m,.int .i64 r] 285)))
  (O:Hid (o=false\/1099511627776-t<k->R=.tuple #[.int .i64 0,.iface 308 (.pointer (some W))])) (aj:Hid (o=true->¬1099511627776-t<k->R=.tuple #[.int .i64 (t+k),.nilIface])) :
  Calls Tryz.prog 212 #[.pointer (some ⟨g,0,none⟩),.int .i64 t,.int .i64 n] w fun e w'=>e=.returned R/\zW w w':=by
 have aq:IntKind.i64.wrap (n*1000)=n*1000:=vY _ (by omega);have Q:=qY V J;go_in
 go_wp2_with fail;refine ai.o.mono ?_
 rintro e U ⟨rfl,rfl⟩;go_wp2_with fail;go_cut [9,10] (fun ad ac al=>ad=.int .i64 k/\ac=.bool o/\zW U al)
 case first=>
  go_region_with (first
   | (go_simp;go_at_call 226;go_must (refine(Z.o _ ?_).mono ?_;exact br.drew;rintro e z ⟨rfl,N⟩;have h:Hid (zW U z):=J8 N;have ap:z.cell? ⟨g,0,none⟩=some (.int .i64 m):=j7 h.o Q.o.1;have d1:z.cell? ⟨g,1,none⟩=some (.int .i64 r):=j7 h.o Q.o.2;clear N))
   | (go_simp;go_at_call 225;go_must (refine(ab.o _).mono ?_;rintro e ar ⟨rfl,rfl⟩))
   | fail)
  all_goals (go_wp2_with fail;go_meet;exact⟨rfl,rfl,h.o.alloc h.o.size _⟩)
 case rest=>
 obtain⟨rfl,rfl,H⟩:=hcut;have E:=qX H;have ao:=j7 H Y;clear H V J Y;cases o with
 | false=>
  go_wp2
  go_quiet (fail);go_wp2
  go_ret2;exact⟨congrArg Ending.returned (O.o (.inl (by simp))).symm,qL E.o _⟩
 | true=>
  by_cases K:1099511627776-t<k
  ·
   have D:=qX K;go_wp2
   go_quiet (fail);go_wp2
   go_ret2;exact⟨congrArg Ending.returned (O.o (.inr D.o)).symm,qL E.o _⟩
  have D:=qX K;go_wp2
  go_ret2;exact⟨congrArg Ending.returned (aj.o (by simp) D.o).symm,E.o⟩
def LF (h:Nat->Addr):Option Int->Value
 | some T=>.tuple #[.int .i64 T,.nilIface]
 | none=>.tuple #[.int .i64 0,.iface 308 (.pointer (some (h 3)))]
theorem iY (g:Nat)(b:Bk)(t n:Int)(w:World)(D:Nat->Addr)(K:I6 w D)(z:Ga w g b)(I:b.Ok)(ab:D9 b.last t n=0):qW 212 #[.pointer (some ⟨g,0,none⟩),.int .i64 t,.int .i64 n] w (LF D (b.when t n)):=by
 obtain⟨O,n1,U,E,aj⟩:=FP.1 ab;have J:=GU g b.last t n w D K z.c3;rw[ab]at J;have N:∀ w',zW w w'->Calls Tryz.prog 226 #[.pointer (some ⟨g,0,none⟩),.int .i64 t] w' fun e am=>e=.returned (.int .i64 (b.lev t))/\zW w' am:=
  fun w' al=>VM g b t w' (z.below al) I aj E
 have Y:=I.lev_bd aj;have ac:=I.m1;have Z:=I.r1;by_cases H:n*1000<=b.lev t
 ·
  have e:b.when t n=some t:=by unfold Bk.when;rw[if_pos H]
  rw[e];exact LC g b.most b.rate (b.lev t) t n 0 true _ w (D 3) K.c3 z.c0 z.c1 U E O n1 (by omega) (by omega) J N (fun w'=>Yk b.most b.rate _ _ w' H) (fun h=>by rcases h with h|h;cases h;omega) (fun _ _=>by rw[Int.add_zero];rfl)
 by_cases Q:b.most<n*1000\/b.rate=0
 ·
  have e:b.when t n=none:=by unfold Bk.when;rw[if_neg H,if_pos Q]
  rw[e];exact LC g b.most b.rate (b.lev t) t n 0 false _ w (D 3) K.c3 z.c0 z.c1 U E O n1 (by omega) (by omega) J N (fun w'=>XO b.most b.rate _ _ w' (by omega) Q) (fun _=>rfl) (fun h=>by cases h)
 have W:0<b.rate:=by have:=I.r0;omega
 have an:=TK (r:=b.rate) (x:=n*1000-b.lev t) W;have ad:0<=(n*1000-b.lev t+b.rate-1)/b.rate:=Int.ediv_nonneg (by omega) (by omega);have ai:(n*1000-b.lev t+b.rate-1)/b.rate<=30000000:=by
  have:=Int.ediv_le_self b.rate (show 0<=n*1000-b.lev t+b.rate-1 by omega);omega
 by_cases V:1099511627776-t<(n*1000-b.lev t+b.rate-1)/b.rate
 ·
  have e:b.when t n=none:=by unfold Bk.when;rw[if_neg H,if_neg Q,if_pos V]
  rw[e];exact LC g b.most b.rate (b.lev t) t n _ true _ w (D 3) K.c3 z.c0 z.c1 U E O n1 ad ai J N (fun w'=>QN b.most b.rate _ _ w' (by omega) (by omega) W Z Y.1 ac) (fun _=>rfl) (fun _ h=>absurd V h)
 have e:b.when t n=some (t+(n*1000-b.lev t+b.rate-1)/b.rate):=by unfold Bk.when;rw[if_neg H,if_neg Q,if_neg V]
 rw[e];exact LC g b.most b.rate (b.lev t) t n _ true _ w (D 3) K.c3 z.c0 z.c1 U E O n1 ad ai J N (fun w'=>QN b.most b.rate _ _ w' (by omega) (by omega) W Z Y.1 ac) (fun h=>by rcases h with h|h;cases h;exact absurd h V) (fun _ _=>rfl)
theorem dU (x y:Int)(w:World)(z:1<=x)(h:x<=20000):Calls Tryz.prog 211 #[.agg #[.int .i64 x,.int .i64 y]] w fun e w'=>e=.returned (.pointer (some ⟨w.heap.size+1,0,none⟩))/\Ga w' (w.heap.size+1) (He (x,y))/\zW w w':=by
 go_in
 go_wp2
 go_ret;refine⟨by simp,?_,ba.alloc (by simp) _⟩;constructor <;> simp[He]
structure ShAt (w:World)(B:Nat)(gs:List Nat)(bs:List Bk):Prop where
 len:gs.length=bs.length
 ptr:∀(i:Nat) g,gs[i]? = some g->w.cell? ⟨B,i,none⟩=some (.pointer (some ⟨g,0,none⟩))
 new:∀ g,g∈gs->B<g
 bk:∀(i:Nat) g b,gs[i]? = some g->bs[i]? = some b->Ga w g b
 one:∀(i j:Nat) g,gs[i]? = some g->gs[j]? = some g->i=j
theorem Tryz.infoPBk:(Tryz.prog.info? 271).map (fun i=>(i.zero,i.size,i.bytes))=some (some (.pointer none),1,8):=by kernel_rfl
theorem Tryz.shaperSlice:Tryz.prog.underlying 239=some (.slice 271):=by kernel_rfl
structure Room (w:World)(B n:Nat):Prop where
 cell:∀ j,j<n->∃ v,w.cell? ⟨B,j,none⟩=some v
 frozen:∀ j,w.frozen? ⟨B,j,none⟩=false
theorem Sg (w:World)(h:Array Value)(n:Nat)(e:TypeId):Room (w.alloc (.cells (madeCells h n) e)) w.heap.size n:=by
 refine⟨fun j z=>?_,fun j=>?_⟩
 · rw[qO _ _ _ _ rfl];exact⟨_,xX (by rw[size_madeCells];exact z)⟩
 simp
theorem Room.but {S:Nat->Prop}{w w':World}{B n:Nat}(D:Room w B n)(h:But S w w')(z:B<w.heap.size)(E:¬S B):Room w' B n:=
 ⟨fun j I=>by obtain⟨v,H⟩:=D.cell j I;exact⟨v,by rw[h.cell (p:=⟨B,j,none⟩) z E];exact H⟩,fun j=>by rw[h.frozen (p:=⟨B,j,none⟩) z E];exact D.frozen j⟩
theorem Room.below {w w':World}{B n:Nat}(z:Room w B n)(D:zW w w')(h:B<w.heap.size):Room w' B n:=z.but (S:=fun _=>False) (.ofBelow D) h id
theorem Room.set {w:World}{B n:Nat}(h:Room w B n)(j:Nat)(v:Value):Room (w.setCell ⟨B,j,none⟩ v) B n:=by
 refine⟨fun i D=>?_,fun i=>by rw[qK];exact h.frozen i⟩;by_cases E:i=j
 · subst E;obtain⟨u,z⟩:=h.cell i D;exact⟨v,vD _ _ _ z⟩
 obtain⟨u,z⟩:=h.cell i D;exact⟨u,by rw[j9 _ _ _ _ (by simp <;> omega)];exact z⟩
theorem DZ {D:Type}{l:List D}{a x:D}{i:Nat}(h:(l++[a])[i]? = some x):(i<l.length/\l[i]? = some x)\/(i=l.length/\x=a):=by
 rcases yN i l.length with z|z|z
 · rw[qU z]at h;exact .inl ⟨z,h⟩
 · subst z;simp at h;exact .inr ⟨rfl,h.symm⟩
 rw[qH (by simp;omega)]at h;cases h
theorem RP (a8:oA)(bp:Nat)(ls:lI)(w:World)(ao:AQ w a8 ls)(aN:Ak ls):Calls Tryz.prog 181 #[.slice a8 ls.length bp] w fun e w'=>∃ I,e=.returned (.slice (some ⟨w.heap.size,0,none⟩) ls.length ls.length)/\ShAt w' w.heap.size I (ls.map He)/\zW w w':=by
 obtain⟨J,b2,ap⟩:=aN;obtain⟨b,V,rfl,bc,O⟩:=ao.some J;have a5:=qX O;have bN:=qX ap;clear ao ap O;generalize a2:ls.length=n at *;have ab:=(show Hid (ls.length=n)from a2)
 clear a2;obtain⟨bd,U,aw,am,a4⟩:=vL Tryz.infoPBk;have bt:∀ w':World,(Instr.makeSlice 239 (.int .i64 n) (.int .i64 n)).run Tryz.prog w'=.ok (.slice (some ⟨w'.heap.size,0,none⟩) n n) (w'.alloc (.cells (madeCells #[.pointer none] n) 271)):=fun w'=>by
  have:=yW (P:=Tryz.prog) w' 239 271 bd (.pointer none) Tryz.shaperSlice U aw .i64 .i64 n n (by omega) (by omega) (by rw[a4];omega) (by omega);simpa[am,Value.cells]using this
 have N:=Sg w #[.pointer none] n 271;have a7:zW w (w.alloc (.cells (madeCells #[.pointer none] n) 271)):=ba;have aB:(w.alloc (.cells (madeCells #[.pointer none] n) 271)).heap.size=w.heap.size+1:=by simp
 go_in
 go_wp2_with fail;generalize w.alloc (.cells (madeCells #[.pointer none] n) 271)=bT at *;have bl:=qX N;have aE:=qY a7 aB;clear N a7 aB bt U aw am a4;go_loopw [11] (fun i wr=>∃ k:Nat,k<=n/\i=.int .i64 k/\Room wr w.heap.size n/\zW w wr/\w.heap.size<wr.heap.size/\∃ I,ShAt wr w.heap.size I ((ls.take k).map He)) (fun i _=>n-(intOf i).toNat)
 case atStart=>exact⟨0,qR _,rfl,bl.o,aE.o.1,by rw[aE.o.2];omega,[],⟨by simp,(fun i g h=>by simp at h),(fun g h=>by cases h),(fun i g b h=>by simp at h),(fun i j g h=>by simp at h)⟩⟩
 case round=>
  obtain⟨k,aN,rfl,N,Q,ac,I,z⟩:=hrel;have an:=qX Q;have ad:=qX z;by_cases av:k<n
  ·
   obtain⟨⟨x,y⟩,Y,a3⟩:=Ab ls k (by rw[ab.o];exact av);have b1:wr.cell? ⟨b,V+k*2,none⟩=some (.int .i64 x):=by rw[Q.cell (p:=⟨b,V+k*2,none⟩) bc];exact(a5.o k x y Y).1
   have b3:wr.cell? ⟨b,V+k*2+1,none⟩=some (.int .i64 y):=by rw[Q.cell (p:=⟨b,V+k*2+1,none⟩) bc];exact(a5.o k x y Y).2
   have a0:=qX (bN.o _ a3);have bq:Hid ((ls.take (k+1)).map He=(ls.take k).map He++[He (x,y)]):=by
    show _=_
    rw[vF,Y];simp
   have bv:=qX N;have a':=qX ac;clear z N Q Y a3;go_wp2_with fail;refine(dU x y _ (AA a0.o).1 (AA a0.o).2.1).mono ?_
   rintro e bj ⟨rfl,Z,ar⟩;have aq:zW wr (wr.alloc (.cells #[.int .i64 x,.int .i64 y] 66)):=ba;have al:=aq.tr ar;have bb:(wr.alloc (.cells #[.int .i64 x,.int .i64 y] 66)).heap.size+1=wr.heap.size+2:=by simp
   rw[bb]at Z ⊢;have aj:=qX al;have be:=qX Z;have W:=bv.o.below al a'.o;obtain⟨u,a6⟩:=W.cell k av;have bm:=W.frozen k;have bw:=qX W;have bg:=qX a6;clear ar Z aq al bb W;go_wp2_with fail;have aS:I.length=k:=by
    have:=ad.o.len;rw[xZ,vO,ab.o]at this;omega
   have a9:Hid (But (fun q=>q=w.heap.size) wr (bj.setCell ⟨w.heap.size,k,none⟩ (.pointer (some ⟨wr.heap.size+2,0,none⟩)))):=
    But.setCell (S:=fun q=>q=w.heap.size) (.ofBelow aj.o) rfl _
   have bh:=qX aS;clear a6 bm aS;go_roundw
   case rel=>
    have bs:=bh.o;have ac:=a'.o;have z:=ad.o;refine⟨k+1,by omega,by go_num,bw.o.set k _,(an.o.tr aj.o).setCell lr _,qD ac a9.o.size,I++[wr.heap.size+2],?_⟩;rw[bq.o];refine⟨by simp only[qJ,List.length_singleton];rw[z.len],fun i g E=>?_,fun g E=>?_,fun i g c E O=>?_,fun i j g E bx=>?_⟩
    ·
     rcases DZ E with⟨J,D⟩|⟨J,D⟩
     · rw[j9 _ _ _ _ (by simp <;> omega)];exact j7 aj.o (z.ptr i g D)
     rw[J,D,bs];exact vD _ _ _ bg.o
    ·
     rcases vI.1 E with h|h
     · exact z.new g h
     simp at h;omega
    ·
     rcases DZ E with⟨J,D⟩|⟨J,D⟩
     ·
      have ai:((ls.take k).map He)[i]? = some c:=by
       rcases DZ O with⟨K,H⟩|⟨K,H⟩
       · exact H
       rw[<- z.len]at K;omega
      have b0:=z.new g (q9 D);exact(z.bk i g c D ai).but a9.o (fun e=>by omega)
     have ai:c=He (x,y):=by
      rcases DZ O with⟨K,H⟩|⟨K,H⟩
      · rw[<- z.len]at K;omega
      exact H
     rw[D,ai];exact be.o.but (S:=fun q=>q=w.heap.size) (But.setCell (S:=fun q=>q=w.heap.size) (But.refl _ _) rfl _) (fun e=>by omega)
    have a1:∀(i:Nat) g,I[i]? = some g->g<wr.heap.size:=fun i g E=>by
     have U:i<((ls.take k).map He).length:=by
      rw[<- z.len];rcases qC i I.length with h|h
      · exact h
      simp[qH h]at E
     exact(z.bk i g _ E (qE U)).lt
    rcases DZ E with⟨J,D⟩|⟨J,D⟩ <;> rcases DZ bx with⟨K,H⟩|⟨K,H⟩
    · exact z.one i j g D H
    · have:=a1 i g D;omega
    · have:=a1 j g H;omega
    omega
   case measure=>simp[intOf];omega
  obtain rfl:k=n:=by omega
  clear N z;go_wp2
  go_ret;refine⟨I,rfl,?_,an.o⟩;have:=ad.o;rwa[vP (by rw[ab.o];omega)]at this
theorem R6 {E:Type}{l:List E}{k:Nat}{p:E}(z:l[k]? = some p):l.drop k=p::l.drop (k+1):=by
 have D:k<l.length:=by
  rcases qC k l.length with h|h
  · exact h
  simp[qH h]at z
 rw[List.drop_eq_getElem_cons D];rw[qE D]at z;rw[Option.some.inj z]
theorem ShAt.but {S:Nat->Prop}{w w':World}{B:Nat}{D:List Nat}{H:List Bk}(h:ShAt w B D H)(E:But S w w')(J:¬S B)(I:∀ g,g∈D->¬S g)(N:B<w.heap.size):ShAt w' B D H:=
 ⟨h.len,fun i g z=>by rw[E.cell (p:=⟨B,i,none⟩) N J];exact h.ptr i g z,h.new,fun i g b z K=>(h.bk i g b z K).but E (I g (q9 z)),h.one⟩
theorem ShAt.below {w w':World}{B:Nat}{z:List Nat}{h:List Bk}(E:ShAt w B z h)(D:zW w w')(H:B<w.heap.size):ShAt w' B z h:=
 E.but (S:=fun _=>False) (.ofBelow D) id (fun _ _=>id) H
theorem gu (B:Nat)(z:List Nat)(h:List Bk)(t n:Int)(E:Nat)(w0 w:World)(J:Nat->Addr)(bT:I6 w0 J)(bt:zW w0 w)(bb:w0.heap.size<=B)(bw:B<w.heap.size)(al:ShAt w B z h)(bx:h.length=E)(b8:E<=6)
  (a9:∀ b,b∈h->b.Ok/\b.last<=t) (ca:0<=t) (b0:t<=1099511627776) (a':1<=n) (n1:n<=1500) :
  Calls Tryz.prog 182 #[.slice (some ⟨B,0,none⟩) E E,.int .i64 t,.int .i64 n] w fun e w'=>e=.returned (LF J (DN h t n))/\(∀ T,DN h t n=some T->ShAt w' B z (h.map fun b=>b.take T n))/\But (fun k=>k∈z) w w':=by
 obtain⟨Q,aB⟩:=ex (DN h t n);rw[aB];have b6:Hid (DN h t n=Q):=aB;have W:Hid (I6 w0 J/\zW w0 w/\w0.heap.size<=B):=⟨bT,bt,bb⟩
 have I:Hid (ShAt w B z h):=al;have Z:Hid (h.length=E):=bx;have aw:Hid (∀ b,b∈h->b.Ok/\b.last<=t):=a9;have a4:Hid (B<w.heap.size):=bw;obtain⟨b2,aE⟩:=ex (LF J Q);rw[aE];have bc:Hid (LF J Q=b2):=aE;clear aB bT bt bb al bx a9 bw aE;go_in
 go_wp2_with fail;go_loopw [1,18] (fun a i wr=>∃ k:Nat,k<=E/\i=.int .i64 k/\∃ u:Int,a=.int .i64 u/\t<=u/\u<=1099511627776/\DN (h.drop k) u n=Q/\zW w wr) (fun _ i _=>E-(intOf i).toNat)
 case atStart=>exact⟨0,qR _,rfl,t,rfl,q8 _,b0,by simpa using b6.o,br⟩
 case round=>
  obtain⟨k,b9,rfl,u,rfl,cb,a0,K,H⟩:=hrel;have ap:Hid (zW w wr):=H;have a2:Hid (DN (h.drop k) u n=Q):=K;by_cases bg:k<E
  ·
   obtain⟨b,U,V⟩:=Ab h k (by rw[Z.o];exact bg);obtain⟨g,N,-⟩:=Ab z k (by rw[I.o.len,Z.o];exact bg);have b5:wr.cell? ⟨B,k,none⟩=some (.pointer (some ⟨g,0,none⟩)):=by rw[H.cell (p:=⟨B,k,none⟩) a4.o];exact I.o.ptr k g N
   have ao:Hid (DN (h.drop k) u n=match b.when u n with | none=>none | some v=>DN (h.drop (k+1)) v n):=by
    show _=_
    rw[R6 U];rfl
   have aS:Hid (D9 b.last u n=0):=FP.2 ⟨a',n1,by omega,a0,by have:=(aw.o b V).2;omega⟩;have bm:Hid b.Ok:=(aw.o b V).1;have O:Hid (qW 212 #[.pointer (some ⟨g,0,none⟩),.int .i64 u,.int .i64 n] wr (LF J (b.when u n))):=
    iY g b u n wr J (W.o.1.below (W.o.2.1.tr H)) ((I.o.bk k g b N U).below H) bm.o aS.o
   clear H K U N V;cases aj:b.when u n with
   | none=>
    rw[aj]at O ao;have ab:Hid (Q=none):=a2.o.symm.trans ao.o;change Hid (qW 212 #[.pointer (some ⟨g,0,none⟩),.int .i64 u,.int .i64 n] wr (.tuple #[.int .i64 0,.iface 308 (.pointer (some (J 3)))]))at O
    clear aj;go_wp2_with fail;refine O.o.mono ?_
    rintro e Y ⟨rfl,D⟩;have ad:Hid (zW w Y):=ap.o.tr D;clear D;go_wp2
    go_ret2;have ac:=ab.o;refine⟨?_,fun T e=>(by rw[ac]at e;cases e),.ofBelow ad.o⟩;rw[<- bc.o,ac];rfl
   | some v=>
    rw[aj]at O ao;have ab:Hid (DN (h.drop (k+1)) v n=Q):=ao.o.symm.trans a2.o;change Hid (qW 212 #[.pointer (some ⟨g,0,none⟩),.int .i64 u,.int .i64 n] wr (.tuple #[.int .i64 v,.nilIface]))at O
    obtain⟨v1,v2,-,-⟩:=Bk.when_some bm.o a0 aj;clear aj;go_wp2_with fail;refine O.o.mono ?_
    rintro e Y ⟨rfl,D⟩;have ad:Hid (zW w Y):=ap.o.tr D;clear D;go_wp2
    go_roundw
    case rel=>exact⟨k+1,by omega,by go_num,v,rfl,by omega,v2,ab.o,ad.o⟩
    case measure=>simp[intOf];omega
  have ab:Hid (Q=some u):=by
   show _=_
   rw[<- a2.o,List.drop_eq_nil_of_le (by rw[Z.o];omega)];rfl
  clear K H;go_wp2_with fail;go_loopw [36] (fun i a6=>∃ k:Nat,k<=E/\i=.int .i64 k/\But (fun q=>q∈z) w a6/\(∀(i:Nat) g,z[i]? = some g->a6.cell? ⟨B,i,none⟩=some (.pointer (some ⟨g,0,none⟩)))/\∀(i:Nat) g b,z[i]? = some g->h[i]? = some b->Ga a6 g (if i<k then b.take u n else b)) (fun i _=>E-(intOf i).toNat)
  case atStart=>
   have al:=I.o.below ap.o a4.o;exact⟨0,qR _,rfl,.ofBelow ap.o,al.ptr,fun i g b a1 H=>by rw[if_neg (by omega)];exact al.bk i g b a1 H⟩
  case round=>
   obtain⟨j,b7,rfl,aq,av,ar⟩:=hrel;have a3:Hid (But (fun q=>q∈z) w wr):=aq;have bl:Hid (∀(i:Nat) g,z[i]? = some g->wr.cell? ⟨B,i,none⟩=some (.pointer (some ⟨g,0,none⟩))):=av;have bd:Hid (∀(i:Nat) g b,z[i]? = some g->h[i]? = some b->Ga wr g (if i<j then b.take u n else b)):=ar;by_cases bh:j<E
   ·
    obtain⟨b,U,V⟩:=Ab h j (by rw[Z.o];exact bh);obtain⟨g,N,be⟩:=Ab z j (by rw[I.o.len,Z.o];exact bh);have b5:=av j g N;have aS:Hid (D9 b.last u n=0):=FP.2 ⟨a',n1,by omega,a0,by have:=(aw.o b V).2;omega⟩;have bN:Ga wr g b:=by have:=ar j g b N U;rwa[if_neg (by omega)]at this
    have b4:Hid (∀ q,q∈z->w0.heap.size<=q):=fun q K=>by have bj:=I.o.new q K;have ai:=W.o.2.2;omega
    have O:Hid (Calls Tryz.prog 213 #[.pointer (some ⟨g,0,none⟩),.int .i64 u,.int .i64 n] wr fun e w'=>e=.returned (.tuple #[.bool (decide (n*1000<=b.lev u)),.nilIface])/\Ga w' g (b.take u n)/\But (fun k=>k=g) wr w'):=
     iN g b u n wr J (W.o.1.below (W.o.2.1.trans (aq.below W.o.2.1.size (fun q K=>b4.o q K)))) bN (aw.o b V).1 aS.o
    have an:Hid (z[j]? = some g/\h[j]? = some b/\g∈z):=⟨N,U,be⟩
    clear aq av ar N U be bN V;generalize decide (n*1000<=b.lev u)=b' at *;go_wp2_with fail;refine O.o.mono ?_
    rintro e Y ⟨rfl,bp,D⟩;have b3:Hid (Ga Y g (b.take u n)):=bp;have ad:Hid (But (fun k=>k=g) wr Y):=D;clear bp D;go_wp2
    go_roundw
    case rel=>
     have D:=ad.o;refine⟨j+1,by omega,by go_num,a3.o.trans (D.mono fun q K=>(by rw[K];exact an.o.2.2)),fun i g' am=>?_,fun i g' bv am bq=>?_⟩
     ·
      have a5:¬B=g:=by have:=I.o.new g an.o.2.2;omega
      rw[D.cell (p:=⟨B,i,none⟩) (qD a4.o a3.o.size) a5];exact bl.o i g' am
     by_cases bs:i=j
     · subst bs;obtain rfl:g'=g:=Option.some.inj (am.symm.trans an.o.1);obtain rfl:bv=b:=Option.some.inj (bq.symm.trans an.o.2.1);rw[if_pos (by omega)];exact b3.o
     have bj:=bd.o i g' bv am bq;have a5:¬g'=g:=fun e=>bs (I.o.one i j g' am (by rw[e];exact an.o.1))
     have ai:=bj.but D a5;by_cases a8:i<j
     · rw[if_pos a8]at ai;rw[if_pos (by omega)];exact ai
     rw[if_neg a8]at ai;rw[if_neg (by omega)];exact ai
    case measure=>simp[intOf];omega
   clear aq av ar;go_wp2
   go_ret2;have ac:=ab.o;refine⟨?_,fun T e=>?_,a3.o⟩
   · rw[<- bc.o,ac];rfl
   rw[ac]at e;cases e
   refine⟨by simp[I.o.len],bl.o,I.o.new,fun i g b a1 H=>?_,I.o.one⟩;simp only[xM,xD]at H;obtain⟨c,a7,rfl⟩:=H;have:=bd.o i g c a1 a7;have b1:i<h.length:=by
    rcases qC i h.length with aN|aN
    · exact aN
    simp[qH aN]at a7
   rwa[if_pos (by rw[Z.o]at b1;omega)]at this
theorem Tj (z:oA)(Q:Nat)(ls:lI)(h:oA)(cap:Nat)(ps:List Pk)(w:World)(J:AQ w z ls)(E:Ak ls)(K:Aw w h ps)(D:Al ps):Calls Tryz.prog 180 #[.slice z ls.length Q,.slice h ps.length cap] w fun e w'=>e=.returned .nilIface/\zW w w':=by
 have N:=qY K D;have O:=qY J E;clear J E K D;go_in
 go_wp2_with fail;refine(JO h cap ps _ N.o.1 N.o.2).mono ?_
 rintro e Y ⟨rfl,H⟩;have I:=qX H;clear H;go_wp2_with fail;refine(Gl z Q ls _ (O.o.1.below I.o) O.o.2).mono ?_
 rintro e W ⟨rfl,U⟩;have V:=qX (I.o.tr U);clear U;go_wp2
 go_ret;exact⟨rfl,V.o⟩
def OT (w:World)(h:Nat)(q:List Pk):Prop:=∀(i:Nat) p,q[i]? = some p->w.cell? ⟨h,i*3,none⟩=some (.int .i64 p.flow)/\w.cell? ⟨h,i*3+1,none⟩=some (.int .i64 p.size)/\w.cell? ⟨h,i*3+2,none⟩=some (.int .i64 p.tick)
theorem OT.but {S:Nat->Prop}{w w':World}{h:Nat}{q:List Pk}(I:OT w h q)(D:But S w w')(z:h<w.heap.size)(E:¬S h):OT w' h q:=fun i p H=>by
 have:=I i p H;exact⟨by rw[D.cell (p:=⟨h,i*3,none⟩) z E];exact this.1,by rw[D.cell (p:=⟨h,i*3+1,none⟩) z E];exact this.2.1,by rw[D.cell (p:=⟨h,i*3+2,none⟩) z E];exact this.2.2⟩
theorem OT.step {w:World}{h n:Nat}{q:List Pk}(O:OT w h q)(z:Room w h n)(k:Nat)(I:q.length=k)(U:k*3+2<n)(x y H:Int):OT (((w.setCell ⟨h,k*3,none⟩ (.int .i64 x)).setCell ⟨h,k*3+1,none⟩ (.int .i64 y)).setCell ⟨h,k*3+2,none⟩ (.int .i64 H)) h (q++[⟨x,y,H⟩]):=by
 intro i p Q;rcases DZ Q with⟨E,D⟩|⟨E,D⟩
 ·
  have:=O i p D;refine⟨?_,?_,?_⟩
  · rw[j9 _ _ _ _ (by simp <;> omega),j9 _ _ _ _ (by simp <;> omega),j9 _ _ _ _ (by simp <;> omega)];exact this.1
  · rw[j9 _ _ _ _ (by simp <;> omega),j9 _ _ _ _ (by simp <;> omega),j9 _ _ _ _ (by simp <;> omega)];exact this.2.1
  rw[j9 _ _ _ _ (by simp <;> omega),j9 _ _ _ _ (by simp <;> omega),j9 _ _ _ _ (by simp <;> omega)];exact this.2.2
 rw[E,D,I];obtain⟨u0,J⟩:=z.cell (k*3) (by omega);obtain⟨u1,N⟩:=(z.set (k*3) (.int .i64 x)).cell (k*3+1) (by omega);obtain⟨u2,K⟩:=((z.set (k*3) (.int .i64 x)).set (k*3+1) (.int .i64 y)).cell (k*3+2) (by omega);refine⟨?_,?_,?_⟩
 · rw[j9 _ _ _ _ (by simp),j9 _ _ _ _ (by simp)];exact vD _ _ _ J
 · rw[j9 _ _ _ _ (by simp)];exact vD _ _ _ N
 exact vD _ _ _ K
def PN (ls:lI)(ps:List Pk)(z:Nat->Addr)(w:World)(e:Ending)(w':World):Prop:=
 zW w w' /\
 ((∃ s h,shape ls ps=some s /\ e=.returned (.tuple #[.slice (some ⟨h,0,none⟩) ps.length ps.length,.nilIface]) /\ w.heap.size <= h /\ Aw w' (some ⟨h,0,none⟩) s.out) \/
  (∃ (j:Nat) (p:Pk) (s:Sh) (F:Nat),ps[j]? = some p /\ shape ls (ps.take j)=some s /\ CR s p=none /\ e=.returned (.tuple #[.slice none 0 0,.iface 135 (.pointer (some ⟨F,0,none⟩))]) /\ w'.cell? ⟨F,0,none⟩=some (.int .i64 j) /\ w'.cell? ⟨F,1,none⟩=some (.iface 308 (.pointer (some (z 3))))))
structure jG (ls:lI)(ps:List Pk)(w wr:World)(B D:Nat)(gs:List Nat)(n k:Nat)(s:Sh):Prop where
 run:shape ls (ps.take k)=some s
 sh:ShAt wr B gs s.bs
 room:Room wr D (n*3)
 out:OT wr D s.out
 below:zW w wr
 dlt:D<wr.heap.size
structure Laid (w:World)(B D:Nat)(gs:List Nat):Prop where
 b0:w.heap.size<=B
 bd:B<D
 gd:∀ g,g∈gs->B<g/\g<D
theorem R4 (aw:oA)(a1:Nat)(ls:lI)(a0:oA)(cap:Nat)(ps:List Pk)(w:World)(ao:Nat->Addr)(bw:I6 w ao)(bh:AQ w aw ls)(a4:Ak ls)(Y:Aw w a0 ps)(a7:Al ps):Calls Tryz.prog 153 #[.slice aw ls.length a1,.slice a0 ps.length cap] w fun e w'=>PN ls ps ao w e w':=by
 have al:=qY Y a7;have aj:=qY bh a4;have ct:=qX bw;have cD:=a7.few;clear bh a4 Y a7 bw;obtain⟨n,aB⟩:=ex ps.length;have aq:=qX aB;have ce:Hid (qW 180 #[.slice aw ls.length a1,.slice a0 n cap] w .nilIface):=by
  have:=Tj aw a1 ls a0 cap ps w aj.o.1 aj.o.2 al.o.1 al.o.2;rwa[aB]at this
 rw[aB]at cD ⊢;clear aB;obtain⟨cp,Q,bl,b3,b7⟩:=vL Tryz.infoPkt;have cA:∀ w':World,(Instr.makeSlice 42 (.int .i64 n) (.int .i64 n)).run Tryz.prog w'=.ok (.slice (some ⟨w'.heap.size,0,none⟩) n n) (w'.alloc (.cells (madeCells #[.int .i64 0,.int .i64 0,.int .i64 0] (n*3)) 50)):=fun w'=>by
  have:=yW (P:=Tryz.prog) w' 42 50 cp (.agg #[.int .i64 0,.int .i64 0,.int .i64 0]) Tryz.underlying42 Q bl .i64 .i64 n n (by omega) (by omega) (by rw[b7];omega) (by omega);simpa[b3,Value.cells]using this
 clear Q bl b3 b7;go_in
 go_wp2_with fail;refine ce.o.mono ?_
 rintro e ap ⟨rfl,bp⟩;have a5:=qX bp;clear bp;go_wp2_with fail;refine(RP aw a1 ls _ (aj.o.1.below a5.o) aj.o.2).mono ?_
 rintro e V ⟨D,rfl,ac,bj⟩;have cJ:=qX ac;have ca:=qX (a5.o.tr bj);have bc:ap.heap.size<V.heap.size:=by
  obtain⟨g,K,-⟩:=Ab D 0 (by rw[ac.len,xZ];exact aj.o.2.1);exact Cg (ac.ptr 0 g K)
 have bv:∀ g,g∈D->ap.heap.size<g/\g<V.heap.size:=fun g K=>by
  refine⟨ac.new g K,?_⟩;obtain⟨i,Q⟩:=xN.1 K;have co:i<(ls.map He).length:=by
   rw[<- ac.len];rcases qC i D.length with I|I
   · exact I
   simp[qH I]at Q
  exact(ac.bk i g _ Q (qE co)).lt
 have J:Hid (Laid w ap.heap.size V.heap.size D):=⟨a5.o.size,bc,bv⟩
 have O:zW V (V.alloc (.cells (madeCells #[.int .i64 0,.int .i64 0,.int .i64 0] (n*3)) 50)):=ba;have cc:Hid (jG ls ps w (V.alloc (.cells (madeCells #[.int .i64 0,.int .i64 0,.int .i64 0] (n*3)) 50)) ap.heap.size V.heap.size D n 0 ⟨ls.map He,0,[]⟩):=
  ⟨by simp[shape],ac.below O bc,Sg V _ (n*3) 50,(fun i p I=>by simp at I),ca.o.tr O,by simp⟩
 clear ac bj bc bv O;go_wp2_with fail;generalize V.alloc (.cells (madeCells #[.int .i64 0,.int .i64 0,.int .i64 0] (n*3)) 50)=cV at *;generalize ap.heap.size=B at *;generalize V.heap.size=z at *;clear cA;go_loopw [9,27] (fun l i wr=>∃ k:Nat,k<=n/\i=.int .i64 k/\∃ s,l=.int .i64 s.left/\jG ls ps w wr B z D n k s) (fun _ i _=>n-(intOf i).toNat)
 case atStart=>exact⟨0,qR _,rfl,_,rfl,cc.o⟩
 case round=>
  obtain⟨k,a4,rfl,s,rfl,W⟩:=hrel;have ai:=qX W;have b5:Al (ps.take k):=by
   refine⟨by have:=al.o.2.few;simp;omega,fun i p Q=>?_⟩;have ck:i<k:=by
    rcases qC i k with I|I
    · exact I
    rw[yR,if_neg (by omega)]at Q;cases Q
   rw[yI ck]at Q;have:=al.o.2.each i p Q;refine⟨this.1,?_⟩;have e:ahead (ps.take k) i=ahead ps i:=by
    cases i with
    | zero=>rfl
    | succ i=>simp only[ahead];rw[yI (by omega)]
   rw[e];exact this.2
  have am:=qX (GG aj.o.2 _ _ b5 W.run);clear b5;by_cases cv:k<n
  ·
   obtain⟨⟨x,y,h⟩,Y,-⟩:=Ab ps k (by rw[aq.o];exact cv);obtain⟨b,cU,rfl,-,be⟩:=(al.o.1.below W.below).place (by rw[aq.o];omega);obtain⟨ci,cg,cx⟩:=be k _ Y;simp only at ci cg cx;have o:=A7 (al.o.2.each k _ Y).1;simp only at o;obtain⟨-,-,cu,cw,cF,cE⟩:=o;have cf:=am.o.okOut.final;rw[<- am.o.left]at cf;have cd:=qX Y;have O:zW wr (wr.alloc (.cells #[.int .i64 x,.int .i64 y,.int .i64 h] 50)):=ba;have b2:B<wr.heap.size:=Nat.lt_trans J.o.bd W.dlt;have ab:Hid (Calls Tryz.prog 182 #[.slice (some ⟨B,0,none⟩) ls.length ls.length,.int .i64 (max h s.left),.int .i64 y] (wr.alloc (.cells #[.int .i64 x,.int .i64 y,.int .i64 h] 50)) fun e w'=>e=.returned (LF ao (DN s.bs (max h s.left) y))/\(∀ T,DN s.bs (max h s.left) y=some T->ShAt w' B D (s.bs.map fun b=>b.take T y))/\But (fun k=>k∈D) (wr.alloc (.cells #[.int .i64 x,.int .i64 y,.int .i64 h] 50)) w'):=
    gu B D s.bs (max h s.left) y ls.length w _ ao ct.o (W.below.tr O) J.o.b0 (by simp;omega) (W.sh.below O b2) am.o.few aj.o.2.2.1
     (fun b bg=>⟨(am.o.ok b bg).1,by rw[(am.o.ok b bg).2];omega⟩) (by omega) (by omega) cu cw
   have cq:Hid (ps.take (k+1)=ps.take k++[⟨x,y,h⟩]):=by show _=_;rw[vF,Y];rfl
   have bx:Hid (∀ g,g∈D->g≠wr.heap.size):=fun g K=>by have:=(J.o.gd g K).2;have:=W.dlt;omega
   clear Y be O b2;have ar:=qX W.dlt;have b':Hid (s.left=s.left):=rfl;clear W;generalize bT:s.left=L at *;have b1:=qX bT;clear bT b';obtain⟨M,a8⟩:=ex (max h L);rw[a8]at ab;have aE:=qX a8;obtain⟨ch,a2⟩:=ex (DN s.bs M y);rw[a2]at ab;have b8:=qX a2;have bN:(L<=h/\M=h)\/(h<L/\M=L):=by omega
   clear a8 a2;cases ch with
   | none=>
    change Hid (Calls Tryz.prog 182 #[.slice (some ⟨B,0,none⟩) ls.length ls.length,.int .i64 M,.int .i64 y] (wr.alloc (.cells #[.int .i64 x,.int .i64 y,.int .i64 h] 50)) fun e w'=>e=.returned (.tuple #[.int .i64 0,.iface 308 (.pointer (some (ao 3)))])/\(∀ T,none=some T->ShAt w' B D (s.bs.map fun b=>b.take T y))/\But (fun k=>k∈D) (wr.alloc (.cells #[.int .i64 x,.int .i64 y,.int .i64 h] 50)) w')at ab
    have cC:Hid (CR s ⟨x,y,h⟩=none):=by
     show _=_
     unfold CR;simp only;rw[b1.o,aE.o,b8.o]
    rcases bN with⟨E,U⟩|⟨E,U⟩
    all_goals
     rw[U]at ab;have a':=qX (aE.o.trans U);clear U;go_wp2_with fail
     try rw[a'.o]
     refine ab.o.mono ?_
     rintro e H ⟨rfl,-,N⟩;have av:Hid (zW w H):=by
      have aN:=ai.o.below;have E:zW w (wr.alloc (.cells #[.int .i64 x,.int .i64 y,.int .i64 h] 50)):=aN.alloc aN.size _;exact E.trans (N.below E.size fun g K=>by have U:=(J.o.gd g K).1;have cb:=J.o.b0;omega)
     clear N;go_wp2
     go_ret2;exact⟨av.o.alloc av.o.size _,.inr ⟨k,⟨x,y,h⟩,s,H.heap.size,cd.o,ai.o.run,cC.o,rfl,by simp,by simp⟩⟩
   | some T=>
    change Hid (Calls Tryz.prog 182 #[.slice (some ⟨B,0,none⟩) ls.length ls.length,.int .i64 M,.int .i64 y] (wr.alloc (.cells #[.int .i64 x,.int .i64 y,.int .i64 h] 50)) fun e w'=>e=.returned (.tuple #[.int .i64 T,.nilIface])/\(∀ bm,some T=some bm->ShAt w' B D (s.bs.map fun b=>b.take bm y))/\But (fun k=>k∈D) (wr.alloc (.cells #[.int .i64 x,.int .i64 y,.int .i64 h] 50)) w')at ab
    have cl:Hid (CR s ⟨x,y,h⟩=some ⟨s.bs.map fun b=>b.take T y,T,s.out++[⟨x,y,T⟩]⟩):=by
     show _=_
     unfold CR;simp only;rw[b1.o,aE.o,b8.o]
    have cy:Hid (s.out.length=k):=by
     show _=_
     rw[am.o.len,vO,aq.o];omega
    rcases bN with⟨E,U⟩|⟨E,U⟩
    all_goals
     rw[U]at ab;have a':=qX (aE.o.trans U);clear U;go_wp2_with fail
     try rw[a'.o]
     refine ab.o.mono ?_
     rintro e H ⟨rfl,b6,N⟩;have cj:Hid (ShAt H B D (s.bs.map fun b=>b.take T y)):=b6 T rfl;have a6:¬z∈D:=fun I=>by have:=(J.o.gd z I).2;omega
     have an:¬wr.heap.size∈D:=fun I=>bx.o _ I rfl
     have O:zW wr (wr.alloc (.cells #[.int .i64 x,.int .i64 y,.int .i64 h] 50)):=ba;have av:Hid (zW w H):=by
      have aN:=ai.o.below;have E:=aN.tr O;exact E.trans (N.below E.size fun g K=>by have U:=(J.o.gd g K).1;have cb:=J.o.b0;omega)
     have ad:wr.heap.size<(wr.alloc (.cells #[.int .i64 x,.int .i64 y,.int .i64 h] 50)).heap.size:=by simp
     have a3:=ar.o;have a9:z<(wr.alloc (.cells #[.int .i64 x,.int .i64 y,.int .i64 h] 50)).heap.size:=Nat.lt_trans a3 ad;have aS:Hid (wr.heap.size<H.heap.size):=qD ad N.size;have cW:H.cell? ⟨wr.heap.size,0,none⟩=some (.int .i64 x):=by rw[N.cell (p:=⟨wr.heap.size,0,none⟩) ad an];simp
     have cR:H.cell? ⟨wr.heap.size,1,none⟩=some (.int .i64 y):=by rw[N.cell (p:=⟨wr.heap.size,1,none⟩) ad an];simp
     have cY:H.cell? ⟨wr.heap.size,2,none⟩=some (.int .i64 h):=by rw[N.cell (p:=⟨wr.heap.size,2,none⟩) ad an];simp
     have cG:H.frozen? ⟨wr.heap.size,2,none⟩=false:=by rw[N.frozen (p:=⟨wr.heap.size,2,none⟩) ad an];simp
     have Z:=(ai.o.room.below O a3).but N a9 a6;have cm:=qX Z;have b9:Hid (OT H z s.out):=(ai.o.out.but (S:=fun _=>False) (.ofBelow O) a3 id).but N a9 a6;obtain⟨u0,c0⟩:=Z.cell (k*3) (by omega);obtain⟨u1,cT⟩:=Z.cell (k*3+1) (by omega);obtain⟨u2,cN⟩:=Z.cell (k*3+2) (by omega);have cP:=Z.frozen (k*3);have cL:=Z.frozen (k*3+1);have cX:=Z.frozen (k*3+2);have cQ:¬wr.heap.size=z:=by omega
     have bt:¬z=wr.heap.size:=by omega
     clear b6 N a6 O ad a9 Z an;generalize wr.heap.size=C at *;go_wp2
     go_roundw
     case rel=>
      refine⟨k+1,by omega,by go_num,⟨s.bs.map fun b=>b.take T y,T,s.out++[⟨x,y,T⟩]⟩,rfl,?_⟩;have bq:But (fun q=>q=C) H (H.setCell ⟨C,2,none⟩ (.int .i64 T)):=But.setCell (S:=fun q=>q=C) (But.refl _ _) rfl _;have b4:=cm.o.but bq (Nat.lt_trans ar.o aS.o) bt;have cn:=b9.o.but bq (Nat.lt_trans ar.o aS.o) bt;have bb:But (fun q=>q=C\/q=z) H ((((H.setCell ⟨C,2,none⟩ (.int .i64 T)).setCell ⟨z,k*3,none⟩ (.int .i64 x)).setCell ⟨z,k*3+1,none⟩ (.int .i64 y)).setCell ⟨z,k*3+2,none⟩ (.int .i64 T)):=
       But.setCell (S:=fun q=>q=C\/q=z) (But.setCell (S:=fun q=>q=C\/q=z) (But.setCell (S:=fun q=>q=C\/q=z) (But.setCell (S:=fun q=>q=C\/q=z) (But.refl _ _) (.inl rfl) _) (.inr rfl) _) (.inr rfl) _) (.inr rfl) _
      have cI:=J.o.b0;have cM:=J.o.bd;have cS:=ar.o;refine⟨?_,cj.o.but bb (by omega) (fun g K I=>?_) (by have:=aS.o;omega),((b4.set _ _).set _ _).set _ _,cn.step b4 k cy.o (by omega) x y T,av.o.trans (bb.below av.o.size (fun q cH=>by omega)),qD (Nat.lt_trans ar.o aS.o) bb.size⟩
      · rw[cq.o,Ko,ai.o.run];exact cl.o
      have E:=J.o.gd g K;have U:=bx.o g K;omega
     case measure=>simp[intOf];omega
  clear W;go_wp2
  go_ret2;obtain rfl:k=n:=by omega
  have E:=ai.o;refine⟨E.below,.inl ⟨s,z,by have:=E.run;rwa[vP (by rw[aq.o];omega)]at this,by have e:=aq.o;rw[e];rfl,qI J.o.b0 (x9 J.o.bd),?_⟩⟩;exact .inr ⟨z,0,rfl,E.dlt,fun i p Q=>by
   have:=E.out i p Q;simpa using this⟩
theorem XM (l:List Pk):l.foldl (fun(s:Option Sh) p=>s.bind fun s=>CR s p) none=none:=by
 induction l with
 | nil=>rfl
 | cons a r h=>exact h
theorem OM {ls:lI}{ps:List Pk}{j:Nat}{p:Pk}{s:Sh}(D:ps[j]? = some p)(z:shape ls (ps.take j)=some s)(h:CR s p=none):shape ls ps=none:=by
 have e:ps=ps.take j++p::ps.drop (j+1):=by rw[<- R6 D,List.take_append_drop]
 have E:(ps.take j).foldl (fun(s:Option Sh) p=>s.bind fun s=>CR s p) (some ⟨ls.map He,0,[]⟩)=some s:=z;rw[e];unfold shape;rw[List.foldl_append,E,List.foldl_cons];show List.foldl _ (CR s p) _=none
 rw[h];exact XM _
structure jf (cs:List lI)(ns:List Int):Prop where
 curves:cs.length<=20
 nums:ns.length<=30
 each:∀(i:Nat) ls,cs[i]? = some ls->ls.length<=20
theorem Tryz.infoLines:(Tryz.prog.info? 54).map (fun i=>(i.zero,i.size,i.bytes))=some (some (.slice none 0 0),1,24):=by kernel_rfl
def F9 (w:World)(a:oA)(ps:List Sn):Prop:=
 ps=[]\/∃ b h,a=some ⟨b,h,none⟩/\b<w.heap.size/\∀(i:Nat) p,ps[i]? = some p->w.cell? ⟨b,h+i*3,none⟩=some (.int .i64 p.num)/\w.cell? ⟨b,h+i*3+1,none⟩=some (.int .i64 p.beg)/\w.cell? ⟨b,h+i*3+2,none⟩=some (.int .i64 p.fin)
theorem F9.place {w:World}{a:oA}{ps:List Sn}(z:F9 w a ps)(D:1<=ps.length):∃ b h,a=some ⟨b,h,none⟩/\b<w.heap.size/\∀(i:Nat) p,ps[i]? = some p->w.cell? ⟨b,h+i*3,none⟩=some (.int .i64 p.num)/\w.cell? ⟨b,h+i*3+1,none⟩=some (.int .i64 p.beg)/\w.cell? ⟨b,h+i*3+2,none⟩=some (.int .i64 p.fin):=by
 rcases z with rfl|z
 · simp at D
 exact z
theorem F9.but {S:Nat->Prop}{w w':World}{a:oA}{ps:List Sn}(N:F9 w a ps)(z:But S w w')(I:∀ H,a=some H->¬S H.block):F9 w' a ps:=by
 rcases N with rfl|⟨b,h,rfl,D,J⟩
 · exact .inl rfl
 have E:¬S b:=I _ rfl;refine .inr ⟨b,h,rfl,qD D z.size,fun i p K=>?_⟩;have:=J i p K;exact⟨by rw[z.cell (p:=⟨b,h+i*3,none⟩) D E];exact this.1,by rw[z.cell (p:=⟨b,h+i*3+1,none⟩) D E];exact this.2.1,by rw[z.cell (p:=⟨b,h+i*3+2,none⟩) D E];exact this.2.2⟩
theorem F9.below {w w':World}{a:oA}{ps:List Sn}(h:F9 w a ps)(z:zW w w'):F9 w' a ps:=
 h.but (S:=fun _=>False) (.ofBelow z) (fun _ _ h=>h)
def cellsS (ps:List Sn):List Value:=ps.flatMap fun p=>[.int .i64 p.num,.int .i64 p.beg,.int .i64 p.fin]
theorem Oq (p:Sn)(r:List Sn):cellsS (p::r)=.int .i64 p.num::.int .i64 p.beg::.int .i64 p.fin::cellsS r:=rfl
theorem GY (a b:List Sn):cellsS (a++b)=cellsS a++cellsS b:=by simp[cellsS]
theorem YL (ps:List Sn):∀(i:Nat) p,ps[i]? = some p->(cellsS ps)[i*3]? = some (.int .i64 p.num)/\(cellsS ps)[i*3+1]? = some (.int .i64 p.beg)/\(cellsS ps)[i*3+2]? = some (.int .i64 p.fin):=by
 induction ps with
 | nil=>intro i p h;simp at h
 | cons q r z=>
  intro i p h;rw[Oq];cases i with
  | zero=>simp at h;subst h;exact⟨rfl,rfl,rfl⟩
  | succ i=>
   have:=z i p (by simpa using h);rw[show(i+1)*3=i*3+1+1+1 by omega];exact⟨by simpa using this.1,by simpa using this.2.1,by simpa using this.2.2⟩
theorem Z5 (ps:List Sn):∀ j u,(cellsS ps)[j]? = some u->∃(i:Nat)(p:Sn),ps[i]? = some p/\((j=i*3/\u=.int .i64 p.num)\/(j=i*3+1/\u=.int .i64 p.beg)\/(j=i*3+2/\u=.int .i64 p.fin)):=by
 induction ps with
 | nil=>intro j u h;simp[cellsS]at h
 | cons p r E=>
  intro j u h;rw[Oq]at h
  match j,h with
  | 0,h=>exact⟨0,p,rfl,.inl ⟨rfl,by simpa using h.symm⟩⟩
  | 1,h=>exact⟨0,p,rfl,.inr (.inl ⟨rfl,by simpa using h.symm⟩)⟩
  | 2,h=>exact⟨0,p,rfl,.inr (.inr ⟨rfl,by simpa using h.symm⟩)⟩
  | j+3,h=>
   obtain⟨i,q,z,D⟩:=E j u (by simpa using h);refine⟨i+1,q,by simpa using z,?_⟩;rcases D with⟨e,f⟩|⟨e,f⟩|⟨e,f⟩
   · exact .inl ⟨by omega,f⟩
   · exact .inr (.inl ⟨by omega,f⟩)
   exact .inr (.inr ⟨by omega,f⟩)
theorem FL (ps:List Sn):∀ u∈cellsS ps,u.oneCell'=true:=by
 intro u z;obtain⟨j,D⟩:=xN.1 z;obtain⟨i,p,-,h⟩:=Z5 ps j u D;rcases h with⟨-,rfl⟩|⟨-,rfl⟩|⟨-,rfl⟩ <;> rfl
def DX (w:World)(B:Nat)(v:Value)(ps:List Sn):Prop:=w.ownsRow B 61 3 v ps.length (cellsS ps)
theorem DX.open {w:World}{B:Nat}{v:Value}{ps:List Sn}(h:DX w B v ps):∃ a cap,v=.slice a ps.length cap/\ps.length<=cap/\cap<=maxLen/\F9 w a ps/\(∀ z,a=some z->B<=z.block)/\(a=none->ps=[]/\cap=0):=by
 obtain⟨U,⟨rfl,D⟩|⟨g,cap,V,rfl,K,J,H,I,O,Q⟩⟩:=h
 · exact⟨none,0,by rw[D],by omega,by simp[maxLen],.inl (qN.1 D),(fun z e=>by cases e),fun _=>⟨qN.1 D,rfl⟩⟩
 refine⟨_,cap,rfl,H,I,.inr ⟨g,0,rfl,?_,fun i p N=>?_⟩,(fun z e=>by cases e;exact K),fun e=>by cases e⟩
 ·
  rcases qC g w.heap.size with h|h
  · exact h
  simp[vX h]at J
 have E:w.ownsRow B 61 3 (.slice (some ⟨g,0,none⟩) ps.length cap) ps.length (cellsS ps):=⟨U,.inr ⟨g,cap,V,rfl,K,J,H,I,O,Q⟩⟩
 have W:i<ps.length:=by
  rcases qC i ps.length with h|h
  · exact h
  simp[qH h]at N
 have:=YL ps i p N;rw[E.cellAt _ (by omega),E.cellAt _ (by omega),E.cellAt _ (by omega),vC];exact this
theorem Tryz.infoSent:(Tryz.prog.info? 61).map (fun i=>(i.zero,i.size,i.bytes))=some (some (.agg #[.int .i64 0,.int .i64 0,.int .i64 0]),3,24):=by kernel_rfl
end Go.Proofs.YtejlihcdfffafaaGreatDoor
