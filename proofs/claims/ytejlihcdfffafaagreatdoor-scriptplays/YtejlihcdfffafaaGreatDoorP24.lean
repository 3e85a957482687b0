import Derived.Test.YtejlihcdfffafaaGreatDoorP23
import Derived.BigRegion
set_option maxHeartbeats 4000000
set_option maxRecDepth 100000
namespace Go.Proofs.YtejlihcdfffafaaGreatDoor
open Go.RowKit
theorem aW (xs:List Nat):nums xs=ints (Ai xs):=by simp[nums,ints,Ai]
theorem Bl.of_own {w:World}{B e:Nat}{v:Value}{xs:List Nat}(h:w.ownsRow B e 1 v xs.length (ints (Ai xs))):Bl w B v (fun k=>v.ownBlock=some k) xs:=by
 have aj:=h;obtain⟨am,⟨rfl,N⟩|⟨g,Q,D,rfl,ai,z,ad,J,ao,ap⟩⟩:=h
 · have O:xs=[]:=qN.1 N;subst O;obtain⟨ab,b,W,cap,U,Z,al,V⟩:=(Bl.nil w B).made;exact⟨⟨ab,b,W,cap,U,Z,al,fun h=>(V h).elim⟩,fun k Y=>by cases Y⟩
 have H:=xR z;refine⟨⟨_,g,0,Q,rfl,⟨ad,fun _=>rfl,fun _=>H,by rw[nums_length,Nat.mul_one],fun j u E=>?_,fun j an=>?_⟩,J,fun _=>rfl⟩,fun i K=>?_⟩
 · rw[aW]at E;have I:=(vK.1 E).1;rw[Jc,Am]at I;rw[vC,aj.cellAt _ (by omega)];exact E
 ·
  have ac:xs.length+j<D.size:=by omega
  rw[show 0+xs.length*1+j=xs.length+j by omega];exact⟨by rw[cell_of_row w g _ D e (0,0) z,xX ac];rfl,frozen_of_row w g _ D e z⟩
 have e:g=i:=Option.some.inj K;subst e;exact⟨ai,H⟩
theorem Bl.cells {w:World}{B:Nat}{v:Value}{F:Nat->Prop}{xs:List Nat}(Y:Bl w B v F xs):∃ h cap,v=.slice h xs.length cap/\xs.length<=cap/\cap<=maxLen/\(h=none->xs=[]/\cap=0)/\AR w h (Ai xs)/\∀ H,h=some H->∀(j k:Nat),xs[j]? = some k->w.cell? ⟨H.block,H.off+j,none⟩=some (.int .i64 k):=by
 obtain⟨h,b,J,cap,rfl,z,U,ab⟩:=Y.made;have N:=z.le;have key:∀(j k:Nat),xs[j]? = some k->h=some ⟨b,J,none⟩/\w.cell? ⟨b,J+j,none⟩=some (.int .i64 k):=fun j k I=>by
  have Z:=(vK.1 I).1;refine⟨z.addr (by omega),z.olds j _ ?_⟩;simp[nums,I]
 refine⟨h,cap,rfl,N,U,fun e=>?_,?_,fun H O j k I=>?_⟩
 ·
  have D:cap=0:=by
   rcases xP cap with D|D
   · exact D
   rw[z.addr D]at e;cases e
  exact⟨qN.1 (by omega),D⟩
 ·
  cases xs with
  | nil=>exact .inl rfl
  | cons k r=>
   refine .inr ⟨b,J,(key 0 k rfl).1,z.lt (by simp at N;omega),fun i x E=>?_⟩;simp only[Ai,xM]at E;cases K:(k::r)[i]? with
   | none=>rw[K]at E;cases E
   | some Q=>
    rw[K]at E;have e:(Q:Int)=x:=by simpa using E
    rw[<- e];exact(key i Q K).2
 obtain⟨V,W⟩:=key j k I;rw[V]at O;cases O
 exact W
theorem O4 {P:Program}(w:World)(t E e:TypeId)(i:TypeInfo)(I:Value)(O:P.underlying t=some (.slice e))(J:P.info? e=some i)(Z:i.zero=some I)(W:i.size=1)(ac:i.bytes=8)(ad:I.cells.size=1)
  (z:oA) (D:Nat) (ns:List Int) (V:AR w z ns) (ab:z=none->ns=[]/\D=0) (ao:ns.length<=1000) :
  ∃ v w',(Builtin.append_ #[t,t] E #[.slice none 0 0,.slice z ns.length D]).run P w=.ok v w'/\w'.ownsRow w.heap.size e 1 v ns.length (ints ns)/\zW w w':=by
 cases z with
 | none=>
  obtain⟨rfl,rfl⟩:=ab rfl;exact⟨_,w,run_append_owned_none (P:=P) w w.heap.size t E e i 1 O J (.slice none 0 0) 0 [] (qQ _ _ _ _),qQ _ _ _ _,br⟩
 | some K=>
  have al:∀ j u,(ints ns)[j]? = some u->w.cell? (K.add j)=some u:=by
   intro j u h;rcases V with rfl|⟨b,an,Y,-,Q⟩
   · simp[ints]at h
   cases Y
   rw[Addr.add_lit];simp only[ints,xM]at h;cases H:ns[j]? with
   | none=>rw[H]at h;cases h
   | some x=>
    rw[H]at h;rw[Q j x H];simpa using h
  obtain⟨am,w',U,N,aj,ap⟩:=run_append_own (P:=P) w w.heap.size t E e i I 1 8 O J Z W ac ad (by decide) (.slice none 0 0) 0 [] (qQ _ _ _ _) K ns.length D (ints ns) (by rw[Jc,Nat.mul_one]) al (D7 _) (by unfold maxLen;omega) (by omega) lr;rw[vC,zC]at N;exact⟨am,w',U,N,br.grown aj lr (fun k ai=>by cases ai)⟩
theorem FC {P:Program}(w:World){h:Array Oper}{rest:List Oper}{o:Oper}{a:Act}{D:Exit->Act->World->Prop}(K:o.guard=none)(s x:Operand)(t:TypeId)
  (E:o.op=.call { callee:=.builtin .append,args:=#[s,x],argTypes:=#[t,t] })
  (e:TypeId) (i:TypeInfo) (z:Value) (ht:P.underlying t=some (.slice e)) (hi:P.info? e=some i) (hz:i.zero=some z) (hsize:i.size=1) (hby:i.bytes=8) (hzs:z.cells.size=1)
  (na:oA) (ncap n:Nat) (ns:List Int) (hnn:ns.length=n) (hs:a.eval s=.slice none 0 0) (hx:a.eval x=.slice na n ncap) (hl:AR w na ns) (hna:na=none->ns=[]/\ncap=0) (hn:n<=1000)
  (hK:∀ v w',w'.ownsRow w.heap.size e 1 v n (ints ns)/\zW w w'->wpList P h D rest (a.put o.dst v) w'):wpList P h D (o::rest) a w:=by
 subst hnn;refine wpList_plain K fun O I=>?_
 obtain⟨v,w',H,N,J⟩:=O4 (P:=P) w t o.type e i z ht hi hz hsize hby hzs na ncap ns hl hna hn;unfold Oper.wp;simp[execOp,E,resolve,invoke,builtin,hs,hx,H,Result.andThen]
 exact I _ _ (hK v w' ⟨N,J⟩)
theorem Zn (w:World)(n:Nat)(t u:TypeId):Bj w (((w.alloc (.cells (madeCells #[.bool false] n) t)).alloc (.cells (madeCells #[.bool false] n) t)).alloc (.cells (madeCells #[.int .i64 0] 8) u)) w.heap.size (w.heap.size+1) (w.heap.size+2) n (.slice none 0 0) [] 0 (fun _=>0) (.slice none 0 0) (fun _=>False) []:=by
 have s1:(w.alloc (.cells (madeCells #[.bool false] n) t)).heap.size=w.heap.size+1:=by simp
 have K:((w.alloc (.cells (madeCells #[.bool false] n) t)).alloc (.cells (madeCells #[.bool false] n) t)).heap.size=w.heap.size+2:=by simp
 have H:zW w (w.alloc (.cells (madeCells #[.bool false] n) t)):=ba;have D:zW w ((w.alloc (.cells (madeCells #[.bool false] n) t)).alloc (.cells (madeCells #[.bool false] n) t)):=H.alloc H.size _;have N:=D.alloc D.size (.cells (madeCells #[.int .i64 0] 8) u);have I:=Ny w n t;have z:=SL (w.alloc (.cells (madeCells #[.bool false] n) t)) n t;have E:=aI ((w.alloc (.cells (madeCells #[.bool false] n) t)).alloc (.cells (madeCells #[.bool false] n) t)) u;rw[s1]at z;rw[K]at E;have J:Below (w.alloc (.cells (madeCells #[.bool false] n) t)).heap.size (w.alloc (.cells (madeCells #[.bool false] n) t)) ((w.alloc (.cells (madeCells #[.bool false] n) t)).alloc (.cells (madeCells #[.bool false] n) t)):=ba;have h:Below ((w.alloc (.cells (madeCells #[.bool false] n) t)).alloc (.cells (madeCells #[.bool false] n) t)).heap.size ((w.alloc (.cells (madeCells #[.bool false] n) t)).alloc (.cells (madeCells #[.bool false] n) t)) (((w.alloc (.cells (madeCells #[.bool false] n) t)).alloc (.cells (madeCells #[.bool false] n) t)).alloc (.cells (madeCells #[.int .i64 0] 8) u)):=ba;have d1:=I.of_block (J.block _ I.lt) J.size;exact⟨qQ _ _ _ _,d1.of_block (h.block _ d1.lt) h.size,z.of_block (h.block _ z.lt) h.size,E,Bl.nil _ _,⟨by omega,by omega,by omega⟩,⟨(fun e=>by cases e),(fun e=>by cases e),(fun e=>by cases e)⟩,⟨id,id,id,fun _ O=>O.elim⟩,⟨lr,by omega,by omega⟩,N⟩
theorem bL (B:Nat)(I:World)(g:Nat)(H J:Value)(E:Nat->Prop)(q:TQ)(w:World)(z:Cf B I g H J w E q):Calls Tryz.prog 200 #[.pointer (some ⟨g,0,none⟩)] w fun e w'=>e=.returned (.int .i64 (q.n:Int))/\w'=w:=by
 obtain⟨O,F,K,h,D⟩:=z.parts;have N:=h.cells.cn;clear h D z;go_in
 go_wp2
 go_ret;exact⟨rfl,rfl⟩
theorem Vj (B g:Nat)(Z:oA)(ap:Nat)(aB:Value)(ps:List Pk)(aE:Nat->Value)(F:Nat->Nat->Prop)(ar:Value)(d:Drr)(n:Nat)(w:World)(z:AC B g (.slice Z ps.length ap) aB w aE F ar d n)(V:Aw w Z ps)(aN:ps.length<=300)(f k:Nat)(r:List Nat)(p:Pk)(Y:d.srv=some f)(H:f<8)(ad:d.qs f=k::r)(N:ps[k]? = some p)(b:Bool)(O:decide (p.size<=d.cr f)=b):Calls Tryz.prog 219 #[.pointer (some ⟨g,0,none⟩)] w fun e w'=>e=.returned (.bool b)/\∃ m,w'=w.drewN m:=by
 have a3:=Af N;obtain⟨U,ac,rfl,a7,Q⟩:=V.place (by omega);have K:=(Q k p N).2.1;have E:=z.queue f H;rw[ad]at E;obtain⟨a6,aS,cap,ao,al,W,av,-,-,-⟩:=E.first;have ai:=z.cells.c0;have cs:=z.cells.cs;have J:=z.cells.cq f H;have I:=z.cells.cc f H;rw[ao]at J;rw[Y]at cs;have aj:w.cell? ⟨g,19,none⟩=some (.int .i64 f):=cs;obtain⟨x,ab⟩:=ex (d.cr f);obtain⟨y,am⟩:=ex p.size;rw[ab]at I O;rw[am]at K O;obtain⟨m,an⟩:=ex (r.length+1);rw[an]at J al;have a5:0<m:=by omega
 have aw:m<=maxLen:=qI al W;unfold maxLen at W aw;have a0:decide ((m:Int)<=0)=false:=by simp;omega
 clear z V Q E ao Y cs ad N ab am an;go_in
 go_wp2
 go_quiet (fail);obtain⟨D,h⟩:=ex (w.drewN nq);have aq:=qX h;have a1:D.cell? ⟨g,0,none⟩=some (.slice (some ⟨U,ac,none⟩) ps.length ap):=by rw[<- h];exact ai
 have a2:D.cell? ⟨g,19,none⟩=some (.int .i64 f):=by rw[<- h];exact aj
 have dc:D.cell? ⟨g,10+f,none⟩=some (.int .i64 x):=by rw[<- h];exact I
 have a4:D.cell? ⟨U,ac+k*3+1,none⟩=some (.int .i64 y):=by rw[<- h];exact K
 rw[h];clear h ai aj I K J av;go_wp2
 go_quiet (fail);go_wp2
 go_ret;exact⟨rfl,_,by rw[<- aq.o,xU]⟩
theorem I8 {P:Program}{w:World}{E:Array Oper}{o:Oper}{a:Act}{H:Act->World->Prop}{U:Exit->Act->World->Prop}{K:Prop}(O:o.guard=none)(s x:Operand)(t:TypeId)
  (I:o.op=.call { callee:=.builtin .append,args:=#[s,x],argTypes:=#[t,t] })
  (e:TypeId) (i:TypeInfo) (z:Value) (bytes:Nat) (ht:P.underlying t=some (.slice e)) (hi:P.info? e=some i) (hz:i.zero=some z) (hsize:i.size=1) (hby:i.bytes=bytes) (hzs:z.cells.size=1)
  (B:Nat) (v:Value) (F:Nat->Prop) (k:Nat) (xs:List Nat) (hs:a.eval s=v) (h:Bl w B v F xs) (hBw:B<=w.heap.size) (ad:Addr) (c:Nat) (hx:a.eval x=.slice (some ad) 1 c) (hk:w.cell? ad=some (.int .i64 k)) (h63:xs.length+1<=maxLen) (hbytes:(xs.length+1)*bytes<=140737488355328)
  (hK:∀ D cap w',M9 w w' B F D (xs.length+1) cap (xs++[k])->H (a.put o.dst (.slice D (xs.length+1) cap)) w') :
  if Region.wanted o (yielded E a.tmps)=true then Oper.wp P o a w H U else K:=by
 have N:Region.wanted o (yielded E a.tmps)=true:=by simp[Region.wanted,O]
 rw[if_pos N];obtain⟨D,cap,w',J,Q⟩:=JJ (P:=P) w t o.type e i z bytes ht hi hz hsize hby hzs B v F k xs h hBw ad c hk h63 hbytes;unfold Oper.wp;simp[execOp,I,resolve,invoke,builtin,hs,hx,J,Result.andThen]
 exact hK D cap w' Q
theorem Jw {g f E k:Nat}{F:Nat->Nat->Prop}{D:Nat->Prop}{H:Value}(K:f<8)(J:∀ k,D k->F f k\/E<=k)(h:AZ g (AB F f D) H k):AZ g F H k\/E<=k:=by
 rcases h with rfl|⟨j,I,h⟩|h
 · exact .inl (.inl rfl)
 ·
  by_cases e:j=f
  ·
   subst e;rw[AJ]at h;rcases J k h with z|z
   · exact .inl (.inr (.inl ⟨j,I,z⟩))
   exact .inr z
  rw[Au _ _ e]at h;exact .inl (.inr (.inl ⟨j,I,h⟩))
 exact .inl (.inr (.inr h))
theorem Lt {g D k:Nat}{F:Nat->Nat->Prop}{E H:Value}(I:∀ k,H.ownBlock=some k->E.ownBlock=some k\/D<=k)(h:AZ g F H k):AZ g F E k\/D<=k:=by
 rcases h with rfl|h|h
 · exact .inl (.inl rfl)
 · exact .inl (.inr (.inl h))
 rcases I k h with z|z
 · exact .inl (.inr (.inr z))
 exact .inr z
theorem iy {ps:List Pk}{ns:List Int}{M:Int}{q:TQ}(z:KO ps ns M q):q.d.row.length<=8:=by
 have D:∀ f,f∈q.d.line->f<8:=fun f E=>by
  rcases qC f 8 with h|h
  · exact h
  exact absurd (z.few f h) ((z.state.active f).1 E)
 have K:=Un (fun _=>1) 1 8 q.d.line z.state.nodup D (fun _=>lr);have I:(q.d.line.map fun _=>1).sum=q.d.line.length:=by
  generalize q.d.line=l;induction l with
  | nil=>rfl
  | cons a r H=>simp only[yS,zE,vH,H];omega
 have J:q.d.row.length<=q.d.line.length:=by
  unfold Drr.line;cases q.d.srv <;> simp
 omega
structure BO (B g:Nat)(pv qv:Value)(w w':World)(F:Nat->Nat->Prop)(rv:Value)(d:Drr)(n:Nat):Prop where
 at_:∃ vq' F' rv',AC B g pv qv w' vq' F' rv' d n/\∀ k,AZ g F' rv' k->AZ g F rv k\/w.heap.size<=k
 but:But (AZ g F rv) w w'
theorem BO.left {B:Nat}{J:World}{g:Nat}{z D:Value}{w w':World}{h:Nat->Prop}{q q':TQ}{F:Nat->Nat->Prop}{H:Value}(Q:Cf B J g z D w h q)(E:∀ k,h k↔AZ g F H k)(I:BO B g z D w w' F H q'.d q'.n):AX (Cf B J g z D) w w' h q':=by
 obtain⟨V,U,W,O,N⟩:=I.at_;exact Q.leaves E (I.but.mono fun k K=>(E k).2 K) O N
theorem Qz (B g:Nat)(W:oA)(ar:Nat)(aw:Value)(ps:List Pk)(bj:Nat->Value)(F:Nat->Nat->Prop)(Y:Value)(d:Drr)(n:Nat)(w:World)(V:AC B g (.slice W ps.length ar) aw w bj F Y d n)(am:Aw w W ps)(bx:ps.length<=300)(k f:Nat)(p:Pk)(ai:ps[k]? = some p)(a0:p.flow=(f:Int))(z:f<8)(av:d.qs f≠[])(ap:(d.qs f).length<=300)(b3:n<=1000)(ao:B<=w.heap.size):Calls Tryz.prog 198 #[.pointer (some ⟨g,0,none⟩),.int .i64 k] w fun e w'=>e=.returned (.tuple #[])/\BO B g (.slice W ps.length ar) aw w w' F Y { d with qs:=AB d.qs f (d.qs f++[k]) } (n+1):=by
 obtain⟨a3,a5,a8,a1,bl⟩:=vL Tryz.infoInt;have b2:=Af ai;obtain⟨bt,bT,rfl,bv,al⟩:=am.place (by omega);have bp:=(al k p ai).1;rw[a0]at bp;have b0:(f:Int)<8:=by omega
 have aj:=qX V;have bh:=qX ao;have be:Hid (But (AZ g F Y) w w):=But.refl _ _;have bq:Hid (w.heap.size<=w.heap.size):=lr;have b1:=V.cells.c0;have bm:0<(d.qs f).length:=yH.2 av;obtain⟨K,cap,ac,ab,an⟩:=(aj.o.queue f z).form;have N:=aj.o.cells.cq f z;rw[ac]at N;have O:=qX ac;obtain⟨xs,E⟩:=ex (d.qs f);rw[E]at N ab ap O;have a7:=qX E;have Z:zW w (w.drew.alloc (.cells #[.int .i64 k] 3)):=br.drew.alloc lr _;have D:=qX (aj.o.later Z);have bg:Hid (Bl (w.drew.alloc (.cells #[.int .i64 k] 3)) B (.slice K xs.length cap) (F f) xs):=by
  have a':=D.o.queue f z;have e:(d:Drr).qs f=xs:=E;rwa[O.o,e]at a'
 have bk:Hid ((w.drew.alloc (.cells #[.int .i64 k] 3)).cell? ⟨w.heap.size,0,none⟩=some (.int .i64 k)):=(cell_of_row _ _ 0 _ _ _ (vZ w.drew _)).trans rfl;have a4:Hid (B<=(w.drew.alloc (.cells #[.int .i64 k] 3)).heap.size):=qI bh.o Z.size;obtain⟨m,Q⟩:=ex xs.length;have I:=qX Q;rw[Q]at N ab ap O;rw[a7.o,Q]at bm;have bN:((m:Int)==0)=false:=by simp;omega
 have bb:m<=maxLen:=qI ab an;unfold maxLen at an bb;have bc:=qX E;have b4:(w.alloc (.cells #[.int .i64 k] 3)).cell? ⟨g,2+f,none⟩=some (.slice K m cap):=j7 ba N;clear ac E Q Z;clear V am al ai a0 av ao;go_in
 go_wp2_with fail;go_region_law
  (first
   | (refine I8 rfl _ _ 27 rfl 3 a3 (.int .i64 0) 8 Tryz.underlying27 a5 a8 a1 bl rfl B (.slice K m cap) (F f) k xs rfl (by have:=bg.o;rwa [I.o] at this) a4.o ⟨w.heap.size,0,none⟩ 1 rfl bk.o (by rw [I.o];unfold maxLen;omega) (by rw [I.o];omega) ?_
      intro a2 a9 J aS;rw[I.o]at aS ⊢;obtain⟨aB,aq,aE,U⟩:=aS;have H:Hid (Bl J B (.slice a2 (m+1) a9) aB (xs++[k])/\(∀ k,aB k->F f k\/w.heap.size+1<=k)/\But (F f) (w.drew.alloc (.cells #[.int .i64 k] 3)) J):=⟨aq,(by simpa using aE),U⟩
      have a6:J.cell? ⟨g,2+f,none⟩=some (.slice K m cap):=by
        have:=(D.o.cells.but U (D.o.apart f z).1).cq f z;rwa[O.o]at this
      have bd:J.frozen? ⟨g,2+f,none⟩=false:=(D.o.cells.but U (D.o.apart f z).1).free _;clear aq aE U)
   | fail)
 all_goals
  have ad:=qX (D.o.setQ z H.o.2.2 H.o.1 (by simpa using H.o.2.1));have bw:=ad.o.cells.cn;have bs:=ad.o.cells.free 20;clear a6 bd;go_wp2
  go_end0;refine⟨rfl,⟨_,_,_,(by rw[bc.o];exact ad.o.setN (n+1) (by omega)),fun j h=>?_⟩,?_⟩
  ·
   rcases Jw z (fun j h=>H.o.2.1 j h) h with aN|aN
   · exact .inl aN
   exact .inr (by have:=bq.o;omega)
  exact(be.o.trans (((But.ofBelow (br.drew.alloc lr _)).trans (H.o.2.2.mono fun j h=>.inr (.inl ⟨f,z,h⟩))).trans ((F4 _ _ _ _).mono fun j h=>.inl h))).trans ((F4 _ _ _ _).mono fun j h=>.inl h)
theorem O0 (B g:Nat)(a0:oA)(b2:Nat)(bq:Value)(ps:List Pk)(cm:Nat->Value)(F:Nat->Nat->Prop)(H:Value)(d:Drr)(n:Nat)(w:World)(I:AC B g (.slice a0 ps.length b2) bq w cm F H d n)(a7:Aw w a0 ps)(cu:ps.length<=300)(k f:Nat)(p:Pk)(av:ps[k]? = some p)(bj:p.flow=(f:Int))(D:f<8)(Y:d.qs f=[])(cg:d.row.length<=8)(bc:n<=1000)(a2:B<=w.heap.size):Calls Tryz.prog 198 #[.pointer (some ⟨g,0,none⟩),.int .i64 k] w fun e w'=>e=.returned (.tuple #[])/\BO B g (.slice a0 ps.length b2) bq w w' F H { d with qs:=AB d.qs f (d.qs f++[k]),row:=d.row++[f] } (n+1):=by
 obtain⟨bx,bN,bb,bw,b0⟩:=vL Tryz.infoInt;have cE:=Af av;obtain⟨cw,cx,rfl,cA,a6⟩:=a7.place (by omega);have ch:=(a6 k p av).1;rw[bj]at ch;have cC:(f:Int)<8:=by omega
 have a9:(d.qs f).length<=300:=by rw[Y];simp
 have ct:=qX I;have cD:=I.cells.c0;have ca:=I.cells.cr_;have ap:=I.cells.cq f D;obtain⟨b9,cj,bh,cv,b4⟩:=(I.queue f D).form;rw[bh,Y]at ap;have cl:w.cell? ⟨g,2+f,none⟩=some (.slice b9 0 cj):=ap;have aN:zW w (w.alloc (.cells #[.int .i64 f] 3)):=ba;have aj:=qX (I.later aN);have b3:Hid (∀ j u,(ints [(f:Int)])[j]? = some u->(w.alloc (.cells #[.int .i64 f] 3)).cell? (Addr.add ⟨w.heap.size,0,none⟩ j)=some u):=World.news_of_block (cs:=#[.int .i64 f]) (t:=3) (vZ w _);have bT:Hid (B<=(w.alloc (.cells #[.int .i64 f] 3)).heap.size/\(w.alloc (.cells #[.int .i64 f] 3)).heap.size=w.heap.size+1):=⟨qI a2 aN.size,by simp⟩
 obtain⟨J,aS⟩:=ex d.row.length;have bk:=qX aS;rw[aS]at cg;have ce:=qX a2;have cF:=qX Y;unfold maxLen at b4;clear I a7 a6 av bj a2 Y ap bh aN aS;go_in
 go_wp2_with (at_builtin;go_must (refine wpList_append_lies _ rfl _ _ 27 rfl B 3 bx (.int .i64 0) 1 8 Tryz.underlying27 bN bb bw b0 rfl (by decide) H J (ints (Ai d.row)) rfl (by have:=aj.o.row;rwa[bk.o]at this) ⟨w.heap.size,0,none⟩ 1 1 (ints [(f:Int)]) rfl rfl b3.o (D7 _) (by decide) (by unfold maxLen;omega) (by omega) bT.o.1 _ rfl ?_;intro E U Q bp N a' cf;have aE:But (fun k=>H.ownBlock=some k) (w.alloc (.cells #[.int .i64 f] 3)) Q:=⟨N.os,N.tape,N.output,N.size,fun k b6 bc=>N.block k b6 (fun e=>bc e.symm)⟩;have ar:=aj.o.cells.but aE (fun e=>aj.o.rowg e);have a3:=ar.cr_;have a4:=ar.free 18;have al:Hid (Q.ownsRow B 3 1 (.slice (some ⟨E,0,none⟩) (J+1) U) (J+1) (ints (Ai d.row)++ints [(f:Int)])/\But (fun k=>H.ownBlock=some k) (w.alloc (.cells #[.int .i64 f] 3)) Q/\(H.ownBlock=some E\/E=(w.alloc (.cells #[.int .i64 f] 3)).heap.size)):=⟨bp,aE,a'⟩;clear bp N a' cf aE ar))
 have be:Hid (∀ k,(Value.slice (some ⟨E,0,none⟩) (J+1) U).ownBlock=some k->H.ownBlock=some k\/(w.alloc (.cells #[.int .i64 f] 3)).heap.size<=k):=fun j h=>by
  have e:E=j:=Option.some.inj h;rcases al.o.2.2 with O|O
  · exact .inl (by rw[<- e];exact O)
  exact .inr (by rw[<- e,O];exact lr)
 have bv:=qX (aj.o.setR al.o.2.1 (by rw[qJ,DU,bk.o];exact al.o.1) be.o);have a1:Hid (But (AZ g F H) w (Q.setCell ⟨g,18,none⟩ (.slice (some ⟨E,0,none⟩) (J+1) U))):=((But.ofBelow ba).trans (al.o.2.1.mono fun j h=>.inr (.inr h))).trans ((F4 _ _ _ _).mono fun j h=>.inl h);obtain⟨z,bl⟩:=ex (Q.setCell ⟨g,18,none⟩ (.slice (some ⟨E,0,none⟩) (J+1) U));rw[bl]at bv a1 ⊢;have aw:=qX bv.o;have cq:Hid (But (AZ g F (.slice (some ⟨E,0,none⟩) (J+1) U)) z z):=But.refl _ _;have b1:=qX a1.o.size;have b7:Hid (B<=z.heap.size):=qI ce.o b1.o;clear bl a3 a4 ca cl;obtain⟨Z,cap,ac,an,a8⟩:=(aw.o.queue f D).form;simp only at ac an;have ab:=aw.o.cells.cq f D;rw[ac]at ab;have ao:=qX ac;obtain⟨xs,am⟩:=ex (d.qs f);rw[am]at ab an a9 ao;have aq:zW z (z.drew.alloc (.cells #[.int .i64 k] 3)):=br.drew.alloc lr _;have K:=qX (aw.o.later aq);have ck:Hid (Bl (z.drew.alloc (.cells #[.int .i64 k] 3)) B (.slice Z xs.length cap) (F f) xs):=by
  have cd:=K.o.queue f D;have e:({ d with row:=d.row++[f] }:Drr).qs f=xs:=am;rwa[ao.o,e]at cd
 have cc:Hid ((z.drew.alloc (.cells #[.int .i64 k] 3)).cell? ⟨z.heap.size,0,none⟩=some (.int .i64 k)):=(cell_of_row _ _ 0 _ _ _ (vZ z.drew _)).trans rfl;have b8:Hid (B<=(z.drew.alloc (.cells #[.int .i64 k] 3)).heap.size):=qI b7.o aq.size;obtain⟨m,a5⟩:=ex xs.length;have ai:=qX a5;rw[a5]at ab an a9 ao;have b5:m<=maxLen:=qI an a8;unfold maxLen at a8 b5;have cb:=qX am;have cy:(z.alloc (.cells #[.int .i64 k] 3)).cell? ⟨g,2+f,none⟩=some (.slice Z m cap):=j7 ba ab;clear ac am a5 aq;go_region_law
  (first
   | (refine I8 rfl _ _ 27 rfl 3 bx (.int .i64 0) 8 Tryz.underlying27 bN bb bw b0 rfl B (.slice Z m cap) (F f) k xs rfl (by have:=ck.o;rwa [ai.o] at this) b8.o ⟨z.heap.size,0,none⟩ 1 rfl cc.o (by rw [ai.o];unfold maxLen;omega) (by rw [ai.o];omega) ?_
      intro ci b' W bd;rw[ai.o]at bd ⊢;obtain⟨bs,bm,bg,ad⟩:=bd;have V:Hid (Bl W B (.slice ci (m+1) b') bs (xs++[k])/\(∀ k,bs k->F f k\/z.heap.size+1<=k)/\But (F f) (z.drew.alloc (.cells #[.int .i64 k] 3)) W):=⟨bm,(by simpa using bg),ad⟩
      have a3:W.cell? ⟨g,2+f,none⟩=some (.slice Z m cap):=by
        have:=(K.o.cells.but ad (K.o.apart f D).1).cq f D;rwa[ao.o]at this
      have a4:W.frozen? ⟨g,2+f,none⟩=false:=(K.o.cells.but ad (K.o.apart f D).1).free _;clear bm bg ad)
   | fail)
 all_goals
  have aB:=qX (K.o.setQ D V.o.2.2 V.o.1 (by simpa using V.o.2.1));have cp:=aB.o.cells.cn;have co:=aB.o.cells.free 20;clear a3 a4;go_wp2
  go_end0;refine⟨rfl,⟨_,_,_,(by rw[cb.o];exact aB.o.setN (n+1) (by omega)),fun j h=>?_⟩,?_⟩
  ·
   rcases Jw D (fun j h=>V.o.2.1 j h) h with O|O
   ·
    exact (by
    rcases Lt be.o O with bt|bt
    · exact .inl bt
    exact .inr (by have:=bT.o.2;omega))
   exact .inr (by have:=b1.o;omega)
  exact(a1.o.trans (((But.ofBelow (br.drew.alloc lr _)).trans (V.o.2.2.mono fun j h=>.inr (.inl ⟨f,D,h⟩))).trans ((F4 _ _ _ _).mono fun j h=>.inl h))).trans ((F4 _ _ _ _).mono fun j h=>.inl h)
theorem JC {h:Type}(f:Nat->h)(k:Nat)(x y:h):AB (AB f k x) k y=AB f k y:=by
 funext i
 unfold AB;split <;> rfl
theorem Yw (B g:Nat)(Y:Value)(ac:oA)(Q:Nat)(ns:List Int)(aq:Nat->Value)(F:Nat->Nat->Prop)(a3:Value)(d:Drr)(n:Nat)(w:World)(E:AC B g Y (.slice ac ns.length Q) w aq F a3 d n)(aN:AR w ac ns)(U:DF 1 3000 ns)(f:Nat)(r:List Nat)(al:d.row=f::r)(ao:f<8)(bm:0<=d.cr f)(bl:d.cr f<=1000000)(a':d.row.length<=8)(bg:B<=w.heap.size)(a0:∀ a2,ac=some a2->a2.block<B):Calls Tryz.prog 218 #[.pointer (some ⟨g,0,none⟩)] w fun e w'=>e=.returned (.tuple #[])/\BO B g Y (.slice ac ns.length Q) w w' F a3 (d.turn (BI ns) f r) n:=by
 obtain⟨I,N,rfl,b4,a8⟩:=aN.place (by rw[U.len];omega);obtain⟨x,Z,-⟩:=Ab ns f (by rw[U.len];exact ao);have bT:=U.each f x Z;have bx:Hid (BI ns f=x):=IZ Z;have bb:=a8 f x Z;have W:=E.row;rw[al]at W a';rw[<- Am]at W;obtain⟨h,cap,bv,ap,aB,a7⟩:=JH W (by rw[Am];simp);subst bv;have bc:w.cell? ⟨h,0,none⟩=some (.int .i64 f):=a7 0 _ rfl;have an:=E.cells.cr_;have bj:=E.cells.cs;have bq:=E.cells.free 19;have H:Hid (AC B g Y (.slice (some ⟨I,N,none⟩) ns.length Q) (w.setCell ⟨g,19,none⟩ (.int .i64 f)) aq F (.slice (some ⟨h,0,none⟩) (Ai (f::r)).length cap) { d with srv:=some f } n):=E.setS (some f) rfl;have K:(Ai (f::r)).length=r.length+1:=by rw[Am];rfl
 have a9:Hid (Calls Tryz.prog 217 #[.slice (some ⟨h,0,none⟩) (r.length+1) cap,.int .i64 0,.int .i64 1] (w.setCell ⟨g,19,none⟩ (.int .i64 f)) fun e w'=>e=.returned (.slice (some ⟨h,0,none⟩) r.length cap)/\w'.ownsRow B 3 1 (.slice (some ⟨h,0,none⟩) r.length cap) r.length (ints (Ai r))/\But (fun k=>k=h) (w.setCell ⟨g,19,none⟩ (.int .i64 f)) w'):=by
  have am:=H.o.row;have e:({ d with srv:=some f }:Drr).row=f::r:=al;rw[e]at am;have aS:=Ml B h cap 0 (Ai (f::r)) (w.setCell ⟨g,19,none⟩ (.int .i64 f)) (by rw[K]at am ⊢;exact am) (by rw[K];omega) ap aB;rw[K]at aS;exact aS
 rw[K]at an ap;rw[K]at H;obtain⟨m,V⟩:=ex r.length;have be:Hid (r.length=m):=V;obtain⟨c,ad⟩:=ex (d.cr f);have a6:Hid (d.cr f=c):=ad;rw[ad]at bm bl;rw[V]at a9 H an ap;have a4:=U.len;rw[a4]at H;have b0:m<=8:=by rw[<- V];simp at a';omega
 have bw:Hid (∀ aj,Below B w aj->aj.cell? ⟨I,N+f,none⟩=some (.int .i64 x)):=fun aj bd=>by
  rw[bd.cell (p:=⟨I,N+f,none⟩) (show I<B from a0 ⟨I,N,none⟩ rfl)];exact bb
 unfold maxLen at aB;have bp:Hid (B<=w.heap.size):=bg;have bs:Hid ((Ai (f::r)).length=m+1):=by rw[<- V];exact K
 have bt:Hid (∀ k,AZ g F (.slice (some ⟨h,0,none⟩) (m+1) cap) k->B<=k):=fun k D=>(E.foot k D).1
 clear E aN a8 W a7 Z al V ad U a0 bb;go_in
 go_wp2_with fail;refine a9.o.mono ?_
 rintro e J ⟨rfl,a5,ai⟩;have aw:Hid (J.ownsRow B 3 1 (.slice (some ⟨h,0,none⟩) m cap) m (ints (Ai r))/\But (fun k=>k=h) (w.setCell ⟨g,19,none⟩ (.int .i64 f)) J):=⟨a5,ai⟩
 have av:=H.o.cells.but ai (fun e=>H.o.rowg (by rw[e];rfl));have bh:=av.cr_;have bk:=av.free 18;clear a5 ai av;go_wp2_with fail;have O:Hid (AC B g Y (.slice (some ⟨I,N,none⟩) 8 Q) (J.setCell ⟨g,18,none⟩ (.slice (some ⟨h,0,none⟩) m cap)) aq F (.slice (some ⟨h,0,none⟩) m cap) { d with srv:=some f,row:=r } n):=H.o.setR (aw.o.2.mono fun k D=>by rw[D];rfl) (by rw[be.o];exact aw.o.1) (fun k D=>.inl D);have ar:Hid (But (AZ g F (.slice (some ⟨h,0,none⟩) (m+1) cap)) w (J.setCell ⟨g,18,none⟩ (.slice (some ⟨h,0,none⟩) m cap))):=(((F4 _ _ _ _).mono fun j z=>.inl z).trans (aw.o.2.mono fun j z=>.inr (.inr (by rw[z];rfl)))).trans ((F4 _ _ _ _).mono fun j z=>.inl z);have aE:Hid (Below B w (J.setCell ⟨g,18,none⟩ (.slice (some ⟨h,0,none⟩) m cap))):=ar.o.below bp.o (fun k D=>bt.o k D);obtain⟨ab,a1⟩:=ex (J.setCell ⟨g,18,none⟩ (.slice (some ⟨h,0,none⟩) m cap));rw[a1]at O ar aE ⊢;have v1:ab.cell? ⟨g,1,none⟩=some (.slice (some ⟨I,N,none⟩) 8 Q):=O.o.cells.c1;have v2:ab.cell? ⟨g,10+f,none⟩=some (.int .i64 c):=by rw[<- a6.o];exact O.o.cells.cc f ao
 have v3:ab.cell? ⟨g,19,none⟩=some (.int .i64 f):=O.o.cells.cs;have b3:=bw.o ab aE.o;have b1:=O.o.cells.free (10+f);have b2:(f:Int)<8:=by omega
 have bN:IntKind.i64.wrap (c+x)=c+x:=vY _ (by omega);clear a1 bh bk an bj bq bc;go_region
 all_goals
  go_wp2
  go_end0;have e:d.turn (BI ns) f r={ d with srv:=some f,row:=r,cr:=AB d.cr f (c+x) }:=by unfold Drr.turn;rw[a6.o,bx.o]
  rw[e,a4,bs.o];refine⟨rfl,⟨_,_,_,(O.o.setC ao (c+x)).later br.drew,fun j z=>?_⟩,?_⟩
  · exact Lt (fun k D=>.inl D) z
  exact(ar.o.trans ((F4 _ _ _ _).mono fun j z=>.inl z)).drew
theorem P5 (B g k J N W L:Nat)(Q:Value)(U:Nat->Value)(F:Nat->Nat->Prop)(D:Value)(d:Drr)(n:Nat)(w:World)(E:AC B g (.slice (some ⟨J,N,none⟩) L W) Q w U F D d (n+1))(y:Int)(ap:∀ aj,Below B w aj->aj.cell? ⟨J,N+k*3+1,none⟩=some (.int .i64 y))(bk:0<=y)(bm:k<L)(f:Nat)(r:List Nat)(an:d.srv=some f)(K:f<8)(a6:0<=d.cr f)(a5:d.cr f<=1000000)(a9:y<=d.cr f)(bp:n<=1000)(a1:r.length<=300)(al:B<=w.heap.size)(z h cap:Nat)(aw:U f=.slice (some ⟨z,h,none⟩) (r.length+1) cap)(aN:cap<=maxLen)(a2:w.cell? ⟨z,h,none⟩=some (.int .i64 k))(be:1<cap)(am:Bl w B (.slice (some ⟨z,h+1,none⟩) r.length (cap-1)) (F f) r)(a0:r≠[]):Calls Tryz.prog 220 #[.pointer (some ⟨g,0,none⟩)] w fun e w'=>e=.returned (.int .i64 k)/\BO B g (.slice (some ⟨J,N,none⟩) L W) Q w w' F D { d with qs:=AB d.qs f r,cr:=AB d.cr f (d.cr f-y) } n:=by
 have bj:=qX E;have cs:w.cell? ⟨g,19,none⟩=some (.int .i64 f):=by have:=E.cells.cs;rw[an]at this;exact this
 have ac:=E.cells.cq f K;rw[aw]at ac;have a3:=E.cells.free (2+f);obtain⟨m,Y⟩:=ex r.length;have bc:=qX Y;obtain⟨c,ab⟩:=ex (d.cr f);have aq:=qX ab;rw[ab]at a6 a5 a9;rw[Y]at ac a1 am;have a':Hid (∀ k,AZ g F D k->B<=k):=fun k I=>(E.foot k I).1
 have a8:=qX al;have aS:=qX ap;have bh:(f:Int)<8:=by omega
 have bd:(k:Int)<(L:Int):=by omega
 have bq:0<m:=by rw[<- Y];exact yH.2 a0
 have bg:((m:Int)==0)=false:=by simp;omega
 unfold maxLen at aN;have V:Hid (AC B g (.slice (some ⟨J,N,none⟩) L W) Q (w.setCell ⟨g,2+f,none⟩ (.slice (some ⟨z,h+1,none⟩) m (cap-1))).drew (AB U f (.slice (some ⟨z,h+1,none⟩) m (cap-1))) (AB F f (F f)) D { d with qs:=AB d.qs f r } (n+1)):=(E.setQ K (But.refl _ _) am (fun _ I=>.inl I)).later br.drew;have ad:Hid (But (AZ g F D) w (w.setCell ⟨g,2+f,none⟩ (.slice (some ⟨z,h+1,none⟩) m (cap-1))).drew):=((F4 _ _ _ _).mono fun j H=>.inl H).drew;clear E an aw Y ab al ap;go_in
 go_wp2
 go_region;obtain⟨O,ai⟩:=ex ((w.setCell ⟨g,2+f,none⟩ (.slice (some ⟨z,h+1,none⟩) m (cap-1))).drew);rw[ai]at V ad ⊢;have aE:=qX (ad.o.below a8.o (fun k I=>a'.o k I));have v0:=V.o.cells.c0;have v2:O.cell? ⟨g,10+f,none⟩=some (.int .i64 c):=by rw[<- aq.o];exact V.o.cells.cc f K
 have a7:=aS.o O aE.o;have a4:=V.o.cells.free (10+f);have bb:IntKind.i64.wrap (c-y)=c-y:=vY _ (by omega);have Z:Hid (AC B g (.slice (some ⟨J,N,none⟩) L W) Q (O.setCell ⟨g,10+f,none⟩ (.int .i64 (c-y))).drew (AB U f (.slice (some ⟨z,h+1,none⟩) m (cap-1))) (AB F f (F f)) D { d with qs:=AB d.qs f r,cr:=AB d.cr f (c-y) } (n+1)):=(V.o.setC K (c-y)).later br.drew;have aB:Hid (But (AZ g F D) w (O.setCell ⟨g,10+f,none⟩ (.int .i64 (c-y))).drew):=(ad.o.trans ((F4 _ _ _ _).mono fun j H=>.inl H)).drew;clear ai cs ac a3 a2;go_wp2
 go_region;obtain⟨av,ao⟩:=ex ((O.setCell ⟨g,10+f,none⟩ (.int .i64 (c-y))).drew);rw[ao]at Z aB ⊢;have u1:=Z.o.cells.cn;have u2:=Z.o.cells.free 20;have ar:Hid (AC B g (.slice (some ⟨J,N,none⟩) L W) Q (av.setCell ⟨g,20,none⟩ (.int .i64 n)) (AB U f (.slice (some ⟨z,h+1,none⟩) m (cap-1))) (AB F f (F f)) D { d with qs:=AB d.qs f r,cr:=AB d.cr f (c-y) } n):=Z.o.setN n rfl;have u3:(av.setCell ⟨g,20,none⟩ (.int .i64 n)).cell? ⟨g,2+f,none⟩=some (.slice (some ⟨z,h+1,none⟩) m (cap-1)):=by have:=ar.o.cells.cq f K;rwa[AJ]at this
 have bl:(((n+1:Nat)):Int)-1=(n:Int):=by omega
 rw[show(((n+1:Nat)):Int)=(n:Int)+1 by omega]at u1;clear ao v0 v2 a7 a4;go_wp2
 go_ret;rw[aq.o];refine⟨rfl,⟨_,_,_,ar.o,fun j H=>Jw K (fun _ I=>.inl I) H⟩,?_⟩;exact aB.o.trans ((F4 _ _ _ _).mono fun j H=>.inl H)
theorem Pw (B g k K N W L:Nat)(Q:Value)(U:Nat->Value)(F:Nat->Nat->Prop)(E:Value)(d:Drr)(n:Nat)(w:World)(I:AC B g (.slice (some ⟨K,N,none⟩) L W) Q w U F E d (n+1))(y:Int)(ar:∀ am,Below B w am->am.cell? ⟨K,N+k*3+1,none⟩=some (.int .i64 y))(bl:0<=y)(bp:k<L)(f:Nat)(ap:d.srv=some f)(H:f<8)(a5:0<=d.cr f)(a3:d.cr f<=1000000)(a':y<=d.cr f)(bq:n<=1000)(a0:([]:List Nat).length<=300)(an:B<=w.heap.size)(D z cap:Nat)(aw:U f=.slice (some ⟨D,z,none⟩) (([]:List Nat).length+1) cap)(aN:cap<=maxLen)(a1:w.cell? ⟨D,z,none⟩=some (.int .i64 k))(bh:1<cap)(ao:Bl w B (.slice (some ⟨D,z+1,none⟩) ([]:List Nat).length (cap-1)) (F f) []):Calls Tryz.prog 220 #[.pointer (some ⟨g,0,none⟩)] w fun e w'=>e=.returned (.int .i64 k)/\BO B g (.slice (some ⟨K,N,none⟩) L W) Q w w' F E { d with qs:=AB d.qs f [],cr:=AB d.cr f 0,srv:=none } n:=by
 have bj:=qX I;have cs:w.cell? ⟨g,19,none⟩=some (.int .i64 f):=by have:=I.cells.cs;rw[ap]at this;exact this
 have ad:=I.cells.cq f H;rw[aw]at ad;have a2:=I.cells.free (2+f);obtain⟨m,Z⟩:=ex (([]:List Nat).length);have be:=qX Z;obtain⟨c,ac⟩:=ex (d.cr f);have a6:=qX ac;rw[ac]at a5 a3 a';rw[Z]at ad a0 ao;have bc:Hid (∀ k,AZ g F E k->B<=k):=fun k J=>(I.foot k J).1
 have a9:=qX an;have aS:=qX ar;have bk:(f:Int)<8:=by omega
 have bg:(k:Int)<(L:Int):=by omega
 have bb:m=0:=by rw[<- Z];rfl
 subst bb;unfold maxLen at aN;have V:Hid (AC B g (.slice (some ⟨K,N,none⟩) L W) Q (w.setCell ⟨g,2+f,none⟩ (.slice (some ⟨D,z+1,none⟩) 0 (cap-1))).drew (AB U f (.slice (some ⟨D,z+1,none⟩) 0 (cap-1))) (AB F f (F f)) E { d with qs:=AB d.qs f [] } (n+1)):=(I.setQ H (But.refl _ _) ao (fun _ J=>.inl J)).later br.drew;have ai:Hid (But (AZ g F E) w (w.setCell ⟨g,2+f,none⟩ (.slice (some ⟨D,z+1,none⟩) 0 (cap-1))).drew):=((F4 _ _ _ _).mono fun j h=>.inl h).drew;have a7:Hid (({ d with qs:=AB d.qs f [],cr:=AB d.cr f 0,srv:=none }:Drr)={ d with qs:=AB d.qs f [],cr:=AB (AB d.cr f (c-y)) f 0,srv:=none }):=by
  show _=_
  rw[JC]
 clear I ap aw Z ac an ar;go_in
 go_wp2
 go_region;obtain⟨O,al⟩:=ex ((w.setCell ⟨g,2+f,none⟩ (.slice (some ⟨D,z+1,none⟩) 0 (cap-1))).drew);rw[al]at V ai ⊢;have aE:=qX (ai.o.below a9.o (fun k J=>bc.o k J));have v0:=V.o.cells.c0;have v2:O.cell? ⟨g,10+f,none⟩=some (.int .i64 c):=by rw[<- a6.o];exact V.o.cells.cc f H
 have a8:=aS.o O aE.o;have a4:=V.o.cells.free (10+f);have bd:IntKind.i64.wrap (c-y)=c-y:=vY _ (by omega);have ab:Hid (AC B g (.slice (some ⟨K,N,none⟩) L W) Q (O.setCell ⟨g,10+f,none⟩ (.int .i64 (c-y))).drew (AB U f (.slice (some ⟨D,z+1,none⟩) 0 (cap-1))) (AB F f (F f)) E { d with qs:=AB d.qs f [],cr:=AB d.cr f (c-y) } (n+1)):=(V.o.setC H (c-y)).later br.drew;have aB:Hid (But (AZ g F E) w (O.setCell ⟨g,10+f,none⟩ (.int .i64 (c-y))).drew):=(ai.o.trans ((F4 _ _ _ _).mono fun j h=>.inl h)).drew;clear al cs ad a2 a1;go_wp2
 go_region;obtain⟨av,aq⟩:=ex ((O.setCell ⟨g,10+f,none⟩ (.int .i64 (c-y))).drew);rw[aq]at ab aB ⊢;have u1:=ab.o.cells.cn;have u2:=ab.o.cells.free 20;have Y:Hid (AC B g (.slice (some ⟨K,N,none⟩) L W) Q (av.setCell ⟨g,20,none⟩ (.int .i64 n)) (AB U f (.slice (some ⟨D,z+1,none⟩) 0 (cap-1))) (AB F f (F f)) E { d with qs:=AB d.qs f [],cr:=AB d.cr f (c-y) } n):=ab.o.setN n rfl;have u3:(av.setCell ⟨g,20,none⟩ (.int .i64 n)).cell? ⟨g,2+f,none⟩=some (.slice (some ⟨D,z+1,none⟩) 0 (cap-1)):=by have:=Y.o.cells.cq f H;rwa[AJ]at this
 have aj:=qX (Y.o.setC H 0);have u4:=Y.o.cells.cc f H;have u5:=Y.o.cells.free (10+f);have u6:=aj.o.cells.cs;have u7:=aj.o.cells.free 19;have bm:(((n+1:Nat)):Int)-1=(n:Int):=by omega
 rw[show(((n+1:Nat)):Int)=(n:Int)+1 by omega]at u1;clear aq v0 v2 a8 a4;go_wp2
 go_ret;rw[a7.o];refine⟨rfl,⟨_,_,_,aj.o.setS none rfl,fun j h=>Jw H (fun _ J=>.inl J) h⟩,?_⟩;exact((aB.o.trans ((F4 _ _ _ _).mono fun j h=>.inl h)).trans ((F4 _ _ _ _).mono fun j h=>.inl h)).trans ((F4 _ _ _ _).mono fun j h=>.inl h)
theorem Rz (B g k K N W L:Nat)(Q:Value)(U:Nat->Value)(F:Nat->Nat->Prop)(E:Value)(d:Drr)(n:Nat)(w:World)(I:AC B g (.slice (some ⟨K,N,none⟩) L W) Q w U F E d (n+1))(y:Int)(aq:∀ am,Below B w am->am.cell? ⟨K,N+k*3+1,none⟩=some (.int .i64 y))(bl:0<=y)(bp:k<L)(f:Nat)(ao:d.srv=some f)(H:f<8)(a6:0<=d.cr f)(a4:d.cr f<=1000000)(bc:y<=d.cr f)(bq:n<=1000)(a0:([]:List Nat).length<=300)(an:B<=w.heap.size)(D z cap:Nat)(av:U f=.slice (some ⟨D,z,none⟩) (([]:List Nat).length+1) cap)(a':([]:List Nat).length+1<=cap)(aE:cap<=maxLen)(a1:w.cell? ⟨D,z,none⟩=some (.int .i64 k))(a3:cap=1)(aN:Bl w B (.slice (some ⟨D,z,none⟩) 0 0) (F f) []):Calls Tryz.prog 220 #[.pointer (some ⟨g,0,none⟩)] w fun e w'=>e=.returned (.int .i64 k)/\BO B g (.slice (some ⟨K,N,none⟩) L W) Q w w' F E { d with qs:=AB d.qs f [],cr:=AB d.cr f 0,srv:=none } n:=by
 have bj:=qX I;have cs:w.cell? ⟨g,19,none⟩=some (.int .i64 f):=by have:=I.cells.cs;rw[ao]at this;exact this
 have ac:=I.cells.cq f H;rw[av]at ac;have a2:=I.cells.free (2+f);obtain⟨m,ai⟩:=ex (([]:List Nat).length);have bg:=qX ai;obtain⟨c,ab⟩:=ex (d.cr f);have a7:=qX ab;rw[ab]at a6 a4 bc;rw[ai]at ac a' a0;have bd:Hid (∀ k,AZ g F E k->B<=k):=fun k J=>(I.foot k J).1
 have bb:=qX an;have aS:=qX aq;have bk:(f:Int)<8:=by omega
 have bh:(k:Int)<(L:Int):=by omega
 obtain rfl:m=0:=by omega
 subst a3;unfold maxLen at aE;have V:Hid (AC B g (.slice (some ⟨K,N,none⟩) L W) Q (w.setCell ⟨g,2+f,none⟩ (.slice (some ⟨D,z,none⟩) 0 0)).drew (AB U f (.slice (some ⟨D,z,none⟩) 0 0)) (AB F f (F f)) E { d with qs:=AB d.qs f [] } (n+1)):=(I.setQ H (But.refl _ _) aN (fun _ J=>.inl J)).later br.drew;have ad:Hid (But (AZ g F E) w (w.setCell ⟨g,2+f,none⟩ (.slice (some ⟨D,z,none⟩) 0 0)).drew):=((F4 _ _ _ _).mono fun j h=>.inl h).drew;have a8:Hid (({ d with qs:=AB d.qs f [],cr:=AB d.cr f 0,srv:=none }:Drr)={ d with qs:=AB d.qs f [],cr:=AB (AB d.cr f (c-y)) f 0,srv:=none }):=by
  show _=_
  rw[JC]
 clear I ao av ai ab an aq;go_in
 go_wp2
 go_region;obtain⟨O,al⟩:=ex ((w.setCell ⟨g,2+f,none⟩ (.slice (some ⟨D,z,none⟩) 0 0)).drew);rw[al]at V ad ⊢;have aB:=qX (ad.o.below bb.o (fun k J=>bd.o k J));have v0:=V.o.cells.c0;have v2:O.cell? ⟨g,10+f,none⟩=some (.int .i64 c):=by rw[<- a7.o];exact V.o.cells.cc f H
 have a9:=aS.o O aB.o;have a5:=V.o.cells.free (10+f);have be:IntKind.i64.wrap (c-y)=c-y:=vY _ (by omega);have Z:Hid (AC B g (.slice (some ⟨K,N,none⟩) L W) Q (O.setCell ⟨g,10+f,none⟩ (.int .i64 (c-y))).drew (AB U f (.slice (some ⟨D,z,none⟩) 0 0)) (AB F f (F f)) E { d with qs:=AB d.qs f [],cr:=AB d.cr f (c-y) } (n+1)):=(V.o.setC H (c-y)).later br.drew;have aw:Hid (But (AZ g F E) w (O.setCell ⟨g,10+f,none⟩ (.int .i64 (c-y))).drew):=(ad.o.trans ((F4 _ _ _ _).mono fun j h=>.inl h)).drew;clear al cs ac a2 a1;go_wp2
 go_region;obtain⟨ar,ap⟩:=ex ((O.setCell ⟨g,10+f,none⟩ (.int .i64 (c-y))).drew);rw[ap]at Z aw ⊢;have u1:=Z.o.cells.cn;have u2:=Z.o.cells.free 20;have Y:Hid (AC B g (.slice (some ⟨K,N,none⟩) L W) Q (ar.setCell ⟨g,20,none⟩ (.int .i64 n)) (AB U f (.slice (some ⟨D,z,none⟩) 0 0)) (AB F f (F f)) E { d with qs:=AB d.qs f [],cr:=AB d.cr f (c-y) } n):=Z.o.setN n rfl;have u3:(ar.setCell ⟨g,20,none⟩ (.int .i64 n)).cell? ⟨g,2+f,none⟩=some (.slice (some ⟨D,z,none⟩) 0 0):=by have:=Y.o.cells.cq f H;rwa[AJ]at this
 have aj:=qX (Y.o.setC H 0);have u4:=Y.o.cells.cc f H;have u5:=Y.o.cells.free (10+f);have u6:=aj.o.cells.cs;have u7:=aj.o.cells.free 19;have bm:(((n+1:Nat)):Int)-1=(n:Int):=by omega
 rw[show(((n+1:Nat)):Int)=(n:Int)+1 by omega]at u1;clear ap v0 v2 a9 a5;go_wp2
 go_ret;rw[a8.o];refine⟨rfl,⟨_,_,_,aj.o.setS none rfl,fun j h=>Jw H (fun _ J=>.inl J) h⟩,?_⟩;exact((aw.o.trans ((F4 _ _ _ _).mono fun j h=>.inl h)).trans ((F4 _ _ _ _).mono fun j h=>.inl h)).trans ((F4 _ _ _ _).mono fun j h=>.inl h)
end Go.Proofs.YtejlihcdfffafaaGreatDoor
