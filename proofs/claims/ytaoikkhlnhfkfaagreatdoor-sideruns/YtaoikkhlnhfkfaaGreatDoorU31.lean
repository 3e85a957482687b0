import Derived.Test.YtaoikkhlnhfkfaaGreatDoorU00
import Derived.Conc.TokenWalk
import Derived.Test.YtaoikkhlnhfkfaaGreatDoorU30
set_option maxHeartbeats 4000000
set_option maxRecDepth 100000
set_option linter.defProp false
set_option linter.unusedSimpArgs false
set_option linter.unusedVariables false
namespace Go.Proofs.YtaoikkhlnhfkfaaGreatDoor
open Option renaming some->A,none->sA
open Instr renaming makeSlice->vv,makeChan->yx
open Go renaming underlying->wv,asIntOf->IS,typeInfo->y9,Func->zJ,Frame->vh,World->tz,stepG->tt,undef->yf,commResult->G3
open Proofs.Tryz renaming prog->sr,f55->Bx,f39->By,link->tG,wgLib->CC,f31->vS,f18->v8,f37->At
open Conc renaming base->Kx,stepG_region->yd,rcase->yw,stepG_value->IN
open Bool renaming false->ss,true->sy
open Go.Conc Go.RowKit Go.Conc.Lib Go.ConcR.Gen
open Go.ConcN (WgLive)
open Go.ConcR (KK WgAt stA smA rd wr mk)
variable {ob:oA}{op8:Vl}
def Ś{P:pG}(w:M)(t e:tI) i(z:Vl)(E:P.underlying t=A (.slice e))(Y:P.info? e=A i)(X:i.zero=A z) ac ab l c(e:0<=l)(e:l<=c)(e:(i.bytes:Int)*c<=281474976710656)(e:c<=9223372036854775807)(z:¬c.toNat*i.bytes>roomBytes) es:
  (vv t (.int ac l) (.int ab c)).events P w es=es:=by
 have I:IntKind.i64.wrap l=l:=ot jQ
 have e:IntKind.i64.wrap c=c:=ot jQ
 have U:¬c<0:=N;have O:¬(281474976710656<(i.bytes:Int)*c):=N;have V:¬l<0:=N;have G:¬c<l:=N;by_cases Z:c.toNat*i.size=0
 . simp[vv,ź E,wv,asInt,IS,y9,Y,sizeOf,I,e,U,O,V,G,Z,newRow,askRoom,z,E]
 simp[vv,ź E,wv,asInt,IS,y9,Y,sizeOf,zeroValue,X,I,e,U,O,V,G,Z,newRow,askRoom,z,E]
def IM (q:Bool)(n:Nat):Array Vl:=madeCells #[.q 0,zA q,.n] (n*3)
def Ka q(n:Nat)(Y:n<=100000)(w:M):(vv (tY q) (.q n) (.q n)).run sr w=.ok (.sl w.heap.size 0 n n) (w.alloc (.cells (IM q n) (Č q) (0,0)))/\(vv (tY q) (.q n) (.q n)).events sr w #[]= #[]:=by
 obtain⟨G,O,I,U,E⟩:=ó (nw q);constructor
 .
  have:=Ŭ (P:=sr) w (tY q) (Č q) G _ (n3 q) O I .i64 .i64 n n N N (by rw[E];cases q<;>simp<;>omega) N;have V:(Value.agg #[.q 0,zA q,.nilIface]).cells= #[.q 0,zA q,.nilIface]:=by cases q<;>simp[Value.cells]
  simpa[U,V,IM]using this
 exact Ś w (tY q) (Č q) G _ (n3 q) O I .i64 .i64 n n N N (by rw[E];cases q<;>simp<;>omega) N (by rw[E];unfold roomBytes;cases q<;>simp<;>omega) #[]
def YU (f:zJ):aO:=Gc (A7 (KN f))
def UQ (f:zJ):=Ak (KN f)
def W9 (z:ā)(x:Μ)(t11 t25 t26:Vl):Array Vl:=#[.q z.n,.q z.a,z.b,uu,uu,.pp z.v.h 0,.sn,.n,.pp z.v.d 0,.pp z.v.e 0,.pp z.v.a 0,t11,.chan (A z.v.b),.chan (A z.v.cr),.q z.a,.q z.n,.q z.m,.q z.m,x.b,x.d,x.e,x.a,.q z.n,.chan (A z.v.b),.chan (A z.v.cr),t25,t26,uu,uu,uu,uu]
def Fs (P:pG)(q:Bool)(z:ā)(x:Μ):=(Kx (Ň q)).at ⟨W9 z x uu uu uu,[]⟩ [.inRegion (YU (đ P q)) [3,4],.code (UQ (đ P q))]
section
variable {q:Bool}{z:ā}{bo:Nat}{a b i m:Nat}{x:Μ}{y:ι}{cs:List vh}{K Fx Sh:Nat->Prop}{Stop:(Nat->Prop)->Goroutine->tz->Prop}{w:tz}
def oT{p:Prop}(h:p:=by
  have d1:decide ((z.m:Int)<(z.m:Int))=false:=ĕ N;simp only[Fu,OQ,ξ,Gq,Ri,Xg,QO,Ii,Nh,Fs,JB,k7,W9,YU,UQ,Ww,KN,Kg,È,CR,Ak,A7,Gc,Ş,Rl,Re,Tryz.f55,Tryz.f39,Ň,OU,OT,Tryz.f31,Tryz.f18,é]at hk⊢
  iterate 2 refine Ag.k ?_
  try walk_nrm
  refine Ag.v (.bool false) ?_;try walk_nrm
  iterate 2 refine Ag.k ?_
  refine Ag.c rfl (λ_=>stepG_cond (t:=false) rfl) ?_
  simp only[Ĭ,ę];refine Ag.c rfl (λ_=>stepG_exit rfl) ?_
  iterate 2 refine Ag.k ?_
  try walk_nrm
  refine Ag.v (.q z.n) ?_;try walk_nrm;refine Ag.d 87 z.v.d 0 (.chan (some z.v.b)) rfl rfl dc rfl rfl Tryz.isAgg87 hkb kn.1 kn.2 cn ?_;try walk_nrm;refine Ag.d _ z.v.e 0 (.chan (some z.v.cr)) rfl rfl dc rfl rfl (zN qq) hkb kr.1 kr.2 cr ?_;try walk_nrm;refine Ag.call rfl rfl dc rfl hff dc rfl ?_
  walk_nrmf hnt
  iterate 2 refine Ag.k ?_
  try walk_nrm
  refine Ag.v (.sn) ?_;try walk_nrm
  iterate 3 refine Ag.k ?_
  try walk_nrm
  refine Ag.v (.q z.n) ?_;try walk_nrm;refine Ag.alloc (c:=IM qq z.n) (t:=Č qq) (λb=>.sl b 0 z.n z.n) rfl rfl dc (λw1=>?_) (λw1 e he=>?_) λw1 hw1=>?_
  .
   have:=(Ka qq z.n hn w1).1;dsimp only[qq]at this
   simp[execOp,Act.eval,this]
   rfl
  .
   have h1:=(Ka qq z.n hn w1).1;dsimp only[qq]at h1
   have h2:=(Ka qq z.n hn w1).2;dsimp only[qq]at h2
   simp[execOp,Act.eval,h1,h2]at he
  try walk_nrm
  refine Ag.v (.sl w1.z 0 z.n z.n) ?_;try walk_nrm
  iterate 3 refine Ag.k ?_
  try walk_nrm
  refine Ag.v (.chan (some z.v.b)) ?_;try walk_nrm;refine Ag.v (.chan (some z.v.b)) ?_;try walk_nrm
  iterate 4 refine Ag.k ?_
  try walk_nrm
  refine Ag.v (.q 0) ?_;try walk_nrm;refine Ag.v (.q 0) ?_;try walk_nrm
  iterate 2 refine Ag.k ?_
  refine Ag.c rfl (λ_=>stepG_loop) ?_
  refine Ag.l (n:=m) N ?_
  exact hk {x with b:=.bool false} ⟨uu,uu,uu,uu,uu,uu,uu,uu,uu,uu,uu,uu,uu,uu,uu,uu,uu,uu,uu,uu,uu,uu,uu,uu⟩ w1 hw1):p:=h
def uH (hn:z.n<=100000)(hkb:∀c,K c->c<w.heap.size)(kn:K z.v.d/\¬Sh z.v.d)(kr:K z.v.e/\¬Sh z.v.e)(cn:w.cell? (C z.v.d 0)=A (.chan (A z.v.b)))(cr:w.cell? (C z.v.e 0)=A (.chan (A z.v.cr)))
  (hk:∀x' E w1,Cz K w w1->Ag sr Fx Sh Stop m (λb=>K b\/b=w1.heap.size) (Fu sr q z (sa w1.heap.size 0) (.chan (A z.v.b)) 0 0 E (Fs sr q z x'::cs)) (w1.alloc (.c (IM q z.n) (Č q) (0,0)))):
  Ag sr Fx Sh Stop (m+60) K (JB sr q z z.m x cs) w:=by
 cases q
 .
  let qq:=ss
  have hff:=Tryz.func55;have hnt:=Tryz.ntmps55;exact oT
 let qq:=sy
 have hff:=Tryz.func39;have hnt:=Tryz.ntmps39;exact oT
def OB (f:zJ):aO:=Gc (A7 (Ii f))
def X9 (f:zJ):=Ak (Ii f)
def kP (z:ā)(ob:oA)(op8:Vl)(a b:Nat)(x:ι):Array Vl:=#[.q z.n,.chan (A z.v.b),.chan (A z.v.cr),uu,uu,uu,.sn,.s ob z.n z.n,op8,.q a,.q b,x.j,.q z.n,.s ob z.n z.n,.chan (A z.v.b),x.h,x.i,x.g,x.b,x.d,x.e,x.a,x.k,x.l,x.m,x.p,x.q,x.r,x.s,x.t,x.u,x.v,x.w,x.x,x.y,x.z,x.n,x.f,.chan (A z.v.b),uu]
def RU (P:pG)(q:Bool)(z:ā)(ob:oA)(op8:Vl)(a b:Nat)(x:ι)(cs:lF):gR:=OQ q (kP z ob op8 a b x) [.inRegion (OB (Ņ P q)) [1],.code (X9 (Ņ P q))] cs
def mD{y}(h:∀G,Ag sr Fx Sh Stop m K (RU sr q z ob op8 a z.n G cs) w):Ag sr Fx Sh Stop (m+60) K (Fu sr q z ob op8 a z.n y cs) w:=by
 cases q
 all_goals
  have I:decide ((z.n:Int)<(z.n:Int))=false:=ĕ N;have E:=h {y with h:=.q z.n,i:=.q z.n,g:=.bool ss};revert E
  simp only[Fu,RU,kP,OB,X9,OQ,ξ,QO,Ii,Nh,È,CR,Ak,A7,Gc,Ş,Rl,Re,Bx,By,é];intro E
  iterate 3 refine Ag.k ?_
  try walk_nrm
  refine Ag.v (.q z.n) ?_;try walk_nrm;refine Ag.v (.q z.n) ?_;try walk_nrm;refine Ag.v (.bool ss) ?_;try walk_nrm;refine Ag.k ?_
  refine Ag.c J (λ_=>stepG_cond (t:=ss) J) ?_
  simp only[Ĭ,ę];refine Ag.c J (λ_=>stepG_exit J) ?_
  iterate 2 refine Ag.k ?_
  try walk_nrm
  refine Ag.v (.chan (A z.v.b)) ?_;try walk_nrm;exact Ag.l (n:=m) N E
def Oc (P:pG)(q:Bool)(z:ā)(ob:oA)(op8:Vl)(a b:Nat)(x:ι)(cs:lF):gR:=OQ q (kP z ob op8 a b x) [.inRegion (OB (Ņ P q)) [],.code (X9 (Ņ P q))] cs
def vK{y s tm}{w:M}(Z:w.heap[z.v.b]? = A (.chan 0 #[] ss s s tm)):∃es,(∀e∈es,∃o,e=⟨.obj z.v.b,o,sy⟩)/\tt sr sy (RU sr q z ob op8 a b y cs) w=.go (Oc sr q z ob op8 a b y cs) (w.setChan z.v.b 0 #[] sy s s tm) es:=by
 refine⟨closeEvents z.v.b,λe e=>?_,?_⟩
 . simp only[closeEvents,ĺ,sV,ġ,ĝ]at e;obtain rfl|rfl:=e<;>exact⟨_,J⟩
 have hho:=zP q;cases q
 all_goals
  simp only[Ş,Rl,Re]at hho;simp only[RU,Oc,OQ,Ş,Rl,Re];have e:=(ť (λo:Option zJ=>o.any Func.norace) hho).trans J
  first
   |exact stepG_close (P:=sr) (main:=sy) (b:=Kx 55) (a:=⟨kP z ob op8 a b y,[]⟩) (kk:=[.code (X9 Bx)]) (cs:=cs) (w:=w) (ops:=OB Bx) (i:=1) (rest:=[]) (x:=.tmp 38) rfl rfl dc rfl (c:=z.v.b) J Z e
   |exact stepG_close (P:=sr) (main:=sy) (b:=Kx 39) (a:=⟨kP z ob op8 a b y,[]⟩) (kk:=[.code (X9 By)]) (cs:=cs) (w:=w) (ops:=OB By) (i:=1) (rest:=[]) (x:=.tmp 38) rfl rfl dc rfl (c:=z.v.b) J Z e
def uP{y}:mayWake sr (RU sr q z ob op8 a b y cs)=true:=by cases q<;>rfl
def RZ (f:zJ):aO:=Gc (A7 (UQ f))
def Q7 (f:zJ):=Ak (UQ f)
def TM (z:ā)(ob:oA)(x:Μ):Act:=⟨W9 z x (.s ob z.n z.n) (.s ob z.n z.n) uu,[]⟩
def Y3 (P:pG)(q:Bool)(z:ā)(ob:oA)(x:Μ):=(Kx (Ň q)).at (TM z ob x) (.inRegion (RZ (đ P q)) (0::[])::[.code (Q7 (đ P q))])
def P9 (P:pG)(q:Bool)(z:ā)(ob:oA)(x:Μ)(cs:lF):gR:=G ((Kx (Ň q)).at ⟨W9 z x (.s ob z.n z.n) (.s ob z.n z.n) (.t #[]),[]⟩ (.inRegion (RZ (đ P q)) []::[.code (Q7 (đ P q))])) cs
def pK{y}:Á sr sy (WgLive tG.tWg z.v.a) (Ļ z.v.a) (mY sr tG.tWg z.v.a (ŗ tG z.v.a (Y3 sr q z ob x) cs)) (Oc sr q z ob op8 a b y (Fs sr q z x::cs)):=by
 have a:=@lW sr tG z.v.a CC (Y3 sr q z ob x) cs;simp only[body_wait,waitFn,é]at a;have E:=zP q;cases q
 all_goals
  simp only[Ş,Rl,Re]at E;revert a
  simp only[Oc,kP,OB,X9,OQ,Ii,Nh,Fs,W9,Y3,TM,YU,RZ,Q7,UQ,KN,Kg,È,CR,Ak,A7,Gc,Ş,Rl,Re,Bx,By,Ň,OU,OT,vS,v8,é];intro a
  iterate 2 refine Á.k ?_
  refine Á.c J (λ_=>yd) ?_
  try walk_nrm
  refine Á.value (.s ob z.n z.n) J J dc (λ_=>by go_simp) (λ_=>by simp[go_sem]) ?_;try walk_nrm;refine Á.value (.s ob z.n z.n) J J dc (λ_=>by go_simp) (λ_=>by simp[go_sem]) ?_;try walk_nrm
  iterate 2 refine Á.k ?_
  refine Á.d (t:=6) J J E J ?_
  walk_nrm
  refine Á.value (.s ob z.n z.n) J J dc (λ_=>by go_simp) (λ_=>by simp[go_sem]) ?_;try walk_nrm
  iterate 2 refine Á.k ?_
  refine Á.c J (λ_=>yd) ?_
  try walk_nrm
  refine Á.call J J dc J CC.f_wait (nm_wait tG) J ?_
  walk_nrmf waitFn
  exact a
end
open Go.ConcN (WgLive upd upd_same upd_ne)
open Go.ConcR (KK WgAt stA smA rd wr mk)
def Å.l{P:pG}{main}{F I:M->Prop}{Ev G}(O:∀w,I w->F w)(E:∀e,Ev e->G e):∀{n}{g g':gR},Å P main F Ev n g g'->Å P main I G n g g'
 |0,_,_,h=>h
 |_+1,_,_,⟨Z,x,e,Y,U,h⟩=>⟨Z,x,e,λe aa=>E e (Y e aa),λw V=>U w (O w V),h.l O E⟩
def Á.l{P:pG}{main}{F G:M->Prop}{Ev E}{K:gR->Prop}(V:∀w,G w->F w)(I:∀e,Ev e->E e){g:gR}:Á P main F Ev K g->Á P main G E K g
 |⟨n,g',U,O⟩=>⟨n,g',U.l V I,O⟩
/-! ### where the pool begins -/
def ň (H:Nat->Prop)(v:ű)(w:M)(b:Nat):=b<w.heap.size/\¬H b/\b≠v.b/\b≠v.cr
structure OO where
 R:Nat->Prop
 T:Nat->Nat
 c:Nat->Bool
 Gb:Nat->Bool
 s:Nat->Ending->M->Prop
structure pt (H:Nat->Prop)(q:Bool)(z:ā)(k:OO)(w:M):Prop where
 g:Es sr k.c k.Gb
 a:∀i w1 base,i<z.n->Cz (ň H z.v w) w w1->FC sr k.c k.Gb w1.heap.size (Ú sr (š q) (Ca z.v.g z.v.i i) (Õ k.T w1)) base (Ú sr (š q) (Ca z.v.g z.v.i i) (Õ k.T w1)) (Ô.j k.R) (Frame.enter sr (š q) (Ca z.v.g z.v.i i) .normal) base w1
 j:∀i w1,i<z.n->Cz (ň H z.v w) w w1->Ď sr (š q) (Ca z.v.g z.v.i i) (Õ k.T w1) (k.s i)
 parts:∀i w1 (r:Ô) v0 v,k.s i (.r v0) w1->VR (Ė k.c) r v0 v->∃x y,v=.t #[x,y]/\Oi q x/\(y=.n\/∃t u,y=.f t u)
 f:∀b,k.R b->ň H z.v w b
def OO.B (k:OO)(i:Nat)(v:Vl)(w:M):=∃(x:M)(r:Ô)(L:Nat)(E:Vl)(T t G:Nat->Question->Nat),
 k.s i (.r E) (À x T)/\VR (Ė k.c) r E v/\WR (Ė k.c) L r (À x t) (À w G)/\∀g,k.Gb g=sy->r.rel g g
structure oD (H:Nat->Prop)(q:Bool)(z:ā)(k:OO)(w:M):Prop where
 l:z.n<=100
 r:z.m<=16
 t:0<z.n->0<z.m
 a:z.v.a=w.heap.size
 g:pt H q z k w
 e:∀b,b<sr.globals.size->ň H z.v w b
 f:Φ q z.v w
 m:ň H z.v w z.v.d
 u:ň H z.v w z.v.h
 p:ň H z.v w z.v.e
 h:z.v.b≠z.v.cr
 i:∃s tm,w.heap[z.v.b]? = A (.chan 0 #[] ss s s tm)
 j:∃s tm,w.heap[z.v.cr]? = A (.chan 0 #[] ss s s tm)
 d:Sr H w
 v:¬H z.v.b/\¬H z.v.cr
def ru (i:Nat):Vl->Vl
 |.tuple a=>.agg #[.q i,a.getD 0 uu,a.getD 1 uu]
 |_=>uu
structure Qa (q:Bool)(H:Nat->Prop)(z:ā)(w0:M)(dn:Nat->Option Vl)(Fx K:Nat->Prop)(bo:Nat)(cur:Array Vl)(w:M):Prop where
 k:K bo
 j:¬Fx bo
 r:w0.heap.size<=bo
 row:w.heap[bo]? = A (.c cur (Č q) (0,0))
 h:cur.size=z.n*3
 e:∀i v,dn i=A v->i<z.n->∃x y,v=.t #[x,y]/\cur[i*3]? = A (.q i)/\cur[i*3+1]? = A x/\cur[i*3+2]? = A y
 g:∀b,H b\/b=z.v.a->K b
 d:∀b,H b->w.heap[b]? = w0.heap[b]?
 a:WgAt 98 z.v.a w ((z.m:Int)*KK) 0
def qd (P:pG)(q:Bool)(H:Nat->Prop)(z:ā)(cs:lF)(w0:M)(a b:Nat)(G:Nat->Option Vl)(E K:Nat->Prop)(g:gR)(w:M):=
 a<=z.n/\∃bo x y cur,g=NS P q z (sa bo 0) a b y (Fs P q z x::cs)/\Qa q H z w0 G E K bo cur w
def ny (P:pG)(q:Bool)(H:Nat->Prop)(z:ā)(cs:lF)(w0:M)(G:Nat->Option Vl)(E K:Nat->Prop)(g:gR)(w:M):=
 ∃bo a op8 x y cur,g=RU P q z (sa bo 0) op8 a z.n y (Fs P q z x::cs)/\Qa q H z w0 G E K bo cur w
def RX P(q:Bool)(H:Nat->Prop)(z:ā)(k:OO)(cs:List vh)(w w0:tz)(base top:Nat):Ã P where
 b:=z.v.b
 cr:=z.v.cr
 D:=.int .i64 0
 zr:=yf
 z0:=.int .i64 0
 z1:=(kq q)
 n:=z.n
 d:=base
 top:=top
 S:=ň H z.v w
 R:=k.R
 T:=k.T
 p:=λb=>H b\/b=z.v.a
 a:=z.v.a
 f:=(š q)
 args:=λi=>Ca z.v.g z.v.i i
 c:=k.c
 Gb:=k.Gb
 s:=k.s
 i:=ru
 N5:=λg=>∃t,g=JG q P z.v t
 t:=λi c=>∃t,c=Nv q P z.v t i
 Z:=[EK P]
 v:=λx g=>∃t,g=NJ q P z.v t x
 K:=w0
 w:=qd P q H z cs w0
 O:=ny P q H z cs w0
open Go.ConcN (WgLive upd upd_same upd_ne)
open Go.ConcR (KK WgAt stA smA rd wr mk)
def Qa.u{q H z w0 I G K bo cur}{w w1:M}(h:Qa q H z w0 I G K bo cur w)(E:Cz K w w1):Qa q H z w0 I G K bo cur w1:=
 ⟨h.k,h.j,h.r,(E.1 bo h.k).trans h.row,h.h,h.e,h.g,λb O=>(E.1 b (h.g b (.inl O))).trans (h.d b O),(E.1 _ (h.g _ (.inr J))).trans h.a⟩
section
variable {q:Bool}{H:Nat->Prop}{z:ā}{k:OO}{cs:List vh}{w w0:tz}{base top:Nat}
structure nh (v:ű)(w w0:M):Prop where
 h:w0.heap.size=w.heap.size+1
 g:∀b,b<w.heap.size->w0.heap[b]? = w.heap[b]?
 e:WgAt 98 v.a w0 0 0
 p:w0.os=w.os/\w0.output=w.output
def qS{v t i}{d y:Vl}:G ((Nv q sr v t i).finish (.tuple #[d,y])) [EK sr]=tC q sr v t i d y:=by cases q<;>rfl
def yX{bo a b y x}:(NS sr q z (sa bo 0) a b y (Fs sr q z x::cs)).finishComm sr (Jd q z a) .select (0:Nat) uu ss=
  MJ sr q z (sa bo 0) a b {y with a:=KL z a,k:=.q a,l:=.chan (A z.v.cr),m:=.t #[.q 0,.bool ss,(kq q)]} (Fs sr q z x::cs):=by
 have e:G3 (Jd q z a) .select (0:Nat) uu ss=.t #[.q 0,.bool ss,(kq q)]:=by simp[G3,Jd,yw,goInt]
 unfold Goroutine.finishComm;rw[e];cases q<;>rfl
def zf{bo a b y x}{v:Vl}:(NS sr q z (sa bo 0) a b y (Fs sr q z x::cs)).finishComm sr (Jd q z a) .select (1:Nat) v sy=
  MJ sr q z (sa bo 0) a b {y with a:=KL z a,k:=.q a,l:=.chan (A z.v.cr),m:=.t #[.q 1,.bool sy,v]} (Fs sr q z x::cs):=by
 have e:G3 (Jd q z a) .select (1:Nat) v sy=.t #[.q 1,.bool sy,v]:=by simp[G3,Jd,yw,goInt]
 unfold Goroutine.finishComm;rw[e];cases q<;>rfl
def rK (h:oD H q z k w)(d:nh z.v w w0)(Z:0<base)(ht:base<=top):(RX sr q H z k cs w w0 base top).r:=by
 have hlow:∀b,H b->b<w.heap.size:=λb Z=>by
  obtain⟨c,e,m⟩:=h.d b Z;exact AZ m
 have hS:∀j,(RX sr q H z k cs w w0 base top).k j->Cz (ň H z.v w) w j:=λj m=>⟨λb Z=>(m.1 b Z).trans (d.g b Z.1),by have:w0.heap.size<=j.heap.size:=m.2;have:=d.h;omega,m.out.1.trans d.p.1,m.out.2.trans d.p.2⟩
 have hcell:∀j,(RX sr q H z k cs w w0 base top).k j->Φ q z.v j:=λj m=>
  ⟨((hS j m).E (a:=⟨z.v.d,0,sA⟩) h.m).trans h.f.d,((hS j m).E (a:=⟨z.v.h,0,sA⟩) h.u).trans h.f.h,((hS j m).E (a:=⟨z.v.e,0,sA⟩) h.p).trans h.f.e⟩
 have hE:∀e,Γ z.v e->(RX sr q H z k cs w w0 base top).H e:=by
  rintro e⟨b,Z,rfl⟩;refine⟨⟨b,0,sA⟩,J,?_⟩;obtain rfl|rfl|rfl:=Z
  . exact h.m
  . exact h.u
  exact h.p
 obtain⟨s1,tm1,hcn⟩:=h.i;obtain⟨s2,tm2,hcr⟩:=h.j;have lcn:=AZ hcn;have lcr:=AZ hcr;have ewg:=h.a;refine{ne:=h.h,pos:=Z,top:=ht,slow:=λb Z=>?_,rs:=h.g.f,shlow:=λb Z=>?_,parted:=λb m u=>?_,shwg:=.inr rfl,clow:=?_,cw:=?_,fns:=h.g.g,glob:=?_,begins:=λi j bs n m=>h.g.a i j bs n (hS j m),ends:=λi j n m=>h.g.j i j n (hS j m),recv:=?_,got:=?_,made:=?_,send:=?_,sent:=?_,sel:=?_,shut:=?_,sees:=?_,more:=?_,handed:=?_,took:=?_}
 .
  have Z:ň H z.v w b:=Z;have:=Z.1;have:=d.h;show b<w0.heap.size
  omega
 .
  have:=d.h;show b<w0.heap.size
  obtain Z|rfl:=Z
  . have:=hlow b Z;omega
  omega
 .
  have m:ň H z.v w b:=m;obtain u|rfl:=u
  . exact m.2.1 u
  have:=m.1;omega
 . have:=d.h;exact⟨show z.v.b<w0.heap.size by omega,show z.v.cr<w0.heap.size by omega⟩
 . exact⟨show z.v.b≠z.v.a by omega,show z.v.cr≠z.v.a by omega⟩
 .
  have m:sr.globals.size<=w.heap.size:=m8 λhh=>by
   have:=(h.e w.heap.size hh).1;omega
  have:=d.h;show _<=w0.heap.size
  omega
 .
  rintro g⟨t,rfl⟩;exact⟨J,(λw=>by
    cases q
    all_goals
     unfold JG Iu
     congr 1)⟩
 .
  rintro g i⟨t,rfl⟩n;obtain⟨t',Y⟩:=ui (v:=z.v) (t:=t) i;refine⟨15,Nv q sr z.v t' i,⟨t',J⟩,?_⟩;have e:(JG q sr z.v t).finishComm sr #[yw z.v.b (.int .i64 0)] (.recv sy) 0 (.int .i64 i) sy=gU q sr z.v t (.int .i64 i) true:=bB _ J;show Å sr ss _ _ 16 ((JG q sr z.v t).finishComm sr #[yw z.v.b (.int .i64 0)] (.recv sy) 0 (.int .i64 i) sy) _
  rw[e];exact Y.l hcell hE
 .
  rintro i c v⟨t,rfl⟩n⟨v0,j,r,m,u⟩;obtain⟨d,y,rfl,hd,hy⟩:=h.g.parts i j r v0 v m u;obtain⟨t',Y⟩:=xH (v:=z.v) (t:=t) (i:=i) (d:=d) hd hy;refine⟨12,_,N,?_,t',J⟩;show Å sr ss _ _ 12 (G ((Nv q sr z.v t i).finish (.tuple #[d,y])) [EK sr]) _
  rw[qS];exact Y.l hcell hE
 .
  rintro x g⟨t,rfl⟩;exact⟨J,(λw=>by
    cases q
    all_goals
     unfold NJ JN;simp only[Gc,At];rw[stepG_comm (cases:=#[⟨.chan (A _),_,_⟩]) (blocking:=sy) (shape:=.send) (w':=w) J J dc rfl]
     congr 1)⟩
 .
  rintro x g⟨t,rfl⟩;obtain⟨t',e⟩:=vk (v:=z.v) (t:=t) (NJ q sr z.v t x) (cs:=#[scase z.v.cr x yf]) (k:=0) (x:=x) (y:=yf) (ok:=ss) J;refine⟨5,JG q sr z.v t',?_,t',J⟩;show Å sr ss _ _ 5 ((NJ q sr z.v t x).finishComm sr #[scase z.v.cr x yf] .send 0 yf ss) _
  rw[e];exact yM.l hcell hE
 . rintro a b W X K g j⟨G,w,x,y,cur,rfl,k⟩;exact⟨J,yP⟩
 . rintro W X K g j⟨w,a,op8,x,y,cur,rfl,k⟩;rfl
 . rintro a b W X K g j w2⟨G,w,x,y,cur,rfl,k⟩hs;exact⟨G,w,x,y,cur,J,k.u hs⟩
 . rintro a b W X K r9 g j⟨G,w,x,y,cur,rfl,k⟩hN;exact⟨G,w,x,y,cur,J,.inl k.k,λhx=>hx.elim k.j λhx=>hN w hx k.k,k.r,k.row,k.h,k.e,λb Z=>.inl (k.g b Z),k.d,k.a⟩
 .
  rintro a b W X K g j⟨-,w,x,y,cur,rfl,k⟩Y G Z;have G:a<z.n:=G;have Z:b<z.n:=Z;have hn:=h.l;refine⟨0+60+60,?_⟩;show Ag sr X _ _ _ K ((NS sr q z (A ⟨w,0,sA⟩) a b y (Fs sr q z x::cs)).finishComm sr (Jd q z a) .select (0:Nat) yf ss) j
  rw[yX];refine yB (x:={y with a:=KL z a,k:=.int .i64 a,l:=.chan (A z.v.cr)}) G N λy'=>?_
  refine Uz Z N (λ_=>by simp[KL,G]) λy''=>?_
  refine Ag.q λw2 u=>?_
  exact Or.inl ⟨Z,by show a+1<=z.n;omega,w,x,y'',cur,J,k.u u⟩
 rintro a b W X K g j i v⟨G,w,x,y,cur,rfl,k⟩Y Z n⟨v0,w2,r,m,u⟩;have Z:b<z.n:=Z;have n:i<z.n:=n;have hn:=h.l;obtain⟨d,e,rfl,hd,he⟩:=h.g.parts i w2 r v0 v m u;show ∃m,Ag sr X _ _ m K ((NS sr q z (A ⟨w,0,sA⟩) a b y (Fs sr q z x::cs)).finishComm sr (Jd q z a) .select (1:Nat) (.agg #[.int .i64 i,d,e]) sy) j
 rw[zf];have hsz:=k.h;refine yF (m:=0+60) (x:={y with a:=KL z a,k:=.int .i64 a,l:=.chan (A z.v.cr)}) (xv:=d) (y:=e) (cur:=cur) N Z n ((by
   cases q
   . obtain⟨d,rfl⟩:=hd;rfl
   .
    obtain⟨a,n,c,rfl⟩:=hd;rfl)) ((by
   obtain rfl|⟨t,u,rfl⟩:=he<;>rfl)) Y.kl k.k k.j (λhx=>k.j (Y.sf w (.inr hx))) Y.fk (λc hc=>Y.fk c (Y.sf c (.inr hc))) k.row k.h λy' K' w' g1 g2 g3 g4 g5=>?_
 have hout:Qa q H z w0 (upd W i (A (.tuple #[d,e]))) X K' w (Ig cur (i*3) (.int .i64 i) d e) w':=by
  have p3:=ZH (cur:=cur) (o:=i*3) (x:=.int .i64 i) (y:=d) (z:=e) N;have hne:∀b,H b\/b=z.v.a->b≠w:=λb Z eb=>by
   subst eb;exact k.j (Y.sf b (.inr Z))
  refine⟨g1 w k.k,k.j,k.r,g5,rj lG k.h,λj v hv hj=>?_,λb Z=>g1 b (k.g b Z),λb Z=>(g4.1 b ⟨k.g b (.inl Z),hne b (.inl Z)⟩).trans (k.d b Z),(g4.1 _ ⟨k.g _ (.inr J),hne _ (.inr J)⟩).trans k.a⟩;by_cases ej:j=i
  .
   subst ej;rw[upd_same]at hv;cases hv
   exact⟨_,_,J,p3.1,p3.2.1,p3.2.2⟩
  rw[upd_ne W _ ej]at hv;obtain⟨x1,y1,e1,e0,e2,e3⟩:=k.e j v hv hj;exact⟨x1,y1,e1,by rw[Qg N];exact e0,by rw[Qg N];exact e2,by rw[Qg N];exact e3⟩
 by_cases hbn:b+1<z.n
 .
  refine Uz hbn G (λhlt=>by simp[KL,hlt]) λy''=>?_
  refine Ag.q λw3 h3=>?_
  exact Or.inl ⟨hbn,G,w,x,y'',_,J,hout.u h3⟩
 obtain ebn:b+1=z.n:=N
 rw[ebn];refine mD λy''=>?_
 refine Ag.q λw3 h3=>?_
 exact Or.inr ⟨J,w,a,_,x,y'',_,J,hout.u h3⟩
end
open Go.ConcN (WgLive upd upd_same upd_ne)
open Go.ConcR (KK WgAt stA smA rd wr mk)
def Å.u{P:pG}{main}{F:M->Prop}{Ev}{K:gR->Prop}{n}{g g':gR}(h:Å P main F Ev n g g'):Á P main F Ev K g'->Á P main F Ev K g
 |⟨m,G,E,I⟩=>⟨n+m,G,h.h E,I⟩
def Á.u{P:pG}{main}{F:M->Prop}{Ev}{K E:gR->Prop}{g:gR}(h:Á P main F Ev K g)(I:∀g',K g'->Á P main F Ev E g'):Á P main F Ev E g:=by
 obtain⟨n,g',O,G⟩:=h;exact O.u (I g' G)
def Qi (f:zJ):aO:=Gc (A7 (Ak (Ak (È f))))
def jR (z:ā)(E:Vl):Array Vl:=#[.q z.n,.q z.a,z.b,uu,uu,.pp z.v.h 0,.sn,.n,.pp z.v.d 0,.pp z.v.e 0,E,uu,.chan (A z.v.b),.chan (A z.v.cr),uu,uu,uu,uu,uu,uu,uu,uu,uu,uu,uu,uu,uu,uu,uu,uu,uu]
def Ov (P:pG)(q:Bool)(z:ā)(cs:lF):gR:=G ((Kx (Ň q)).at ⟨jR z uu,[]⟩ [.inRegion (Qi (đ P q)) [0],.code (Kg (đ P q))]) cs
def Mx (P:pG)(q:Bool)(z:ā)(cs:lF):gR:=G ((Kx (Ň q)).at ⟨jR z (.pp z.v.a 0),[]⟩ [.inRegion (Qi (đ P q)) [],.code (Kg (đ P q))]) cs
def Td:Obj:=.c #[.int .u64 0,.int .u32 0] 98 (0,0)
section
variable {q:Bool}{z:ā}{cs:List vh}{F:tz->Prop}{Ev:Event->Prop}{K:Goroutine->Prop}
def uS{w:M}(E:z.v.a=w.heap.size):tt sr sy (Ov sr q z cs) w=.go (Mx sr q z cs) (w.alloc Td) #[]:=by
 cases q
 .
  exact (by
   have key:=IN (P:=sr) (main:=sy) (b:=Kx 31) (a:=⟨jR z uu,[]⟩) (k:=[.code (Kg vS)]) (cs:=cs) (w:=w) (ops:=Qi vS) (i:=0) (rest:=[]) (v:=.pp w.heap.size 0) (w':=w.alloc Td) J J dc (by
    simp only[Qi,jR,È,CR,Ak,A7,Gc,vS,é];go_simp
    rfl)
   rw[<-E]at key;simp only[Ov,Mx,Ň,OU,OT];rw[key]
   congr 1)
 exact (by
  have key:=IN (P:=sr) (main:=sy) (b:=Kx 18) (a:=⟨jR z uu,[]⟩) (k:=[.code (Kg v8)]) (cs:=cs) (w:=w) (ops:=Qi v8) (i:=0) (rest:=[]) (v:=.pp w.heap.size 0) (w':=w.alloc Td) J J dc (by
   simp only[Qi,jR,È,CR,Ak,A7,Gc,v8,é];go_simp
   rfl)
  rw[<-E]at key;simp only[Ov,Mx,Ň,OU,OT];rw[key]
  congr 1)
def q8 (w:M) x y:(Builtin.min_ #[3,3] 3 #[.q x,.q y]).events sr w #[]= #[]:=rfl
def pX (G:(if (z.n:Int)<z.a then(z.n:Int)else z.a)=(z.m:Int))(h:∀x',Á sr sy F Ev K (JB sr q z 0 x' cs)):Á sr sy F Ev K (Mx sr q z cs):=by
 cases q
 all_goals
  have E:=h ⟨uu,uu,uu,uu⟩;revert E
  simp only[Mx,jR,Qi,JB,k7,Ww,KN,Kg,È,CR,Ak,A7,Gc,Ň,OU,OT,vS,v8,é];intro E
  iterate 3 refine Á.k ?_
  refine Á.c J (λ_=>yd) ?_
  try walk_nrm
  refine Á.value (.q z.a) J J dc (λ_=>by go_simp) (λ_=>by simp[go_sem]) ?_;try walk_nrm;refine Á.value (.q z.n) J J dc (λ_=>by go_simp) (λ_=>by simp[go_sem]) ?_;try walk_nrm;refine Á.value (.q z.m) J J dc (λ_=>by go_simp<;>exact G) (λ_=>by simp[go_sem,q8]) ?_;try walk_nrm;refine Á.value (.q 0) J J dc (λ_=>by go_simp) (λ_=>by simp[go_sem]) ?_;try walk_nrm
  iterate 2 refine Á.k ?_
  refine Á.c J (λ_=>stepG_loop) ?_
  exact E
def dA (P:pG)(q:Bool)(z:ā)(cs:lF)(j:Nat)(g:gR):=Á P sy (λ_=>True) (λ_=>False) (λg'=>∃x,g'=JB P q z j x cs) g
def XP (U:z.m<=16):∀{r j}{g},j+r=z.m->dA sr q z cs j g->Ld sr tG.tWg z.v.a (born sr (LD q z.v.a z.v.d z.v.h z.v.e)) (dA sr q z cs z.m) r g
 |0,j,g,E,h=>by
  have e:j=z.m:=E;subst e;exact h
 |r+1,j,g,E,h=>by
  have G:Á sr sy (WgLive tG.tWg z.v.a) (Ļ z.v.a) (bX sr tG.tWg z.v.a (born sr (LD q z.v.a z.v.d z.v.h z.v.e)) (Ld sr tG.tWg z.v.a (born sr (LD q z.v.a z.v.d z.v.h z.v.e)) (dA sr q z cs z.m) r)) g:=by
   refine(h.l (λ_ _=>sk) λ_ O=>O.elim).u ?_
   rintro g'⟨x,rfl⟩;exact pS N J λx'=>XP U (j:=j+1) N (zF N λI=>Á.q ⟨I,J⟩)
  obtain⟨n,g',Y,V⟩:=G;exact⟨n,g',Y,V⟩
end
def TN (f:zJ):=A7 (Ak (È f))
def oM (n wks:Int)(I:Vl)(ba:Nat)(w:M)(e:Exit)(a:Act)(w':M):=e=.normal/\∃E cr G br:Nat,
 a=⟨#[.q n,.q wks,I,uu,uu,.pp ba 0,.sn,.n,.pp G 0,.pp br 0,uu,uu,.chan (A E),.chan (A cr),uu,uu,uu,uu,uu,uu,uu,uu,uu,uu,uu,uu,uu,uu,uu,uu,uu],[]⟩/\zW w w'/\E≠cr/\w.heap.size<=E/\w.heap.size<=cr/\
 w'.heap[E]? = A (.chan 0 #[] ss 0 0 ss)/\w'.heap[cr]? = A (.chan 0 #[] ss 0 0 ss)/\w'.cell? (C G 0)=A (.chan (A E))/\w'.cell? (C br 0)=A (.chan (A cr))
def zG (w:M) a b c d:((((w.alloc a).alloc b).alloc c).alloc d).drew.heap[w.heap.size]? = A a/\((((w.alloc a).alloc b).alloc c).alloc d).drew.heap[w.heap.size+1]? = A b/\((((w.alloc a).alloc b).alloc c).alloc d).drew.heap[w.heap.size+1+1]? = A c/\((((w.alloc a).alloc b).alloc c).alloc d).drew.heap[w.heap.size+1+1+1]? = A d:=by
 have E:=Cx w a;have G:((w.alloc a).alloc b).heap.size=w.heap.size+1+1:=by rw[Cx,E]
 have I:(((w.alloc a).alloc b).alloc c).heap.size=w.heap.size+1+1+1:=by rw[Cx,G]
 have e:((((w.alloc a).alloc b).alloc c).alloc d).drew.heap=((((w.alloc a).alloc b).alloc c).alloc d).heap:=rfl;rw[e];refine⟨?_,?_,?_,?_⟩
 . rw[Ø _ _ N,Ø _ _ N,Ø _ _ N,Ù]
 . rw[Ø _ _ N,Ø _ _ N,<-E,Ù]
 . rw[Ø _ _ N,<-G,Ù]
 rw[<-I,Ù]
def iR (w:M) a b c d:zW w ((((w.alloc a).alloc b).alloc c).alloc d).drew:=by
 have E:=Cx w a;have G:((w.alloc a).alloc b).heap.size=w.heap.size+1+1:=by rw[Cx,E]
 have I:(((w.alloc a).alloc b).alloc c).heap.size=w.heap.size+1+1+1:=by rw[Cx,G]
 exact(((ba.alloc N _).alloc N _).alloc N _).drew
def bT{n wks Y x w W a b c d}{I O:tI} E cr G br(S:W=((((w.alloc a).alloc b).alloc c).alloc d).drew)(X:E≠cr)(R:w.heap.size<=E)(T:w.heap.size<=cr)
  (h:∀f:Nat->Option Obj,f w.heap.size=A a->f (w.heap.size+1)=A b->f (w.heap.size+1+1)=A c->f (w.heap.size+1+1+1)=A d->f E=A (.chan 0 #[] ss 0 0 ss)/\f cr=A (.chan 0 #[] ss 0 0 ss)/\f G=A (.c #[.chan (A E)] I (0,0))/\f br=A (.c #[.chan (A cr)] O (0,0))):
  oM n wks Y x w .normal ⟨#[.q n,.q wks,Y,uu,uu,.pp x 0,.sn,.n,.pp G 0,.pp br 0,uu,uu,.chan (A E),.chan (A cr),uu,uu,uu,uu,uu,uu,uu,uu,uu,uu,uu,uu,uu,uu,uu,uu,uu],[]⟩ W:=by
 obtain⟨I,O,U,V⟩:=zG w a b c d;have Z:=iR w a b c d;rw[<-S]at I O U V Z;obtain⟨c,b,d,a⟩:=h (λx=>W.heap[x]?) I O U V;exact⟨J,E,cr,G,br,J,Z,X,R,T,c,b,by simp[World.cell?,d],by simp[World.cell?,a]⟩
def dh q n wks G ba w:(TN (đ sr q)).wp sr (oM n wks G ba w) ⟨#[.q n,.q wks,G,uu,uu,.pp ba 0,.sn,.n,uu,uu,uu,uu,uu,uu,uu,uu,uu,uu,uu,uu,uu,uu,uu,uu,uu,uu,uu,uu,uu,uu,uu],[]⟩ w:=by
 obtain⟨U,E,-⟩:=ó Tryz.b;have f:∀w':M,(yx 87 (.q 0)).run sr w'=.ok (.chan (A w'.heap.size)) (w'.alloc (.chan 0 #[] ss 0 0 ss)):=λw'=>by
  simp[yx,asInt,IS,ź Tryz.underlying87,y9,E]
 have O:∀w':M,(yx (mQ q) (.q 0)).run sr w'=.ok (.chan (A w'.heap.size)) (w'.alloc (.chan 0 #[] ss 0 0 ss)):=λw'=>by
  obtain⟨f,I,-⟩:=ó (nw q);cases q
  . simp[yx,asInt,IS,ź Tryz.underlying126,y9,I]
  simp[yx,asInt,IS,ź Tryz.underlying88,y9,I]
 clear E;cases q
 all_goals
  simp only[TN,È,A7,Ak,OU,OT,vS,v8,é];simp only[mQ]at O;go_region
  all_goals exact bT _ _ _ _ J N N N (λf Z V f Y=>⟨‹_›,‹_›,‹_›,‹_›⟩)
open Go.ConcN (WgLive upd upd_same upd_ne Has)
open Go.ConcR (KK WgAt stA smA rd wr mk Payload)
section
variable {q:Bool}{v:ű}{t:φ}
def yu[Payload] {F:M->Prop}{Ev sd}{val:Vl}(I:∀w,F w->WgLive tG.tWg v.a w)(O:∀w,F w->Has sd 0 val w):Á sr ss F Ev (λg=>∀w,F w->Go.ConcN.AtR0 sr tG.tWg v.a sd 1 0 1 val g w) (uy q sr v t):=by
 have E:=λT=>zt (P:=sr) (L:=tG) (Wg:=v.a) CC I O (c:={(Ń q).at ⟨T,[]⟩ [] with mode:=.returning}) (cs:=[EK sr]) (qt:=2) J ((by
   cases q
   all_goals
    refine QuitsD.ctl (g':=G (EK sr) []) J (λw=>?_) ?_
    . simp[G,tt,unwind,doReturn,Frame.at,Ń,baseD,EK,ŝ,Tryz.func54,Tryz.func37,ŝ,Vr,UX,Tryz.f54,At,results,seen,GStep.after,goexitEntry]
    refine QuitsD.ctl (g':={G (EK sr) []with status:=.finished}) J (λw=>?_) ⟨J,J⟩;simp[G,tt,unwind,EK,goexitEntry,Frame.catches]
    rfl))
 unfold uy;refine Á.c J (λ_=>stepG_unwind_enter (f:=38) (args:=#[.pp v.a 0]) (ds:=[]) J CC.f_done (nm_done tG) J) ?_
 walk_nrmf doneFn
 exact(E _).l (λ_ h=>h) λ_ h=>h.elim
end
def qC{S B E d t}(h:Cu S B d t)(G:B<=E):Cu S E d t:=⟨h.q,h.p,h.r,h.e,h.k,h.w,h.h,λd I=>MemAct.low_mono G (h.m d I)⟩
def Ω{B t a}(h:∀Z∈t,Z.act.low B)(I:B<=a.block):NoRelease a t:=λi E=>by
 unfold Trace.act? at E;cases G:t[i]? with
 |none=>simp[G]at E
 |some Z=>
  simp[G]at E
  have:=h Z (ŵ G);rw[E]at this;have:a.block<B:=this;omega
end Go.Proofs.YtaoikkhlnhfkfaaGreatDoor
