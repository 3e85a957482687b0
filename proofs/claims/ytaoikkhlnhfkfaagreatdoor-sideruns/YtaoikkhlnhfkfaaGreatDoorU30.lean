import Derived.Test.YtaoikkhlnhfkfaaGreatDoorU00
import Derived.Conc.AppendEvents3
import Derived.Conc.AppendEvents
import Derived.Test.YtaoikkhlnhfkfaaGreatDoorU29
set_option maxRecDepth 100000
set_option linter.defProp false
set_option linter.unusedSimpArgs false
set_option linter.unusedVariables false
namespace Go.Proofs.YtaoikkhlnhfkfaaGreatDoor
open Go renaming Goroutine->th,World->tz,stepG->tt,Frame->vh,yielded->wE,execOp->vf,setRow_heap->FG,Func->zJ,Value->xn,sizeOf->Gx,storeCells->Gy,loadVar->E0
open Bool renaming true->sy,false->ss
open Option renaming some->A
open Region renaming wanted->tn
open Conc renaming stepG_value->IN,base->Kx,stepG_cond->vm
open World renaming setRow->z5,cell?->sY
open _root_.Array renaming replicate->wW,mem_push->Lk,not_mem_empty->Hk
open Proofs.Tryz renaming prog->sr,f55->Bx,f39->By
open Instr renaming storeAt->zd,sureAddr->wj,loadAt->xq
open Sem renaming events_bind->EP,events_pure->EV
open Result renaming evThen_ok->CH
open Go.Conc Go.RowKit Go.Conc.Lib Go.ConcR.Gen
section
variable {P:Program}{Fx Sh:Nat->Prop}{Stop:(Nat->Prop)->th->tz->Prop}{K:Nat->Prop}{w:tz}{n:Nat}{g g':th}
def Ag.c (G:g.status=.running)(h:∀w1,tt P sy g w1=.go g' w1)(k:Ag P Fx Sh Stop n K g' w):Ag P Fx Sh Stop (n+1) K g w:=
 .inr ⟨G,λw1 E=>⟨g',w1,_,h w1,eD.m _ _ _ _,rj (Mk K J) (k.r E)⟩⟩
def Ag.k (h:Ag P Fx Sh Stop n K g' w)(E:g.status=.running:=by rfl)(hw:∀w,tt P sy g w=.go g' w:=by first|exact λ_=>stepG_seq|exact λ_=>stepG_region_end|exact λ_=>stepG_region|exact λ_=>stepG_skip|exact λ_=>stepG_ret'|exact λ_=>stepG_block|exact λ_=>stepG_inBlock|exact λ_=>stepG_inLoop):Ag P Fx Sh Stop (n+1) K g w:=.c E hw h
def Ag.l:∀{n m}{K}{g:gR}{w:M},n<=m->Ag P Fx Sh Stop n K g w->Ag P Fx Sh Stop m K g w
 |0,m,K,g,w,_,h=>Ag.q h
 |n+1,0,_,_,_,E,_=>absurd E N
 |n+1,m+1,K,g,w,E,h=>by
  obtain h|⟨I,h⟩:=h
  . exact .inl h
  exact .inr ⟨I,λE G=>let⟨g',w',es,h2,h3,h4⟩:=h E G;⟨g',w',es,h2,h3,h4.l N⟩⟩
def Ag.p{F:M->Prop}{Ev m}{E:gR->Prop}(h:Á P sy F Ev E g)(aa:∀w w1,F w->Cz K w w1->F w1)(G:∀e,Ev e->∃a,e=⟨.cell a,ss,ss⟩/\K a.block/\¬Sh a.block)
  (V:F w)(Z:∀b,K b->b<w.heap.size)(I:∀g',E g'->Ag P Fx Sh Stop m K g' w):∃se,Ag P Fx Sh Stop se K g w:=by
 let⟨n,g',U,O⟩:=h;exact⟨_,Ag.u aa G V Z U λw1 Y=>(I g' O).r Y⟩
section
variable {b:vh}{a:Act}{k:List Item}{cs:List vh}{ops:Array Oper}{i:Nat}{rest:List Nat}{o:Oper}
def Ag.value (v:Vl)(O:ops[i]? = A o)(E:tn o (wE ops a.tmps)=sy)(I:b.kind≠.early)(V:∀w,(vf a.eval o).run P w=.ok (.value v) w)(U:∀w,(vf a.eval o).events P w #[]= #[])
  (h:Ag P Fx Sh Stop n K (G (b.at (a.put o.dst v) (.inRegion ops rest::k)) cs) w):Ag P Fx Sh Stop (n+1) K (G (b.at a (.inRegion ops (i::rest)::k)) cs) w:=
 .c J (λZ=>by rw[IN O E I (V Z)];unfold listed;rw[U Z,seen_none]) h
def Ag.v (v:Vl)(h:Ag P Fx Sh Stop n K (G (b.at (a.put o.dst v) (.inRegion ops rest::k)) cs) w)(E:ops[i]? = A o:=by rfl)(hw:tn o (wE ops a.tmps)=true:=by rfl)(hk:b.kind≠.early:=by decide)(hr:∀w,(vf a.eval o).run P w=.ok (.value v) w:=by (intro _;go_simp))(he:∀w,(vf a.eval o).events P w #[]= #[]:=by (intro _;simp[go_sem, *])):Ag P Fx Sh Stop (n+1) K (G (b.at a (.inRegion ops (i::rest)::k)) cs) w:=.value v E hw hk hr he h
def R7{fn:fI}{w':M}{es}(h:eD Fx Sh K w w' es):eD Fx Sh K w w' (seen P fn es):=⟨h.h,h.d,h.p,λe E=>h.g e (mem_seen E)⟩
def Ag.load (v:Vl)(ho:ops[i]? = A o)(hw:tn o (wE ops a.tmps)=sy)(hk:b.kind≠.early)(hb:∀b,K b->b<w.heap.size)(hr:∀w1,Cz K w w1->(vf a.eval o).run P w1=.ok (.value v) w1)
  (he:∀w1,Cz K w w1->∀e∈(vf a.eval o).events P w1 #[],∃a,e=⟨.cell a,ss,ss⟩/\K a.block/\¬Sh a.block)
  (h:Ag P Fx Sh Stop n K (G (b.at (a.put o.dst v) (.inRegion ops rest::k)) cs) w):Ag P Fx Sh Stop (n+1) K (G (b.at a (.inRegion ops (i::rest)::k)) cs) w:=
 .inr ⟨J,λw1 Z=>⟨_,w1,_,IN ho hw hk (hr w1 Z),R7 ⟨lr,λ_ _ _=>J,⟨J,J⟩,λe V=>by
  let⟨X,W,Y,U⟩:=he w1 Z e V;exact⟨X,_,W,.inl Y,rZ (hb _ Y) Z.2,(nofun),U⟩⟩,rj (Mk K J) (h.r Z)⟩⟩
def Ag.store{bo}{cur cur':Array Vl}{t:tI}(ho:ops[i]? = A o)(hw:tn o (wE ops a.tmps)=sy)(hk:b.kind≠.early)(hb:∀b,K b->b<w.heap.size)(hK:K bo)(hf:¬Fx bo)(hs:¬Sh bo)(hg:w.heap[bo]? = A (.c cur t (0,0)))
  (hr:∀w1:M,w1.heap[bo]? = A (.c cur t (0,0))->(vf a.eval o).run P w1=.ok .skip (w1.setRow bo cur'))
  (he:∀w1:M,w1.heap[bo]? = A (.c cur t (0,0))->∀e∈(vf a.eval o).events P w1 #[],∃a,e=⟨.cell a,sy,ss⟩/\a.block=bo)
  (h:Ag P Fx Sh Stop n K (G (b.at (a.put o.dst uu) (.inRegion ops rest::k)) cs) (w.setRow bo cur')):Ag P Fx Sh Stop (n+1) K (G (b.at a (.inRegion ops (i::rest)::k)) cs) w:=by
 refine .inr ⟨J,λw1 Y=>?_⟩;have hg1:=(Y.1 bo hK).trans hg;have hsz:∀(w:M)(cs:Array Vl),(w.setRow bo cs).heap.size=w.heap.size:=λw cs=>by simp[z5]
 have hne:∀(w:M)(cs:Array Vl) b,b≠bo->(w.setRow bo cs).heap[b]? = w.heap[b]?:=λw cs b hb=>by simp[z5,π,ħ hb]
 refine⟨_,w1.setRow bo cur',_,stepG_none ho hw hk (hr w1 hg1),R7 ⟨js (hsz _ _).symm,λb hb' Z=>hne _ _ _ ?_,⟨J,J⟩,λe Z=>?_⟩,?_⟩
 .
  rintro rfl;obtain Z|Z:=Z
  . exact hf Z
  exact Z hK
 . let⟨X,W,V⟩:=he w1 hg1 e Z;subst V;exact⟨X,sy,W,.inl hK,rj hsz (rZ (hb _ hK) Y.2),λ_=>hf,hs⟩
 rw[Mk K (hsz _ _)];refine h.r ⟨λb hb'=>?_,by rw[hsz,hsz];exact Y.2,Y.p⟩;by_cases e:b=bo
 . subst e;rw[FG w1 b cur cur' t _ hg1,FG w b cur _ t _ hg]
 rw[hne _ _ _ e,hne _ _ _ e];exact Y.1 b hb'
def SX{main}{f:fI}{fn c args}{Y:Array tI}(U:ops[i]? = A o)(I:tn o (wE ops a.tmps)=sy)(O:b.kind≠.early)(Z:o.op=.call {callee:=.value (.func f),args,argTypes:=Y})
  (hf:P.funcs[f]? = A fn)(hname:(fn.name== "runtime.NumGoroutine")=ss)(hb:fn.body=A c)(w:M):
  stepG P main (G (b.at a (.inRegion ops (i::rest)::k)) cs) w=.go (G ((Kx f).at {tmps:=args.map a.eval++wW (fn.ntmps-(args.map a.eval).size) uu,defers:=[]} [.code c]) (b.at a (.inRegion ops (i::rest)::k)::cs)) w #[]:=by
 by_cases E:tt P main (G (b.at a (.inRegion ops (i::rest)::k)) cs) w=.go (G ((Kx f).at {tmps:=args.map a.eval++wW (fn.ntmps-(args.map a.eval).size) uu,defers:=[]} [.code c]) (b.at a (.inRegion ops (i::rest)::k)::cs)) w #[]
 . exact E
 exfalso
 have V:=goes_call (P:=P) (main:=main) (w:=w) (cs:=cs) (k:=k) (rest:=rest) (K:=λx w' K=>x=(G ((Kx f).at {tmps:=args.map a.eval++wW (fn.ntmps-(args.map a.eval).size) uu,defers:=[]} [.code c]) (b.at a (.inRegion ops (i::rest)::k)::cs))/\w'=w/\K= #[]) U I O Z hf hname hb ⟨J,J,J⟩;revert V
 generalize tt P _ (G (b.at a (.inRegion _ _::k)) cs) w=x at E;cases x<;>simp[GStep.goes,imp_false,not_false_eq_true]
 simp_all
def Ag.call{f:fI}{fn c args}{U:Array tI}(O:ops[i]? = A o)(E:tn o (wE ops a.tmps)=sy)(I:b.kind≠.early)(V:o.op=.call {callee:=.value (.func f),args,argTypes:=U})
  (hf:P.funcs[f]? = A fn)(hname:(fn.name== "runtime.NumGoroutine")=ss)(hb:fn.body=A c)
  (h:Ag P Fx Sh Stop n K (G ((Kx f).at {tmps:=args.map a.eval++wW (fn.ntmps-(args.map a.eval).size) uu,defers:=[]} [.code c]) (b.at a (.inRegion ops (i::rest)::k)::cs)) w):Ag P Fx Sh Stop (n+1) K (G (b.at a (.inRegion ops (i::rest)::k)) cs) w:=
 .c J (λZ=>SX O E I V hf hname hb Z) h
def Ag.alloc{c:Array Vl}{t:tI}(v:Nat->Vl)(ho:ops[i]? = A o)(hw:tn o (wE ops a.tmps)=sy)(hk:b.kind≠.early)
  (hr:∀w1:M,(vf a.eval o).run P w1=.ok (.value (v w1.heap.size)) (w1.alloc (.c c t (0,0))))(he:∀w1,∀e∈(vf a.eval o).events P w1 #[],False)
  (h:∀w1,Cz K w w1->Ag P Fx Sh Stop n (λb=>K b\/b=w1.heap.size) (G (b.at (a.put o.dst (v w1.heap.size)) (.inRegion ops rest::k)) cs) (w1.alloc (.c c t (0,0)))):Ag P Fx Sh Stop (n+1) K (G (b.at a (.inRegion ops (i::rest)::k)) cs) w:=by
 refine .inr ⟨J,λw1 Z=>⟨_,_,_,IN ho hw hk (hr w1),R7 ⟨by show _<=(w1.heap.push _).size;simp,λb X _=>?_,⟨J,J⟩,λe Y=>(he w1 e Y).elim⟩,?_⟩⟩
 .
  show(w1.heap.push _)[b]? = _
  simp[Β,kp X]
 have e:ķ K w1 (w1.alloc (.c c t (0,0)))=λb=>K b\/b=w1.heap.size:=by
  funext b
  have Y:(w1.alloc (.c c t (0,0))).heap.size=w1.heap.size+1:=by show(w1.heap.push _).size=_;simp
  simp only[ķ,Y];refine propext ⟨?_,?_⟩
  .
   rintro(h|h)
   . exact .inl h
   exact .inr N
  rintro(h|rfl)
  . exact .inl h
  exact .inr ⟨lr,ō _⟩
 rw[e];exact h w1 Z
end
end
def Nh (f:zJ):=Ak (Ak (Ak (È f)))
def QO (f:zJ):=CR (CR (Ak (A7 (Nh f))))
def Ii (f:zJ):=Ak (Nh f)
def Xg (f:zJ):=Ak (Ak (CR (Ak (QO f))))
def Gq (f:zJ):aO:=Gc (A7 (Xg f))
def Ri (f:zJ):=Ak (Xg f)
structure ι where
 (j h i g b d e a k l m p q r s t u v w x y z n f:Vl)
def ξ (z:ā)(ob:oA)(op8:Vl)(a b:Nat)(x:ι):Array Vl:=#[.q z.n,.chan (A z.v.b),.chan (A z.v.cr),uu,uu,uu,.sn,.s ob z.n z.n,op8,.q a,.q b,x.j,.q z.n,.s ob z.n z.n,.chan (A z.v.b),x.h,x.i,x.g,x.b,x.d,x.e,x.a,x.k,x.l,x.m,x.p,x.q,x.r,x.s,x.t,x.u,x.v,x.w,x.x,x.y,x.z,x.n,x.f,uu,uu]
def OQ (q:Bool)(T:Array Vl)(k:lM)(cs:lF):gR:=G ((Kx (Ş q)).at ⟨T,[]⟩ k) cs
def Fu (P:pG)(q:Bool)(z:ā)(ob:oA)(op8:Vl)(a b:Nat)(x:ι)(cs:lF):=OQ q (ξ z ob op8 a b x) [.code (QO (Ņ P q)),.inLoop (QO (Ņ P q)),.inBlock 0,.code (Ii (Ņ P q))] cs
def KL (z:ā)(a:Nat):Vl:=if a<z.n then .chan (A z.v.b)else .chan none
def NS (P:pG)(q:Bool)(z:ā)(ob:oA)(a b:Nat)(x:ι)(cs:lF):=OQ q (ξ z ob (KL z a) a b {x with a:=KL z a,k:=.q a,l:=.chan (A z.v.cr)}) [.inRegion (Gq (Ņ P q)) [0,1,2,3],.code (Ri (Ņ P q)),.inBlock 1,.inLoop (QO (Ņ P q)),.inBlock 0,.code (Ii (Ņ P q))] cs
def MJ (P:pG)(q:Bool)(z:ā)(ob:oA)(a b:Nat)(x:ι)(cs:lF):=OQ q (ξ z ob (KL z a) a b x) [.inRegion (Gq (Ņ P q)) [1,2,3],.code (Ri (Ņ P q)),.inBlock 1,.inLoop (QO (Ņ P q)),.inBlock 0,.code (Ii (Ņ P q))] cs
def kq (q:Bool):Vl:=.agg #[.q 0,zA q,.n]
def Jd (q:Bool)(z:ā)(a:Nat):=#[⟨KL z a,A (.q a),.q 0⟩,rcase z.v.cr (kq q)]
section
variable {q:Bool}{z:ā}{ob:Option Addr}{a b:Nat}{x:ι}{cs:List vh}{m:Nat}{K Fx Sh:Nat->Prop}{Stop:(Nat->Prop)->th->tz->Prop}{w:tz}
def yP (w:M):tt sr sy (NS sr q z ob a b x cs) w=.comm (NS sr q z ob a b x cs) (Jd q z a) sy .select w #[]:=by
 obtain⟨E,G⟩:∃E,E=kq q:=⟨_,J⟩
 unfold Jd;rw[<-G];cases q
 all_goals
  unfold NS Gq OQ;simp only[Gc,A7,Xg,QO,Nh,CR,Ak,È,ξ,Ş,Rl,Re,Bx,By,é];rw[stepG_comm (cases:=#[⟨KL z a,A (.q a),.q 0⟩,rcase z.v.cr E]) (blocking:=sy) (shape:=.select) (w':=w) J J dc (by unfold KL;split<;>(subst G;go_simp;rfl))]
  congr 1
  unfold KL;split<;>(unfold listed;simp[go_sem];exact seen_none _ _)
def oU{q:Prop}(h:q:=by
 iterate 2 refine Ag.k ?_
 try walk_nrm
 refine Ag.v (.chan (some z.v.cr)) ?_;try walk_nrm
 iterate 3 refine Ag.k ?_
 try walk_nrm
 exact Ag.l (n:=m) (by omega) E):q:=h
def Uz{op8}(Y:b<z.n)(U:a<=z.n)(I:a<z.n->op8=.chan (A z.v.b))(h:∀x',Ag sr Fx Sh Stop m K (NS sr q z ob a b x' cs) w):Ag sr Fx Sh Stop (m+60) K (Fu sr q z ob op8 a b x cs) w:=by
 cases q
 all_goals
  have V:decide ((b:Int)<(z.n:Int))=true:=ď N;by_cases G:a<z.n
  .
   obtain rfl:=I G;have e:KL z a=.chan (A z.v.b):=by simp[KL,G]
   have O:((a:Int)==(z.n:Int))=false:=so
   have E:=h {x with h:=.q b,i:=.q z.n,g:=.bool sy,b:=.q a,d:=.q z.n,e:=.bool ss};simp only[NS,e]at E;revert E
   simp only[Fu,OQ,ξ,Gq,Ri,Xg,QO,Ii,Nh,È,CR,Ak,A7,Gc,Ş,Rl,Re,Bx,By,é];intro E
   iterate 3 refine Ag.k ?_
   try walk_nrm
   refine Ag.v (.q b) ?_;try walk_nrm;refine Ag.v (.q z.n) ?_;try walk_nrm;refine Ag.v (.bool sy) ?_;try walk_nrm;refine Ag.k ?_
   refine Ag.c J (λ_=>vm (t:=sy) J) ?_
   simp only[ô]
   iterate 5 refine Ag.k ?_
   try walk_nrm
   refine Ag.v (.q a) ?_;try walk_nrm;refine Ag.v (.q z.n) ?_;try walk_nrm;refine Ag.v (.bool ss) ?_;try walk_nrm;refine Ag.k ?_
   refine Ag.c J (λ_=>vm (t:=ss) J) ?_
   simp only[Ĭ,ę];refine Ag.k ?_
   iterate 3 (refine Ag.k ?_)
   refine Ag.k ?_
   try walk_nrm
   refine Ag.v (.chan (A z.v.b)) ?_;try walk_nrm
   iterate 2 refine Ag.k ?_
   try walk_nrm
   refine Ag.v (.q a) ?_;try walk_nrm;exact oU
  have e:KL z a=.chan none:=by simp[KL,G]
  obtain rfl:a=z.n:=N
  have E:=h {x with h:=.q b,i:=.q z.n,g:=.bool sy,b:=.q z.n,d:=.q z.n,e:=.bool sy};simp only[NS,e]at E;revert E
  simp only[Fu,OQ,ξ,Gq,Ri,Xg,QO,Ii,Nh,È,CR,Ak,A7,Gc,Ş,Rl,Re,Bx,By,é];intro E
  iterate 3 refine Ag.k ?_
  try walk_nrm
  refine Ag.v (.q b) ?_;try walk_nrm;refine Ag.v (.q z.n) ?_;try walk_nrm;refine Ag.v (.bool sy) ?_;try walk_nrm;refine Ag.k ?_
  refine Ag.c J (λ_=>vm (t:=sy) J) ?_
  simp only[ô]
  iterate 5 refine Ag.k ?_
  try walk_nrm
  refine Ag.v (.q z.n) ?_;try walk_nrm;refine Ag.v (.q z.n) ?_;try walk_nrm;refine Ag.v (.bool sy) ?_;try walk_nrm;refine Ag.k ?_
  apply Ag.c J (λ_=>vm (t:=sy) J)
  simp only[ô];refine Ag.k ?_
  try walk_nrm
  apply Ag.v (.chan none);try walk_nrm;refine Ag.k ?_
  iterate 3 (refine Ag.k ?_)
  refine Ag.k ?_
  try walk_nrm
  apply Ag.v (.chan none);try walk_nrm
  iterate 2 refine Ag.k ?_
  try walk_nrm
  apply Ag.v (.q z.n);try walk_nrm;exact oU
def yB (O:a<z.n)(V:z.n<=100000)(h:∀x',Ag sr Fx Sh Stop m K (Fu sr q z ob (KL z a) (a+1) b x' cs) w):Ag sr Fx Sh Stop (m+60) K (MJ sr q z ob a b {x with m:=.t #[.q 0,.bool ss,(kq q)]} cs) w:=by
 obtain⟨G,I⟩:∃G,G=kq q:=⟨_,J⟩
 rw[<-I];clear I;cases q
 all_goals
  have U:IntKind.i64.wrap ((a:Int)+1)=((a+1:Nat):Int):=by rw[Ĵ]<;>omega
  have e:KL z a=.chan (A z.v.b):=by simp[KL,O]
  have E:=h {x with m:=.t #[.q 0,.bool ss,G],p:=.q 0,q:=.bool sy,r:=.bool ss,s:=.q a,t:=.q ((a+1:Nat):Int)};rw[e]at E;revert E
  simp only[MJ,e,Fu,OQ,ξ,Gq,Ri,Xg,QO,Ii,Nh,È,CR,Ak,A7,Gc,Ş,Rl,Re,Bx,By,é];intro E;refine Ag.v (.q 0) ?_;try walk_nrm;refine Ag.v (.bool sy) ?_;try walk_nrm;refine Ag.v (.bool ss) ?_;try walk_nrm
  iterate 2 refine Ag.k ?_
  refine Ag.c J (λ_=>vm (t:=sy) J) ?_
  simp only[ô];refine Ag.k ?_
  try walk_nrm
  refine Ag.v (.q a) ?_;try walk_nrm;refine Ag.v (.q ((a+1:Nat):Int)) ?_;try walk_nrm;refine Ag.v (.q ((a+1:Nat):Int)) ?_;try walk_nrm
  iterate 4 refine Ag.k ?_
  exact Ag.l (n:=m) N E
end
variable {i n:Nat}{U Sh K:Nat ->Prop}{b:vh}{a:Act}{cs:lF}{ops:aO}{rest:lN}{op:Oper}
section
variable {P:Program}{w:tz}{T t:TypeId}{g o:Nat}{cur:Array xn}{x y z:xn}
def Ig (cur:Array Vl)(o:Nat)(x y z:Vl):=((cur.setIfInBounds o x).setIfInBounds (o+1) y).setIfInBounds (o+2) z
def lG:(Ig cur o x y z).size=cur.size:=by simp[Ig]
def Qg{j}(h:j<o\/o+3<=j):(Ig cur o x y z)[j]? = cur[j]?:=by
 unfold Ig;rw[û N,û N,û N]
def ZH (h:o+3<=cur.size):(Ig cur o x y z)[o]? = A x/\(Ig cur o x y z)[o+1]? = A y/\(Ig cur o x y z)[o+2]? = A z:=by
 unfold Ig;refine⟨?_,?_,?_⟩
 . rw[û N,û N,ş N]
 . rw[û N,ş so]
 rw[ş so]
def Yr g o i:((C g o):Addr).add i=(C g (o+i)):=by unfold Addr.add;split<;>simp_all
def R3 (E:w.heap[g]? = A (.c cur t (0,0)))(U:i<cur.size)(O:x.oneCell'=sy) es:(store (C g i) x).run P w=.ok () (w.setRow g (cur.setIfInBounds i x))/\(store (C g i) x).events P w es=es.push ⟨.cell (C g i),sy,ss⟩:=by
 have I:w.cell? (C g i)=A cur[i]:=by simp[sY,E]
 have G:w.frozen? (C g i)=false:=by simp[World.frozen?,E]
 constructor
 . rw[run_store P w _ x _ O,I];simp[G,setCell_eq_setRow w g i _ t _ x E]
 rw[events_store P w es _ x _ O,I];simp only[G];rfl
def F3 (G:w.heap[g]? = A (.c cur t (0,0)))(c E:Array Vl):(w.setRow g c).setRow g E=w.setRow g E:=by
 simp only[z5]
 congr 1
 apply Array.ext_getElem?;intro j;simp[π]
 by_cases e:g=j
 . subst e;simp[G]
 simp[e]
def mM (E:(Gx T).run P w=.ok 3 w) es:(Gx T).events P w es=es:=sL
def Ũ (ab:∀w,(Gx T).run P w=.ok 3 w)(aj:x.oneCell'=sy)(ai:y.oneCell'=sy)(ak:z.oneCell'=sy)(E:w.heap[g]? = A (.c cur t (0,0)))(am:o+3<=cur.size):(zd T (.pp g o) (.agg #[x,y,z])).run P w=.ok () (w.setRow g (Ig cur o x y z))/\∀es,(zd T (.pp g o) (.agg #[x,y,z])).events P w es=((es.push ⟨.cell (C g o),sy,ss⟩).push ⟨.cell (C g (o+1)),sy,ss⟩).push ⟨.cell (C g (o+2)),sy,ss⟩:=by
 have X:=λes=>R3 (P:=P) E (i:=o) N aj es
 have U:=FG w g cur (cur.setIfInBounds o x) t _ E;have V:=λes=>R3 (P:=P) U (i:=o+1) so ai es
 have G:=FG _ g _ ((cur.setIfInBounds o x).setIfInBounds (o+1) y) t _ U;have O:=λes=>R3 (P:=P) G (i:=o+2) so ak es
 have Z:=(X #[]).1;have G:=(V #[]).1;have I:=(O #[]).1;rw[F3 E]at G;rw[F3 E,F3 E]at I;constructor
 . simp[zd,wj,storeVar,ab,Value.cells,Gy,Yr,Z,G,I,Ig,F3 E]
 intro es;have i:=λes=>(V es).2
 have Y:=λes=>(O es).2
 rw[F3 E]at Y;simp[zd,wj,storeVar,ab,mM _,Value.cells,Gy,Yr,Z,G,(X _).2,i,Y]
def Vi (G:w.heap[g]? = A (.c cur t (0,0)))(I:cur[i]? = A x) es:(load (C g i)).run P w=.ok x w/\(load (C g i)).events P w es=es.push ⟨.cell (C g i),ss,ss⟩:=by
 have E:w.cell? (C g i)=A x:=by simp[sY,G,I]
 constructor
 . simp[E]
 rw[events_load,E];rfl
def xB{v}(E:(isAgg T).run P w=.ok v w) es:(isAgg T).events P w es=es:=sL
def Ψ (E:∀w,(isAgg T).run P w=.ok sy w)(V:∀w,(Gx T).run P w=.ok 3 w)(U:w.heap[g]? = A (.c cur t (0,0)))(Z:cur[o]? = A x)(Y:cur[o+1]? = A y)(aa:cur[o+2]? = A z):(xq T (.pp g o)).run P w=.ok (.agg #[x,y,z]) w/\∀es,(xq T (.pp g o)).events P w es=((es.push ⟨.cell (C g o),ss,ss⟩).push ⟨.cell (C g (o+1)),ss,ss⟩).push ⟨.cell (C g (o+2)),ss,ss⟩:=by
 have G:=λes=>Vi (P:=P) U Z es
 have I:=λes=>Vi (P:=P) U Y es
 have O:=λes=>Vi (P:=P) U aa es
 constructor
 . simp only[xq,wj,E0,loadCells,loadCellsFrom,E,V,Yr,ő,Ů,Λ,ô,kt,(G #[]).1,(I #[]).1,(O #[]).1,Ă,Nat.reduceAdd];rfl
 intro es;simp only[xq,wj,E0,loadCells,loadCellsFrom,E,V,xB (E _),mM _,Yr,ő,Ů,EP,EV,Λ,CH,ô,kt,(G #[]).1,(I #[]).1,(O #[]).1,(G _).2,(I _).2,(O _).2,Ă]
def Ag.e{ai:(Nat->Prop)->gR->M->Prop}{k:lM}{ab ac}(T:tI) g o(x y z:Vl)
  (av:ops[i]? = A op)(ao:tn op (wE ops a.tmps)=sy)(am:b.kind≠.early)(al:op.op=.store T ab ac)(ap:a.eval ab=.pp g o)(ax:a.eval ac=.agg #[x,y,z])
  (Y:∀w,(Gx T).run P w=.ok 3 w)(V:x.oneCell'=sy)(O:y.oneCell'=sy)(aa:z.oneCell'=sy)(aj:∀b,K b->b<w.heap.size)(an:K g)(aq:¬U g)(aw:¬Sh g)(ak:w.heap[g]? = A (.c cur t (0,0)))(Z:o+3<=cur.size)
  (h:Ag P U Sh ai n K (G (b.at (a.put op.dst uu) (.inRegion ops rest::k)) cs) (w.setRow g (Ig cur o x y z))):Ag P U Sh ai (n+1) K (G (b.at a (.inRegion ops (i::rest)::k)) cs) w:=by
 have e:vf a.eval op=(do zd T (.pp g o) (.agg #[x,y,z]);pure Next.skip):=by unfold vf;rw[al];simp only[ap,ax]
 refine Ag.store (bo:=g) (cur:=cur) (t:=t) av ao am aj an aq aw ak (λI E=>?_) (λI E I I=>?_) h
 . rw[e];simp[(Go.Proofs.YtaoikkhlnhfkfaaGreatDoor.Ũ Y V O aa E Z).1]
 rw[e]at I;simp only[EP,(Go.Proofs.YtaoikkhlnhfkfaaGreatDoor.Ũ Y V O aa E Z).1,(Go.Proofs.YtaoikkhlnhfkfaaGreatDoor.Ũ Y V O aa E Z).2,CH,EV]at I;simp only[Lk,Hk,false_or]at I;obtain(rfl|rfl)|rfl:=I<;>exact⟨_,J,J⟩
def Ag.j{aj:(Nat->Prop)->gR->M->Prop}{k:lM}{ai}(T:tI) g o(x y z:Vl)
  (ap:ops[i]? = A op)(an:tn op (wE ops a.tmps)=sy)(am:b.kind≠.early)(al:op.op=.load T ai)(ao:a.eval ai=.pp g o)
  (ac:∀w,(isAgg T).run P w=.ok sy w)(aa:∀w,(Gx T).run P w=.ok 3 w)(ak:∀b,K b->b<w.heap.size)(I:K g)(aq:¬Sh g)(Y:w.heap[g]? = A (.c cur t (0,0)))(Z:cur[o]? = A x)(V:cur[o+1]? = A y)(ab:cur[o+2]? = A z)
  (h:Ag P U Sh aj n K (G (b.at (a.put op.dst (.agg #[x,y,z])) (.inRegion ops rest::k)) cs) w):Ag P U Sh aj (n+1) K (G (b.at a (.inRegion ops (i::rest)::k)) cs) w:=by
 have e:vf a.eval op=(do pure (Next.value (<-xq T (.pp g o)))):=by unfold vf;rw[al];simp[ao]
 refine Ag.load (.agg _) ap an am ak (λO E=>?_) (λO E O O=>?_) h
 . rw[e];simp[(Go.Proofs.YtaoikkhlnhfkfaaGreatDoor.Ψ ac aa ((E.1 g I).trans Y) Z V ab).1]
 rw[e]at O;simp only[EP,(Go.Proofs.YtaoikkhlnhfkfaaGreatDoor.Ψ ac aa ((E.1 g I).trans Y) Z V ab).1,(Go.Proofs.YtaoikkhlnhfkfaaGreatDoor.Ψ ac aa ((E.1 g I).trans Y) Z V ab).2,CH,EV]at O;simp only[Lk,Hk,false_or]at O;obtain(rfl|rfl)|rfl:=O<;>exact⟨_,J,I,aq⟩
def Ag.d{V:(Nat->Prop)->gR->M->Prop}{k:lM}{I}(T:tI) g o(x:Vl)
  (ab:ops[i]? = A op)(Y:tn op (wE ops a.tmps)=sy)(Z:b.kind≠.early)(am:op.op=.load T I)(aa:a.eval I=.pp g o)
  (ac:∀w,(isAgg T).run P w=.ok ss w)(ak:∀b,K b->b<w.heap.size)(ai:K g)(ao:¬Sh g)(al:w.cell? (C g o)=A x)
  (h:Ag P U Sh V n K (G (b.at (a.put op.dst x) (.inRegion ops rest::k)) cs) w):Ag P U Sh V (n+1) K (G (b.at a (.inRegion ops (i::rest)::k)) cs) w:=by
 have e:vf a.eval op=(do pure (Next.value (<-xq T (.pp g o)))):=by unfold vf;rw[am];simp[aa]
 have W:∀X,Cz K w X->X.cell? ⟨g,o,_⟩=A x:=λX E=>(E.E (a:=⟨g,o,_⟩) ai).trans al
 refine Ag.load x ab Y Z ak (λX E=>?_) (λX E O O=>?_) h
 . rw[e];simp[xq,wj,E0,ac,W X E]
 rw[e]at O;simp[xq,wj,E0,xB _]at O
 simp_all
end
section
variable {q:Bool}{z:ā}{bo:Nat}{a b i m:Nat}{x:ι}{cs:List vh}{K Fx Sh:Nat->Prop}{Stop:(Nat->Prop)->th->tz->Prop}{w:tz}{cur:Array xn}{xv y:xn}
def Ą (w:M) b(cs:Array Vl):(w.setRow b cs).heap.size=w.heap.size:=by simp[z5]
def Kc (w:M){b c}(h:c≠b)(cs:Array Vl):(w.setRow b cs).heap[c]? = w.heap[c]?:=by simp[z5,π,ħ h]
def Cx (w:M) o:(w.alloc o).heap.size=w.heap.size+1:=by show(w.heap.push _).size=_;simp
def Ù (w:M) o:(w.alloc o).heap[w.heap.size]? = A o:=by show(w.heap.push _)[_]? = _;simp
def Ø (w:M) o{c}(h:c<w.heap.size):(w.alloc o).heap[c]? = w.heap[c]?:=by show(w.heap.push _)[_]? = _;simp[Β,kp h]
def wQ{p:Prop}(h:p:=by
  have hw:IntKind.i64.wrap ((b:Int)+1)=((b+1:Nat):Int):=by rw[Ĵ]<;>omega
  refine⟨m+60,?_⟩;simp only[MJ,Fu,OQ,ξ,Gq,Ri,Xg,QO,Ii,Nh,È,CR,Ak,A7,Gc,Ş,Rl,Re,Tryz.f55,Tryz.f39,é]at hk⊢;refine Ag.v (.q 1) ?_;try walk_nrm;refine Ag.v (.bool false) ?_;try walk_nrm;refine Ag.v (.bool true) ?_;try walk_nrm
  iterate 2 refine Ag.k ?_
  refine Ag.c rfl (λ_=>stepG_cond (t:=false) rfl) ?_
  simp only[Ĭ,ę];refine Ag.c rfl (λ_=>stepG_cond (t:=true) rfl) ?_
  simp only[ô]
  iterate 2 refine Ag.k ?_
  try walk_nrm
  refine Ag.v (.agg #[.q i,xv,y]) ?_;try walk_nrm;refine Ag.alloc (c:=#[.q 0,zA qq,.n]) (t:=(Č qq)) (λb=>.pp b 0) rfl rfl dc (λw1=>by go_simp<;>rfl) (λw1 e he=>by simp[go_sem]at he) λw1 hw1=>?_
  try walk_nrm
  have hlt:bo<w1.heap.size:=rZ (hkb _ hK) hw1.2;have hnx:w1.heap.size≠bo:=N;have hkb1:∀c,K c\/c=w1.heap.size->c<(w1.alloc (.c #[.q 0,zA qq,.n] (Č qq) (0,0))).heap.size:=λc hc=>by
   rw[Cx];obtain hc|hc:=hc
   . have:=hkb c hc;have:=hw1.2;omega
   omega
  have hgx:=Ù w1 (.c #[.q 0,zA qq,.n] (Č qq) (0,0));have hgo:(w1.alloc (.c #[.q 0,zA qq,.n] (Č qq) (0,0))).heap[bo]? = some (.c cur (Č qq) (0,0)):=by rw[Ø _ _ hlt,hw1.1 bo hK,hg]
  have hfx:¬Fx w1.heap.size:=λhc=>by have:=hkb _ (hfk _ hc);have:=hw1.2;omega
  have hsx:¬Sh w1.heap.size:=λhc=>by have:=hkb _ (hsk _ hc);have:=hw1.2;omega
  refine Ag.e (cur:=#[.q 0,zA qq,.n]) (t:=(Č qq)) (Č qq) w1.heap.size 0 (.q i) xv y rfl rfl dc rfl rfl rfl (Xt qq) rfl h1 h2 hkb1 (.inr rfl) hfx hsx hgx dc ?_
  try walk_nrm
  obtain⟨W,hW⟩:∃W,W=(w1.alloc (.c #[.q 0,zA qq,.n] (Č qq) (0,0))).setRow w1.heap.size (Ig #[.q 0,zA qq,.n] 0 (.q i) xv y):=⟨_,rfl⟩
  rw[<-hW];have gx:W.heap[w1.heap.size]? = some (.c (Ig #[.q 0,zA qq,.n] 0 (.q i) xv y) (Č qq) (0,0)):=by rw[hW];exact setRow_heap _ _ _ _ _ _ hgx
  have go:W.heap[bo]? = some (.c cur (Č qq) (0,0)):=by rw[hW,Kc _ (ħ hnx)];exact hgo
  have gz:W.heap.size=w1.heap.size+1:=by rw[hW,Ą,Cx]
  have go2:W.os=w.os/\W.output=w.output:=by rw[hW];exact hw1.p
  have gk:∀c,K c\/c=w1.heap.size->c<W.heap.size:=λc hc=>by rw[gz,<-Cx w1 (.c #[.q 0,zA qq,.n] (Č qq) (0,0))];exact hkb1 c hc
  have gs:∀c,K c->W.heap[c]? = w.heap[c]?:=λc hc=>by
   have:=hkb c hc;have:=hw1.2;rw[hW,Kc _ N,Ø _ _ N];exact hw1.1 c hc
  clear hW hgx hgo hkb1;have p3:=ZH (cur:=#[.q 0,zA qq,.n]) (o:=0) (x:=.q i) (y:=xv) (z:=y) dc
  iterate 3 refine Ag.k ?_
  try walk_nrm
  refine Ag.v (.sl bo 0 z.n z.n) ?_;try walk_nrm;refine Ag.v (.pp w1.heap.size 0) ?_;try walk_nrm;refine Ag.d 3 w1.heap.size 0 (.q i) rfl rfl dc rfl rfl Tryz.isAgg3 gk (.inr rfl) hsx (by simp[World.cell?,gx,p3.1]) ?_;try walk_nrm;refine Ag.j (Č qq) w1.heap.size 0 (.q i) xv y rfl rfl dc rfl rfl (zT qq) (Xt qq) gk (.inr rfl) hsx gx p3.1 p3.2.1 p3.2.2 ?_;try walk_nrm;have d0:decide ((i:Int)<0)=false:=ĕ N;have d1:decide ((i:Int)<(z.n:Int))=true:=ď N;refine Ag.v (.pp bo (i*3)) ?_;try walk_nrm;refine Ag.e (cur:=cur) (t:=(Č qq)) (Č qq) bo (i*3) (.q i) xv y rfl rfl dc rfl rfl rfl (Xt qq) rfl h1 h2 gk (.inl hK) hf hs go N ?_
  try walk_nrm
  iterate 2 refine Ag.k ?_
  try walk_nrm
  refine Ag.v (.q b) ?_;try walk_nrm;refine Ag.v (.q ((b+1:Nat):Int)) ?_;try walk_nrm;refine Ag.v (.q ((b+1:Nat):Int)) ?_;try walk_nrm
  iterate 4 refine Ag.k ?_
  refine Ag.l (n:=m) N ?_
  refine hk {x with j:=.pp w1.heap.size 0,m:=.t #[.q 1,.bool true,.agg #[.q i,xv,y]],p:=.q 1,q:=.bool false,r:=.bool true,u:=.agg #[.q i,xv,y],v:=.sl bo 0 z.n z.n,w:=.pp w1.heap.size 0,x:=.q i,y:=.agg #[.q i,xv,y],z:=.pp bo (i*3),n:=.q b,f:=.q ((b+1:Nat):Int)} _ _ (λc hc=>.inl hc) (λc hc=>?_) (λc hc=>?_) ⟨λc hc=>?_,?_,?_⟩ ?_
  .
   obtain hc|hc:=hc
   . exact .inl hc
   have:=hw1.2;exact .inr N
  . rw[Ą];exact gk c hc
  . rw[Kc _ hc.2];exact gs c hc.1
  . rw[Ą,gz];have:=hw1.2;omega
  . exact go2
  exact setRow_heap _ _ _ _ _ _ go):p:=h
def yF (O:z.n<=100000)(G:b<z.n)(I:i<z.n)(h1:xv.oneCell'=sy)(h2:y.oneCell'=sy)
  (hkb:∀c,K c->c<w.heap.size)(hK:K bo)(hf:¬Fx bo)(hs:¬Sh bo)(hfk:∀c,Fx c->K c)(hsk:∀c,Sh c->K c)(hg:w.heap[bo]? = A (.c cur (Č q) (0,0)))(U:cur.size=z.n*3)
  (hk:∀x' E w',(∀c,K c->E c)->(∀c,E c->K c\/w.heap.size<=c)->(∀c,E c->c<w'.heap.size)->Cz (λc=>K c/\c≠bo) w w'->w'.heap[bo]? = A (.c (Ig cur (i*3) (.q i) xv y) (Č q) (0,0))->Ag sr Fx Sh Stop m E (Fu sr q z (sa bo 0) (KL z a) a (b+1) x' cs) w'):
  ∃se,Ag sr Fx Sh Stop se K (MJ sr q z (sa bo 0) a b {x with m:=.t #[.q 1,.bool sy,.agg #[.q i,xv,y]]} cs) w:=by
 cases q
 .
  let qq:=ss
  exact wQ
 let qq:=sy
 exact wQ
end
end Go.Proofs.YtaoikkhlnhfkfaaGreatDoor
