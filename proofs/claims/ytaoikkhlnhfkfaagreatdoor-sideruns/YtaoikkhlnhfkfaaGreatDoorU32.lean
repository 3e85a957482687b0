import Derived.Test.YtaoikkhlnhfkfaaGreatDoorU00
import Derived.Test.YtaoikkhlnhfkfaaGreatDoorU31
set_option maxRecDepth 100000
set_option linter.defProp false
set_option linter.unusedSimpArgs false
set_option linter.unusedVariables false
namespace Go.Proofs.YtaoikkhlnhfkfaaGreatDoor
open Go renaming Frame->vh,World->tz,Value->xn,stepG->tt,yielded->wE,execOp->vf,results->uK,Sem->xZ,Addr->xr,loadVar->E0
open Option renaming some->A,none->sA
open Proofs.Tryz renaming prog->sr,link->tG
open Bool renaming true->sy,false->ss
open World renaming cell?->sY
open Region renaming wanted->tn
open Extern.ReflectliteType renaming toType->tx,ofRtype->xV,method->tc,relation->tf,abiMethod->uW
open Extern.ReflectliteValue renaming unpack->wa,method->sR,valueError->te,elem->tB
open Go.Conc Go.RowKit Go.Conc.Lib Go.ConcR.Gen
open Go.ConcN (WgLive upd upd_same upd_ne Has)
open Go.ConcR (KK WgAt stA smA rd wr mk Payload)
section
variable {q:Bool}{H:Nat->Prop}{z:ā}{k:OO}{cs:List vh}{w:tz}{Post:xn->tz->Prop}
structure rr (q:Bool)(z:ā)(k:OO)(w:M)(bo:Nat)(cur:Array Vl)(w':M):Prop where
 r:w.heap.size<bo
 row:w'.heap[bo]? = A (.c cur (Č q) (0,0))
 h:cur.size=z.n*3
 e:∀i,i<z.n->∃u y,cur[i*3]? = A (.q i)/\cur[i*3+1]? = A u/\cur[i*3+2]? = A y/\k.B i (.t #[u,y]) w'
 g:∀b,b<w.heap.size->b≠z.v.b->b≠z.v.cr->w'.heap[b]? = w.heap[b]?
 I:w.heap.size<w'.heap.size
 a:WgAt 98 z.v.a w' 0 0
 p:w'.os=w.os/\w'.output=w.output
def jC{ob:oA}{x}:G ((base (Ň q)).at ((TM z ob x).put (((RZ (đ sr q))[0]?).bind (·.dst)) (.t #[])) [.inRegion (RZ (đ sr q)) [],.code (Q7 (đ sr q))]) cs=P9 sr q z ob x cs:=by cases q<;>rfl
def pg (h:oD H q z k w)(cc:(if (z.n:Int)<z.a then(z.n:Int)else z.a)=(z.m:Int))
  (cf:∀x bo cur w',rr q z k w bo cur w'->Nn sr Post (λb=>H b\/b=z.v.a) (P9 sr q z (sa bo 0) x cs) w'):Nn sr Post H (Ov sr q z cs) w:=by
 intro gs sl t aL B O aC ao a5;refine GZ (P:=sr) (Shun:=KM H) (a:=Ov sr q z cs) J (λa' w' a9=>a'=Mx sr q z cs/\a9=B/\∃d,w'=(w.at d).alloc Td) ?_ _ gs w sl t aL B J O aC ao λd=>⟨_,_,#[],B,uS h.a,sm,lr,J,J,d,J⟩
 clear O aC ao gs sl t aL;rintro gs a' w0 sl t aL a9⟨rfl,f,d,aG⟩O aC ao;rw[f]at ao;clear f a9;have e:w0.heap.size=w.heap.size+1:=aG▸Cx _ _
 have aB:∀b,b<w.heap.size->w0.heap[b]? = w.heap[b]?:=λb I=>aG▸Ø (w.at d) Td I
 have a0:WgAt 98 z.v.a w0 0 0:=by
  rw[h.a,aG];exact Ù (w.at d) Td
 have a2:w0.os=w.os/\w0.output=w.output:=aG▸⟨J,J⟩
 have d:nh z.v w w0:=⟨e,aB,a0,a2⟩
 clear aG;have b':=AZ O;have c:=h.l;have b7:=h.r;have c:=h.a;let⟨cm,co,be⟩:=h.i;let⟨cG,cC,bs⟩:=h.j;have b6:=AZ be;have cp:=AZ bs;have bv:∀b,H b->b<w.heap.size:=λb I=>by
  let⟨c,e,G⟩:=h.d b I;exact AZ G
 obtain⟨p,E⟩:∃p,p=RX sr q H z k cs w w0 gs.size (gs.size+z.m):=⟨_,J⟩
 have ak:p.r:=E▸rK h d b' (Nat.le_add_right _ _)
 have Z:∀w1,p.k w1->Cz (ň H z.v w) w w1:=λw1 G=>by
  subst E;exact⟨λb I=>(G.1 b I).trans (aB b I.1),by have:w0.heap.size<=w1.heap.size:=G.2;omega,G.out.1.trans a2.1,G.out.2.trans a2.2⟩
 have ax:∀w1,p.k w1->Φ q z.v w1:=λw1 G=>
  ⟨((Z w1 G).E (a:=(C z.v.d 0)) h.m).trans h.f.d,((Z w1 G).E (a:=(C z.v.h 0)) h.u).trans h.f.h,((Z w1 G).E (a:=(C z.v.e 0)) h.p).trans h.f.e⟩
 have bl:∀e,Γ z.v e->p.H e:=by
  rintro e⟨b,I,rfl⟩;subst E;refine⟨(C b 0),J,?_⟩;obtain rfl|rfl|rfl:=I
  exact h.m
  exact h.u
  exact h.p
 have cE:¬(p.S p.b\/p.p p.b)/\¬(p.S p.cr\/p.p p.cr):=by
  subst E;refine⟨?_,?_⟩
  .
   rintro(⟨-,-,G,-⟩|G|G)
   exact G J
   exact h.v.1 G
   have G:z.v.b=z.v.a:=G;omega
  rintro(⟨-,-,-,G⟩|G|G)
  exact G J
  exact h.v.2 G
  have G:z.v.cr=z.v.a:=G;omega
 have bg:p.top-p.d=z.m:=by
  subst E;show gs.size+z.m-gs.size=z.m
  omega
 have a:=h.e
 -- where numbers are handed out,until the close
 have ch:∀gs w1 t sl am av K D g,p.l gs w1 t p.n p.n am av K D->gs[0]? = A g->p.O am av K g w1->∃a w' ops,runT sr (crowd gs w1 sl) 0=(.next (crowd a w' sl),ops)/\Cc sr Post (crowd a w' sl) (t++ops):=by
  intro gs w1 t sl am av K D g U O i;have u:=U.empty;have aI:=U.still;have bx:=U.cover;have X:=U.res;have se:=U.keeps;let⟨s,tm,ai⟩:=U.chn
  letI:Payload:=⟨0⟩
  obtain⟨bo,a,op8,x,y,cur,rfl,al⟩:ny sr q H z cs w0 am av K g w1:=by
   subst E;exact i
  obtain⟨es,G,r8⟩:=vK (z:=z) (a:=a) (b:=z.n) (cs:=Fs sr q z x::cs) (ob:=A (C bo 0)) (op8:=op8) (y:=y) (s:=s) (tm:=tm) (w:=w1) (by subst E;exact ai);obtain⟨n,j,v,D⟩:=pK (z:=z) (a:=a) (b:=z.n) (x:=x) (cs:=cs) (ob:=A (C bo 0)) (op8:=op8) (y:=y);refine Ã.W (ty:=tG.tWg) (sd:=z.v.d) (val:=.chan (A z.v.b)) (An:=ŗ tG z.v.a (Y3 sr q z (sa bo 0) x) cs) (Nx:=λg=>g=P9 sr q z (sa bo 0) x cs) (n:=n) (s:=s) (tm:=tm) (es:=es) (g':=Oc sr q z (sa bo 0) op8 a z.n y (Fs sr q z x::cs)) ak ?_ ?_ U O ai ?_ ?_ uP J ?_ ?_ ?_ ?_ ?_
  .
   subst E;have:=h.m.1;show z.v.d≠z.v.a
   omega
  omega
  subst E;exact G
  subst E;exact r8
  subst E;exact⟨j,v,D⟩
  rw[bg];subst E;exact al.a
  intro g O;subst E;let⟨n,g',G,V⟩:=kR (P:=sr) (L:=tG) (Wg:=z.v.a) (b₀:=base (Ň q)) (a₀:=TM z (sa bo 0) x) (ops₀:=RZ (đ sr q)) (i₀:=0) (rest₀:=[]) (k₀:=[.code (Q7 (đ sr q))]) (cs:=cs) Tryz.wgLib g O;rw[jC]at V;exact⟨n,g',G,V⟩
  .
   rintro g w' rfl G V ac a8;have cy:w0.heap.size<=w1.heap.size:=by
    subst E;exact aI.2
   have ap:∀b,b≠z.v.a->b≠z.v.b->w'.heap[b]? = w1.heap[b]?:=λb I aj=>by
    subst E;rw[G b I];exact ã aj _ _ _ _ _ _
   have f:∀b,b<w.heap.size->b≠z.v.b->b≠z.v.cr->w'.heap[b]? = w.heap[b]?:=λb I ab Y=>by
    rw[ap b N ab];by_cases bm:H b
    rw[al.d b bm];exact aB b I
    exact(Z w1 aI).1 b ⟨I,bm,ab,Y⟩
   have a:=al.r;have a7:=cf x bo cur w' ⟨N,by rw[ap bo N N];exact al.row,al.h,λi aN=>?_,f,oe V,by subst E;exact ac,(Z w' a8).p⟩
   subst E;exact a7
   have f:∃v,am i=A v:=by
    obtain a6|⟨j,-,n,s,-⟩:=bx i (by subst E;exact aN)
    .
     cases ct:am i with
     |none=>exact absurd ct a6
     |some v=>exact⟨v,J⟩
    have:=u j n;omega
   let⟨v,aW⟩:=f;obtain⟨u,y,rfl,a,ab,Y⟩:=al.e i v aW aN;obtain⟨-,n⟩:=X i _ aW;refine⟨u,y,a,ab,Y,?_⟩;have i:∀c,c=z.v.a->p.p c:=λc a=>by
    subst E;exact .inr a
   have a:¬K z.v.b:=by
    have:=se.kc.1;subst E;exact this
   have s:Cz (λc=>av c/\¬p.p c) w1 w':=⟨λc ai=>ap c (λe=>ai.2 (i c e)) (λe=>a (e▸se.fk c ai.1)),js V.symm,((Z w' a8).p.1).trans ((Z w1 aI).p.1).symm,((Z w' a8).p.2).trans ((Z w1 aI).p.2).symm⟩
   subst E;exact (by
     let⟨x,r,L,c,d,t,aq,a,G,V,ac,a6⟩:=n.stay (λ_ ai=>ai) s;exact⟨x,r,L,c,d,t,aq,G,V,ac,a6⟩)
  intro g e;have a3:∀w1,p.j tG.tWg w1->WgLive tG.tWg z.v.a w1:=λw1 aE=>by
   subst E;exact aE.2
  have f:∀w1,p.j tG.tWg w1->Has z.v.d 0 (.chan (A z.v.b)) w1:=λw1 aE=>(ax w1 aE.1).d
  have a:∃t,g=JG q sr z.v t:=by
   subst E;exact e
  obtain⟨t,rfl⟩:=a;obtain⟨aq,aw⟩:=sG (v:=z.v) (t:=t);have aw:=aw.l (λw1 (aE:p.j tG.tWg w1)=>ax w1 aE.1) bl;obtain⟨n,g',G,V⟩:=yu (v:=z.v) (t:=aq) (Ev:=p.H) a3 f;refine⟨6+n,g',?_,?_⟩
  have e:(JG q sr z.v t).finishComm sr #[rcase z.v.b (.q 0)] (.recv sy) 0 (.q 0) ss=gU q sr z.v t (.q 0) false:=bB _ J;have a:=aw.h G;rw[<-e]at a;subst E;exact a
  subst E;exact V
 -- all are started
 have a7:∀gs w1 t sl f g,gs[0]? = A g->dA sr q z cs z.m g->p.q tG.tWg gs w1 t f 0->gs.size=p.top->WgAt tG.tWg p.a w1 ((p.top-p.d:Nat)*KK) 0->Cc sr Post (crowd gs w1 sl) t:=by
  intro gs w1 t sl f g O a3 a5 a bp;have e:∃s tm,p.K.heap[p.cr]? = A (.chan 0 #[] ss s s tm):=by
   subst E;exact⟨cG,cC,(aB _ cp).trans bs⟩
  let U:=a5.hand ak cE e a;let a:=Z w1 U.still;let cy:w0.heap.size<=w1.heap.size:=by
   have:=U.still.2;subst E;exact this
  let bc:∃se,Ag sr (λb=>p.S b\/p.p b) p.p (p.I 0 0 (λ_=>sA) (λb=>p.S b\/p.p b)) se (λb=>p.S b\/p.p b) g w1:=by
   apply Ag.p a3 (λ_ _ _ _=>sk) (λ_ a=>a.elim) trivial U.keeps.kl (m:=0+60+60)
   rintro g'⟨x,rfl⟩;let bd:∀b,ň H z.v w b->(p.S b\/p.p b)/\¬p.p b:=λb I=>by
    have:p.S b:=by
     subst E;exact I
    exact⟨.inl this,ak.parted b this⟩
   refine uH N U.keeps.kl (bd _ h.m) (bd _ h.p) (ax w1 U.still).d (ax w1 U.still).e λx' m w2 V=>?_
   let bh:Qa q H z w0 (λ_=>sA) (λb=>p.S b\/p.p b) (λb=>(p.S b\/p.p b)\/b=w2.heap.size) w2.heap.size (IM q z.n) (w2.alloc (.c (IM q z.n) (Č q) (0,0))):=by
    let a:=V.2;let bb:=U.keeps.kl;refine⟨.inr J,λaa=>?_,N,Ù ..,by simp[IM,lv],(nofun),λb I=>.inl (.inr ?_),λb I=>?_,?_⟩
    have:=bb _ aa;omega
    subst E;exact I
    .
     let aj:p.p b:=by
      subst E;exact .inl I
     have:=bb b (.inr aj);let ap:b≠p.a:=by
      have:=bv b I;subst E;show b≠z.v.a
      omega
     rw[Ø _ _ N,V.1 b (.inr aj),a5.world b ap];subst E;rfl
    let aj:=ak.shwg;have:=bb _ (.inr aj);rw[bg]at bp;let ab:(w2.alloc (.c (IM q z.n) (Č q) (0,0))).heap[p.a]? = w1.heap[p.a]?:=by rw[Ø _ _ N,V.1 _ (.inr aj)]
    let aa:=ab.trans bp;subst E;exact aa
   by_cases an:0<z.n
   .
    refine Uz an N (λ_=>J) λa1=>?_
    refine Ag.q λi ac=>?_
    let aa:=bh.u ac;subst E;exact Or.inl ⟨an,by show 0<=z.n;omega,w2.heap.size,x',a1,_,J,aa⟩
   let an:z.n=0:=N
   let key:Ag sr (λb=>p.S b\/p.p b) p.p (p.I 0 0 (λ_=>sA) (λb=>p.S b\/p.p b)) (0+60) (λb=>(p.S b\/p.p b)\/b=w2.heap.size) (Fu sr q z (sa w2.heap.size 0) (.chan (A z.v.b)) 0 z.n m (Fs sr q z x'::cs)) (w2.alloc (.c (IM q z.n) (Č q) (0,0))):=by
    refine mD λa1=>?_
    refine Ag.q λi ac=>?_
    let aa:=bh.u ac;subst E;exact Or.inr ⟨an.symm,w2.heap.size,0,_,x',a1,_,J,aa⟩
   rw[an]at key;rw[an];exact key
  let⟨se,bc⟩:=bc;refine Ã.V ak (λa=>?_) ch U ⟨g,O,.inl ⟨se,J,bc⟩⟩;have:=h.t (by subst E;exact a);have:=ak.top;omega
 let e:Cu (p.h gs.size (ń sr)) w0.heap.size 0 t:=by
  refine qC (B:=B) (Cu.f ao (λd a4=>?_) (λ_ _ aa=>aa) (λg O=>?_) λd a4=>?_) N
  let⟨a,ab,Y⟩:=a4;subst E;exact⟨a,ab,.inl Y⟩
  subst E;let G:gs.size<=g/\g<gs.size:=O;omega
  obtain⟨a,rfl,Y⟩:=a4;subst E;let Y:a.block=z.v.a:=Y;show ¬a.block<B
  omega
 let a:p.q tG.tWg gs w0 t aL 0:=by
  refine⟨?_,⟨⟨λ_ _=>?_,?_,?_⟩,0,0,?_⟩,λ_ _=>?_,?_,?_,λi g aN O=>.inl ⟨?_,aC.old i g aN O⟩,e,Ω ao.seen ?_,aC.above⟩
  subst E;exact lr
  subst E;rfl
  subst E;exact lr
  subst E;exact⟨J,J⟩
  subst E;exact a0
  subst E;rfl
  subst E;rfl
  subst E;exact⟨cm,co,(aB _ b6).trans be⟩
  have:=AZ O;subst E;exact this
  subst E;show B<=z.v.a
  omega
 refine Ã.M' (ty:=tG.tWg) (child:=born sr (LD q z.v.a z.v.d z.v.h z.v.e)) (Fin:=dA sr q z cs z.m) (r:=z.m) (g:=Mx sr q z cs) ak N ?_ a7 O ?_ a ?_ ?_
 let⟨aq,aw⟩:=yQ (q:=q) (v:=z.v);refine⟨13,_,aw.l ax bl,?_⟩;subst E;exact⟨aq,J⟩
 have:=XP (q:=q) (z:=z) (cs:=cs) b7 (r:=z.m) (j:=0) N (pX cc λx'=>Á.q ⟨x',J⟩);subst E;exact this
 subst E;rfl
 let e:(gs.size-p.d:Nat)=0:=by
  subst E;show gs.size-gs.size=0
  omega
 let Y:(((0:Nat):Int)*KK)=0:=sm
 rw[e,Y];subst E;exact a0
end
section
variable {P:Program}{Post:xn->tz->Prop}{H:Nat->Prop}{p:Gg}
def AO (P:pG)(Post:Vl->M->Prop)(H:Nat->Prop)(g:gR)(w:M):=∀d,Nn P Post H g (w.at d)
def AO.d{g w}(h:AO P Post H g w):Nn P Post H g w:=h _
def Bp.B{v w:M}(h:Bp H v w) d:Bp H v (w.at d):=by
 let⟨t,G,E⟩:=h;refine⟨t,λj q=>t (j-d+v.drawn) q,E.h,E.m,E.d,λj q=>?_,E.x,E.i⟩;show t (d+j-d+v.drawn) q=t (v.drawn+j) q
 rw[jA,ks]
def Bp.h{v w:M}(h:Bp H v w):w.heap.size=v.heap.size:=let⟨t,G,E⟩:=h;E.h
def Bp.row{v w:M}(h:Bp H v w){b}(Y:¬H b){o}(G:w.heap[b]? = A o)(O:∃c t I,o=.c c t I):v.heap[b]? = A o:=by
 let⟨t,Z,U⟩:=h;obtain⟨c,E,I,rfl⟩:=O;obtain⟨E,-⟩|⟨o,o',E,-,V⟩:=U.m b Y
 exact(E.symm).trans G
 let E:w.heap[b]? = A o:=E;rw[E]at G;obtain⟨_,_,rfl,-⟩|⟨_,_,rfl,-⟩:=V<;>cases G
def Bp.e{v w:M}(h:Bp H v w){b}{c:Array Vl}{t:tI}{I}(G:v.heap[b]? = A (.c c t I))(V:¬H b):w.heap[b]? = A (.c c t I):=by
 let⟨Y,Z,O⟩:=h;obtain⟨E,-⟩|⟨o,o',-,E,U⟩:=O.m b V
 exact(E).trans G
 let E:v.heap[b]? = A o':=E;rw[E]at G;obtain⟨_,_,-,rfl⟩|⟨_,_,-,rfl⟩:=U<;>cases G
def Bp.g{v w:M}(h:Bp H v w){a}{x:Vl}(I:¬H a.block)(E:w.cell? a=A x):v.cell? a=A x:=by
 unfold sY at E⊢;cases G:w.heap[a.block]? with
 |none=>rw[G]at E;cases E
 |some o=>
  rw[h.row I G (by rw[G]at E;cases o<;>first|exact⟨_,_,_,J⟩|cases E)];simp_all
def Bp.d{v v' w w':M}(h:Bp H v w)(V:Bp H v' w')(U:Q9 H w w')(ab:∀b,b<v.heap.size->v'.heap[b]? = v.heap[b]?){b}(Z:b<w.heap.size)(I:¬H b):w'.heap[b]? = w.heap[b]?:=by
 let Y:b<v.heap.size:=h.h▸Z
 cases G:w.heap[b]? with
 |none=>exact absurd G sL
 |some o=>
  by_cases O:∃c t E,o=.c c t E
  obtain⟨c,t,E,rfl⟩:=O;exact V.e ((ab b Y).trans (h.row I G ⟨_,_,_,J⟩)) I
  exact U.1 b o G λc t E Y=>O ⟨c,t,E,Y⟩
/-! ### the rules -/
def AO.m{g g':gR}{w}(hrun:g.status=.running)(h:∀d,tt P sy g (w.at d)=.go g' (w.at d))(E:AO P Post H g' w):AO P Post H g w:=λ_=>pf hrun (λd'=>h d') λd'=>E d'
def AO.c{g g':gR}{w}(hrun:g.status=.running)(h:∀w,tt P sy g w=.go g' w)(E:AO P Post H g' w):AO P Post H g w:=AO.m hrun (λ_=>h _) E
def AO.k{g g':gR}{w}(h:AO P Post H g' w)(E:g.status=.running:=by rfl)(hw:∀w,tt P sy g w=.go g' w:=by first|exact λ_=>stepG_seq|exact λ_=>stepG_region_end|exact λ_=>stepG_region|exact λ_=>stepG_skip|exact λ_=>stepG_ret'|exact λ_=>stepG_block|exact λ_=>stepG_inBlock|exact λ_=>stepG_inLoop):AO P Post H g w:=.c E hw h
section
variable {b:vh}{a:Act}{k:List Item}{cs:List vh}{ops:Array Oper}{i:Nat}{rest:List Nat}{o:Oper}{w:tz}
def AO.value (v:Vl)(O:ops[i]? = A o)(E:tn o (wE ops a.tmps)=sy)(I:b.kind≠.early)(V:∀w,(vf a.eval o).run P w=.ok (.value v) w)(U:∀w,(vf a.eval o).events P w #[]= #[])
  (h:AO P Post H (G (b.at (a.put o.dst v) (.inRegion ops rest::k)) cs) w):AO P Post H (G (b.at a (.inRegion ops (i::rest)::k)) cs) w:=
 c J (λZ=>by rw[stepG_value O E I (V Z)];unfold listed;rw[U Z,seen_none]) h
def AO.v (v:Vl)(h:AO P Post H (G (b.at (a.put o.dst v) (.inRegion ops rest::k)) cs) w)(E:ops[i]? = A o:=by rfl)(hw:tn o (wE ops a.tmps)=true:=by rfl)(hk:b.kind≠.early:=by decide)(hr:∀w,(vf a.eval o).run P w=.ok (.value v) w:=by (intro _;go_simp))(he:∀w,(vf a.eval o).events P w #[]= #[]:=by (intro _;simp[go_sem])):AO P Post H (G (b.at a (.inRegion ops (i::rest)::k)) cs) w:=.value v E hw hk hr he h
def AO.call{f:fI}{fn c args}{U:Array tI}(O:ops[i]? = A o)(E:tn o (wE ops a.tmps)=sy)(I:b.kind≠.early)(V:o.op=.call {callee:=.value (.func f),args,argTypes:=U})
  (hf:P.funcs[f]? = A fn)(hname:(fn.name== "runtime.NumGoroutine")=ss)(hb:fn.body=A c)
  (h:AO P Post H (G ((base f).at {tmps:=args.map a.eval++Array.replicate (fn.ntmps-(args.map a.eval).size) uu,defers:=[]} [.code c]) (b.at a (.inRegion ops (i::rest)::k)::cs)) w):AO P Post H (G (b.at a (.inRegion ops (i::rest)::k)) cs) w:=
 .c J (λZ=>SX O E I V hf hname hb Z) h
def AO.h (aw:∀H,Eb P p H){Q:Vl->M->Prop}(aE:ops[i]? = A o)(aB:tn o (wE ops a.tmps)=sy)(al:b.kind≠.early)(aj:lK P p o.op=sy)(aG:Sr H w)
  (aI:∀v,Bp H v w->∃x v',(vf a.eval o).run P v=.ok (.value x) v'/\Q x v')(aL:∀x v' w',Q x v'->Bp H v' w'->Q9 H w w'->AO P Post H (G (b.at (a.put o.dst x) (.inRegion ops rest::k)) cs) w'):AO P Post H (G (b.at a (.inRegion ops (i::rest)::k)) cs) w:=by
 intro X d S t q B T O j r9;refine GZ (P:=P) (Shun:=KM H) J (λa' w' U=>U<=w'.z/\∃x v',Q x v'/\Bp H v' w'/\Q9 H w w'/\a'=G (b.at (a.put o.dst x) (.inRegion ops rest::k)) cs) ?_ _ d (w.at X) S t q B J T O j λd=>?_
 rintro S a' w' R q q' U⟨Z,x,v',W,O,j,rfl⟩B t T;exact(aL x v' w' W O j).d S R q q' U B t T Z
 obtain⟨v,O,-,-⟩:=TU aG;let B:=O.some.x d;let⟨x,v',hrun,t⟩:=aI (À v λj q=>w.tape (j-v.drawn+d) q) (O.some.q _ w.tape);rcases(Xp (aw H) (e:=a.eval) (λ_=>J) aj).1 _ _ B with⟨a3,ao,I,-⟩|⟨n,ao,w',u,Y,I,aa,E,V,ap,-⟩
 rw[hrun]at I;cases I
 rw[hrun]at Y;cases Y
 refine⟨_,w',_,w'.z,stepG_value aE aB al I,λe Z=>?_,rX r9 E.h,lr,x,v',t,aa.some,⟨E.a,E.d,E.x,E.i⟩,J⟩;unfold listed at Z;let V:∀j,(vf _ o).events P ((w.at X).at d) j=j++u:=V;have:=mem_seen Z;rw[V _,kj]at this;exact Qr (ap e this)
def AO.g (al:∀H,Eb P p H){c}{Q:Exit->Act->M->Prop}(ab:zS P b a)(ai:Hl P p c=sy)(Y:Sr H w)
  (aa:∀v,Bp H v w->c.wp P Q a v)(U:∀e a w,Q e a w->e=.normal\/e=.ret)(ac:∀e a w t,Q e a w->Q e a (À w t))
  (ak:∀a' v' w',Q .normal a' v'->Bp H v' w'->Q9 H w w'->AO P Post H (G (b.at a' k) cs) w')(Z:∀a' todo v' w',Q .ret a' v'->Bp H v' w'->Q9 H w w'->AO P Post H (G {b.at a' todo with mode:=.returning} cs) w'):AO P Post H (G (b.at a (.code c::k)) cs) w:=λ_=>
 qF al ab ai (λx E=>Y x E) (λv V=>aa v (V.B _)) U ac (λa' v' w' I E O=>(ak a' v' w' I E O).d) λa' todo v' w' I E O=>(Z a' _ v' w' I E O).d
def AO.e{b₀:vh}{a₀}{todo:lM}{fn}{v:Vl}(V:b.kind=.normal)(E:a.defers=[])(I:P.funcs[b.fn]? = A fn)(U:∀w,(uK fn a.tmps).run P w=.ok v w)(O:∀w,(uK fn a.tmps).events P w #[]= #[])
  (h:AO P Post H (G (b₀.at (a₀.put ((ops[i]?).bind (·.dst)) v) (.inRegion ops rest::k)) cs) w):AO P Post H (G {b.at a todo with mode:=.returning} (b₀.at a₀ (.inRegion ops (i::rest)::k)::cs)) w:=
 c J (λZ=>by rw[stepG_leave V E I (U Z) (O Z),Frame.finish_at]) h
def AO.l{todo:lM}{fn}{v:Vl}(ai:b.kind=.normal)(E:a.defers=[])(I:P.funcs[b.fn]? = A fn)(Z:∀w,(uK fn a.tmps).run P w=.ok v w)(U:∀w,(uK fn a.tmps).events P w #[]= #[])
  (O:P.inits.idxOf? b.fn=sA)(h:∀d,Post v (w.at d)):AO P Post H (G {b.at a todo with mode:=.returning} []) w:=λd q q t q B t q V Y=>by
 apply beside_ends (P:=P) (Shun:=KM H) (B:=B) (D:=λ_ _ _=>False) (n:=0) (λ_ _ _ h=>h.elim) t q V
 rintro n⟨d',rfl⟩;refine⟨J,v,#[],?_,sm,h d'⟩;let n:=Z ((w.at d).at d');let Y:=U ((w.at d).at d');simp[G,tt,unwind,doReturn,Frame.at,ai,E,I,n,Y,O,seen,GStep.after]
end
end
open Extern.Rtype Extern.ReflectliteValue
section
variable {α β γ:Type}{P:Program}{H:Nat->Prop}
def au m:AB P H (cutType m):=CP (Mj m)
def SS (t:tI):AB P H (handle t):=BH (mz)
def Jb (x:Vl):AB P H (ofHandle x):=by
 apply BH;exact mz
def Oq (t:tI):AB P H (tx t):=Aa (au _) λ_=>Aa (SS _) λ_=>mz
def MF (x:Vl):AB P H (xV x):=by
 cases x<;>first|exact Af _|skip
 rename_i c
 let⟨l⟩:=c
 match l with
 |[]=>exact Af _
 |[h]=>exact Aa (Jb _) λ_=>Aa (CP (FI ..)) λ_=>mz
 |_::_::_=>exact Af _
def Oj{x:Array Vl->xZ Vl}(E:∀l,l.length≠1->AB P H (x ⟨l⟩))(h:∀u,AB P H (x #[u])):Ma P H x:=λa=>by
 let⟨l⟩:=a
 match l with
 |[]=>exact E _ sm
 |[u]=>exact h u
 |_::_::_=>exact E _ sm
def dL{x:Array Vl->xZ Vl}(E:∀l,l.length≠2->AB P H (x ⟨l⟩))(h:∀u v,AB P H (x #[u,v])):Ma P H x:=λa=>by
 let⟨l⟩:=a
 match l with
 |[]=>exact E _ sm
 |[_]=>exact E _ sm
 |[u,v]=>exact h u v
 |_::_::_::_=>exact E _ sm
def dx:Ma P H Extern.ReflectliteType.typeOf:=Oj (λl E=>by
  match l,E with
  |[],_=>exact Af _
  |[_],E=>cases E J
  |_::_::_,_=>exact Af _) λu=>by cases u<;>first|exact Af _|exact Ab _|exact Oq _
def SL{f:tI ->xZ Vl}(G:∀t,AB P H (f t)):Ma P H (tc f):=Oj (λl E=>by
  match l,E with
  |[],_=>exact Af _
  |[_],E=>cases E J
  |_::_::_,_=>exact Af _) λu=>Aa (MF _) G
def Pd m{f:tI ->tI ->xZ Bool}(G:∀t u,æ P (f t u)):Ma P H (tf m f):=dL (λl E=>by
  match l,E with
  |[],_=>exact Af _
  |[_],_=>exact Af _
  |[_,_],E=>cases E J
  |_::_::_::_,_=>exact Af _) λu v=>by
 cases v<;>first|exact Af _|exact CQ (Dl _)|exact Aa (MF _) λ_=>Aa (MF _) λ_=>Aa (CP (G ..)) λ_=>mz
def Yj:Ma P H (uW λt=>do pure (.int .u8 (<-kind t))):=Oj (λl E=>by
  match l,E with
  |[],_=>exact Af _
  |[_],E=>cases E J
  |_::_::_,_=>exact Af _) λu=>Aa (Jb _) λt=>Aa (CP (FI _ t)) λ_=>Aa (CP (I1 t)) λ_=>mz
def TH:Ma P H (tc λt=>do noPackHeld "Comparable" t;pure (.bool (<-typeInfo t).comparable)):=SL λt=>Aa (CP ((Bt Ey λ_=>Gs (IQ (AV sk)) (Cv _)))) λ_=>mz
def nS (t:tI) a n:AB P H (mk t a n):=Aa (SS t) λ_=>Aa (CP (I1 t)) λ_=>mz
def Tn (x:Vl):AB P H (wa x):=by
 unfold wa;split
 exact mz
 exact Aa (mz) λ_=>nS _ _ _
 exact mz
def YZ:Ma P H (λargs=>wa (args.getD 0 (.t #[]))):=λ_=>Tn _
def n4{q:Prop}(h:q:=by
 cases y<;>first|exact Af _|skip
 rename_i q
 cases q with
 |none=>exact Af _
 |some a=>exact Aa (Jb _) λ_=>Ab _):q:=h
def OW (x:Vl):AB P H (partsAny x):=by
 let key:∀h y z:Vl,AB P H (partsAny (.agg #[h,y,z])):=λh y z=>by
  cases z<;>first|(cases y<;>exact Af _)|exact Af _|skip
  rename_i k n
  cases k<;>first|(cases y<;>exact Af _)|skip
  cases n with
  |ofNat m=>
   cases m with
   |zero=>exact Ab _
   |succ m=>
    exact n4
  |negSucc m=>
   exact n4
 cases x<;>first|exact Af _|skip
 rename_i c
 let⟨l⟩:=c
 match l with
 |[]=>exact Af _
 |[_]=>exact Af _
 |[_,_]=>exact Af _
 |[h,y,z]=>exact key h y z
 |_::_::_::_::_=>exact Af _
def PW (x:Vl):AB P H (parts x):=by
 refine Aa (OW x) λo=>?_
 split
 exact Aa (CP (FI ..)) λ_=>mz
 exact mz
def IW{z:xZ Vl}{f:tI ->xr ->Nat ->Nat ->xZ Vl}(I:AB P H z)(G:∀t a n k,AB P H (f t a n k)):Ma P H (sR z f):=Oj (λl E=>by
  match l,E with
  |[],_=>exact Af _
  |[_],E=>cases E J
  |_::_::_,_=>exact Af _) λu=>by
 refine Aa (PW _) λo=>?_
 split
 exact I
 exact G _ _ _ _
def WC{z:xZ Vl}{f:tI ->xr ->Nat ->Nat ->xZ Vl}(I:AB P H z)(G:∀t a n k,AB P H (f t a n k)):Ma P H (methodAny z f):=Oj (λl E=>by
  match l,E with
  |[],_=>exact Af _
  |[_],E=>cases E J
  |_::_::_,_=>exact Af _) λu=>by
 refine Aa (OW _) λo=>?_
 split
 exact I
 exact G _ _ _ _
def p8:Ma P H (methodAny (te "reflectlite.Value.Type" 0) (λt _ _ _=>tx t)):=WC (CQ (BO _ _)) λt _ _ _=>Oq t
def kC:Ma P H (sR (te "reflectlite.Value.IsNil" 0) isNil):=IW (CQ (BO _ _)) λt a n k=>by
 unfold isNil;let last:AB P H (do
   match <-E0 t a with
   |.chan sA|.nilFunc|.nilIface|.map sA|.pointer sA|.slice sA _ _=>pure (.bool sy)
   |_=>pure (.bool ss):xZ Vl):=mz
 exact Aw (Aa (CQ (BO _ _)) λ_=>last) last
def su:Ma P H (sR (te "reflectlite.Value.Elem" 0) tB):=IW (CQ (BO _ _)) λt a n k=>by
 unfold tB;let last:AB P H (do
   match k,<-E0 t a,<-elem? t with
   |20,i,_=>wa i
   |22,.pointer sA,_=>pure zeroV
   |22,.pointer (A p),A e=>mk e p flagAddr
   |_,_,_=>te "reflectlite.Value.Elem" k:xZ Vl):=by
  refine Aa (Er _ _) λx=>Aa (CP (OJ t)) λo=>?_
  split
  exact Tn _
  exact Ab _
  exact nS _ _ _
  exact CQ (BO _ _)
 exact Aw (Aa (CQ (BO _ _)) λ_=>last) last
def UR:Ma P H (sR (pure (.int .u8 0)) (λ_ _ _ k=>pure (.int .u8 (Int.ofNat k)))):=IW (mz) λ_ _ _ _=>mz
def xz:Ma P H Extern.ReflectliteValue.set:=dL (λl E=>by
  match l,E with
  |[],_=>exact Af _
  |[_],_=>exact Af _
  |[_,_],E=>cases E J
  |_::_::_::_,_=>exact Af _) λu v=>by
 refine Aa (PW _) λx=>Aa (PW _) λy=>?_
 split
 .
  rename_i dst a b src b _ _
  let tail:AB P H (do
    let val <-E0 src b
    if <-directlyAssignable dst src then storeVar dst a val
    else if <-implements dst src then
     if (<-kind src)==20 then
      match val with
      |.nilIface=>unsupported (.noEntry "extern/reflectlite: a nil value of one interface type handed on as a value of another")
      |_=>storeVar dst a val
     else storeVar dst a (.f src val)
    else panicString ("reflectlite.Set: value of type "++(<-spelt src)++ " is not assignable to type "++(<-spelt dst))
    pure (.t #[]):xZ Vl):=by
   refine Aa (Er _ _) λval=>Aa (CP (LB ..)) λc=>?_
   refine Aw (Aa (Jc _ _ _) λ_=>Ab _) (Aa (CP (GH ..)) λ_=>Aw (Aa (CP (I1 _)) λ_=>Aw ?_ (Aa (Jc _ _ _) λ_=>Ab _)) (Aa (CP (IY _)) λ_=>Aa (CP (IY _)) λ_=>Aa (CQ (Dl _)) λ_=>Ab _));split
   exact Aa (Bb _) λ_=>Ab _
   exact Aa (Jc _ _ _) λ_=>Ab _
  exact Aw (Aa (Bb _) λ_=>tail) tail
 exact Bb _
end
def Zq:lN:=[5,6,8,9,10,11,12,13,15,16,21,22,23,24,25,26,27,28,29,30,44,45,46,47,48,49,50,51,52,53,93,94,95,99,101,192,62,56,41]
def Di:Gg:=⟨λf=>Zq.contains f ||Z6.contains f ||f==198⟩
def tH:Zq.all (jd sr (Hl sr Di))=true:=td
def D6 H:Eb sr Di H:=λf O=>by
 let key:l9 (Ma sr H) f ->∃o,sr.funcs[f]? = A o/\(o.name== "runtime.NumGoroutine")=ss/\((∃c,o.body=A c/\Hl sr Di c=sy)\/(o.body=sA/\Extern.findNext o=sA/\∃x,Extern.find o=A x/\Ma sr H x)\/∀a,Gm sr (callFunc f a)):=λ⟨o,I,E,G⟩=>⟨o,I,E,.inr G⟩
 obtain h|h:=ł _ _▸O
 .
  obtain h|h:=ł _ _▸h
  let⟨o,I,E,G⟩:=mR tH h;exact⟨o,I,E,.inl G⟩
  exact key (lp YZ p8 kC dx su xz Yj UR (Pd "AssignableTo" K6) (SL λt=>by
   refine Aa (CP (OJ t)) λo=>?_
   split
   exact Oq _
   exact Aa (CP (IY t)) λ_=>CQ (Dl _)) (Pd "Implements" LG) h)
 cases LawfulBEq.eq_of_beq h
 exact key (Kr Tryz.f198 (x:=(tc λt=>do noPackHeld "Comparable" t;pure (.bool (<-typeInfo t).comparable))) TH)
open Go.ConcR (KK WgAt stA smA rd wr mk)
variable {a:xr}{x U:Vl}{ad:Nat ->xr}
structure Am (w w':M):Prop where
 h:w.heap.size<=w'.heap.size
 g:∀b,b<w.heap.size->w'.heap[b]? = w.heap[b]?
 p:w'.os=w.os/\w'.output=w.output
def DF (H:Nat->Prop)(w:M):=∀b,H b->∃st sm,WgAt 98 b w st sm
section
variable {H:Nat->Prop}{w w1 w2 v v':tz}
def Am.I w:Am w w:=⟨lr,λ_ _=>J,J,J⟩
def Am.G (h:Am w w1)(k:Am w1 w2):Am w w2:=⟨rX h.h k.h,λb E=>(k.g b (rZ E h.h)).trans (h.g b E),k.p.1.trans h.p.1,k.p.2.trans h.p.2⟩
def Am.B w d:Am w (w.at d):=⟨lr,λ_ _=>J,J,J⟩
def Am.l (h:Bp H v w)(G:Bp H v' w1)(E:Q9 H w w1)(O:zW v v'):Am w w1:=by
 refine⟨h.h▸G.h▸O.size,λb U=>?_,E.2.2⟩;by_cases I:H b
 exact E.2.1 b I
 exact h.d G E O.block U I
def Am.E (h:Am w w1)(E:w.cell? a=A x):w1.cell? a=A x:=by
 unfold sY at E⊢;rw[h.g _ (BZ E)];exact E
def DF.y (h:DF H w):Sr H w:=λb G=>by
 obtain⟨E,E,E⟩:=h b G;exact⟨_,_,E⟩
def DF.G (h:DF H w){b}(G:H b):b<w.heap.size:=by
 obtain⟨E,E,E⟩:=h b G;exact AZ E
def DF.later (h:DF H w)(G:Am w w1):DF H w1:=λb I=>let⟨Z,Y,E⟩:=h b I;⟨Z,Y,(G.g b (AZ E)).trans E⟩
def DF.E (h:DF H w)(O:Bp H v w)(E:w.cell? a=A x)(V:∀n,x≠.int .u64 n)(U:∀n,x≠.int .u32 n):v.cell? a=A x:=by
 refine O.g (λY=>?_) E;let⟨Z,X,G⟩:=h _ Y;let G:w.heap[a.block]? = A (.c _ 98 _):=G;unfold sY at E;rw[G]at E;simp only at E;split at E
 cases E
 cases I:a.off with
 |zero=>rw[I]at E;simp at E;exact V Z E.symm
 |succ n=>
  cases n with
  |zero=>rw[I]at E;simp at E;exact U X E.symm
  |succ n=>simp_all
def Errs9.E (E:Errs9 w ad)(h:DF H w)(I:Bp H v w):Errs9 v ad:=let G:∀{a:xr}{t:tI}{x:Vl},w.cell? a=A (.f t x)->v.cell? a=A _:=λO=>h.E I O sm sm;⟨G E.g,G E.e,G E.a,G E.k,G E.l,G E.b,G E.p,G E.q,G E.r,G E.i⟩
def Errs9.G (E:Errs9 v ad)(G:Bp H v w):Errs9 w ad:=
 ⟨G.E E.g,G.E E.e,G.E E.a,G.E E.k,G.E E.l,G.E E.b,G.E E.p,G.E E.q,G.E E.r,G.E E.i⟩
def Errs9.m (E:Errs9 w ad)(h:Am w w1):Errs9 w1 ad:=
 ⟨h.E E.g,h.E E.e,h.E E.a,h.E E.k,h.E E.l,h.E E.b,h.E E.p,h.E E.q,h.E E.r,h.E E.i⟩
def Dm.G{c a}(E:Dm v U c a)(G:Bp H v w):Dm w U c a:=by
 obtain E|⟨X,O,k,I,e,E|⟨W,Y,V,Z⟩⟩:=E
 exact .inl E
 exact .inr ⟨X,O.G G,k,I,e,.inl E⟩
 exact .inr ⟨X,O.G G,k,I,e,.inr ⟨W,Y,G.E V,G.E Z⟩⟩
def Bo.G{c p}(E:Bo v U c p)(G:Bp H v w):Bo w U c p:=⟨E.code.G G,E.a,E.b⟩
def Bc.E{a:oA}{xs:lZ}(E:Bc w a xs)(h:DF H w)(G:Bp H v w):Bc v a xs:=by
 obtain E|⟨b,off,O,I,U⟩:=E
 exact .inl E
 exact .inr ⟨b,_,O,G.h▸I,λi x V=>h.E G (U i x V) sm sm⟩
end
structure MS (H:Nat->Prop)(q:Bool)(n bl bp:Nat)(k:OO)(w:M):Prop where
 l:n<=100
 d:DF H w
 e:∀b,b<sr.globals.size->b<w.heap.size/\¬H b
 f:∀b,k.R b->b<w.heap.size/\¬H b
 g:Es sr k.c k.Gb
 a:∀i w1 base,i<n->Cz (λb=>k.R b\/b<sr.globals.size) w w1->FC sr k.c k.Gb w1.heap.size (Ú sr (š q) (Ca bl bp i) (Õ k.T w1)) base (Ú sr (š q) (Ca bl bp i) (Õ k.T w1)) (Ô.j k.R) (Frame.enter sr (š q) (Ca bl bp i) .normal) base w1
 j:∀i w1,i<n->Cz (λb=>k.R b\/b<sr.globals.size) w w1->Ď sr (š q) (Ca bl bp i) (Õ k.T w1) (k.s i)
 parts:∀i w1 (r:Ô) v0 v,k.s i (.r v0) w1->VR (Ė k.c) r v0 v->∃x y,v=.t #[x,y]/\Oi q x/\(y=.n\/∃t u,y=.f t u)
def MS.later{H q n Y U k w w1}(h:MS H q n Y U k w)(G:Am w w1):MS H q n Y U k w1:=let V:Cz (λb=>k.R b\/b<sr.globals.size) w w1:=⟨λb E=>G.g b (E.elim (λE=>(h.f b E).1) λE=>(h.e b E).1),G.h,G.p⟩;⟨h.l,h.d.later G,λb E=>⟨rZ (h.e b E).1 G.h,(h.e b E).2⟩,λb E=>⟨rZ (h.f b E).1 G.h,(h.f b E).2⟩,h.g,λi b Z O I=>h.a i b Z O (V.G I),λi b O I=>h.j i b O (V.G I),h.parts⟩
open Go.ConcR (KK WgAt stA smA rd wr mk)
section
variable {H:Nat->Prop}{q:Bool}{z:ā}{k:OO}{cs:List vh}{w w0:tz}{Post:xn->tz->Prop}{n bl bp:Nat}{wks:Int}
def ē (q:Bool)(G E:Nat):Vl:=.func (.func (š q)) #[] #[.pp G 0,.pp E 0]
def IE (P:pG)(q:Bool)(n wks:Int)(E:Vl)(cs:lF):gR:=G ((base (Ň q)).at ⟨#[.q n,.q wks,E,uu,uu,uu,uu,uu,uu,uu,uu,uu,uu,uu,uu,uu,uu,uu,uu,uu,uu,uu,uu,uu,uu,uu,uu,uu,uu,uu,uu],[]⟩ [.code (È (đ P q))]) cs
def aQ{H q k n I O G cr V br ba m wks w w2}(h:MS H q n I O k w)(an:Am w w2)(aL:m<=16)(aC:0<n->0<m)
  (ax:G≠cr)(a0:w.heap.size<=G)(aW:w.heap.size<=cr)(ac:w2.heap[G]? = A (.chan 0 #[] ss 0 0 ss))(aq:w2.heap[cr]? = A (.chan 0 #[] ss 0 0 ss))(ak:w2.cell? (C V 0)=A (.chan (A G)))(aw:w2.cell? (C br 0)=A (.chan (A cr)))(am:w2.cell? (C ba 0)=A (ē q I O)):
  oD H q ⟨⟨w2.heap.size,V,ba,br,G,cr,I,O⟩,n,m,wks,ē q I O⟩ k w2:=by
 let Z:=h.later an;let ao:∀b,H b->b<w.heap.size:=λb E=>h.d.G E
 let X:∀{a:xr}{x:Vl},w2.cell? a=A x->(∀n,x≠.int .u64 n)->(∀n,x≠.int .u32 n)->ň H ⟨w2.heap.size,V,ba,br,G,cr,I,O⟩ w2 a.block:=λ{a x} U aN aE=>by
  refine⟨BZ U,λE=>?_,λe=>?_,λe=>?_⟩
  obtain⟨v,b,-,-⟩:=TU Z.d.y;have:=Z.d.E b.some U aN aE;obtain⟨c,e,-,aG⟩:=b.d _ E;simp[sY,aG]at this
  let e:a.block=G:=e;unfold sY at U;rw[e,ac]at U;cases U
  let e:a.block=cr:=e;unfold sY at U;rw[e,aq]at U;cases U
 let ai:∀b,b<w.heap.size->¬H b->ň H ⟨w2.heap.size,V,ba,br,G,cr,I,O⟩ w2 b:=λb E aI=>⟨rZ E an.h,aI,λe=>by let e:b=G:=e;omega,λe=>by let e:b=cr:=e;omega⟩
 let v:∀b,k.R b->ň H ⟨w2.heap.size,V,ba,br,G,cr,I,O⟩ w2 b:=λb E=>ai b (h.f b E).1 (h.f b E).2
 let e:∀b,b<sr.globals.size->ň H ⟨w2.heap.size,V,ba,br,G,cr,I,O⟩ w2 b:=λb E=>ai b (h.e b E).1 (h.e b E).2
 let c:∀a,Cz (ň H ⟨w2.heap.size,V,ba,br,G,cr,I,O⟩ w2) w2 a->Cz (λb=>k.R b\/b<sr.globals.size) w2 a:=λa Y=>⟨λb E=>Y.1 b (E.elim (v b) (e b)),Y.2,Y.p⟩
 refine⟨h.l,aL,aC,J,⟨h.g,λi a aB b Y=>Z.a i a aB b (c a Y),λi a b Y=>Z.j i a b (c a Y),h.parts,v⟩,e,⟨ak,am,aw⟩,X ak sm sm,X am (by simp[ē]) (by simp[ē]),X aw sm sm,ax,⟨0,ss,ac⟩,⟨0,ss,aq⟩,Z.d.y,λE=>?_,λE=>?_⟩
 have:=ao _ E;have:G<w.heap.size:=this;omega
 have:=ao _ E;have:cr<w.heap.size:=this;omega
def oD.B (h:oD H q z k w) d:oD H q z k (w.at d):=let E:∀Z,Cz (ň H z.v (w.at d)) (w.at d) Z->Cz (ň H z.v w) w Z:=λZ E=>⟨E.1,E.2,E.p⟩;⟨h.l,h.r,h.t,h.a,⟨h.g.g,λi Z O I G=>h.g.a i Z O I (E Z G),λi Z I G=>h.g.j i Z I (E Z G),h.g.parts,h.g.f⟩,h.e,⟨h.f.d,h.f.h,h.f.e⟩,h.m,h.u,h.p,h.h,h.i,h.j,h.d,h.v⟩
end
def Mh (w:M)(k:Nat)(y:Vl):=k<9/\∃E,Errs9 w E/\(y=.f 255 (.p (A (E k)))\/∃G,y=.f 119 (.pp G 0)/\w.cell? (C G 1)=A (.f 255 (.p (A (E k)))))
def F7 (w:M)(G:Vl->Prop)(E:Int->Prop)(u y:Vl):=(y=.n/\G u)\/∃k:Nat,E (k+1)/\Mh w k y
def Tryz.c:(sr.info? 42).map (λi=>(i.zero,i.size,i.bytes))=A (A (.sn),1,24):=kr
abbrev mS:Bool->Nat
 |false=>3
 |true=>42
structure KU (q:Bool)(w:M)(D n:Nat)(us:List Vl):Prop where
 row:∃arr,w.heap[D]? = A (.c arr (mS q) (0,0))/\arr.size=n/\∀(i:Nat) d,us[i]? = A d->arr[i]? = A d
section
variable {q:Bool}{w w':tz}{D n:Nat}{us:List xn}
def KU.E (h:KU q w D n us){k}(G:k<n):∃u,w.cell? (C D k)=A u:=by
 obtain⟨I,O,E,-⟩:=h.row;exact⟨I[k],by simp[sY,O,E,G]⟩
def KU.s (h:KU q w D n us) k:w.frozen? (C D k)=false:=by
 obtain⟨I,E,G,-⟩:=h.row;simp[World.frozen?,E]
def KU.G (h:KU q w D n us):D<w.heap.size:=by
 obtain⟨G,E,-⟩:=h.row;exact ī E
def KU.e (h:KU q w D n us)(O:w'.heap[D]? = w.heap[D]?):KU q w' D n us:=let⟨I,E,G⟩:=h.row;⟨I,O.trans E,G⟩
def KU.K (h:KU q w D n us){k}(aa:k<n)(ac:us.length=k)(d:Vl):KU q (w.setCell (C D k) d) D n (us++[d]):=by
 let⟨O,I,V,Y⟩:=h.row;refine⟨O.setIfInBounds k d,?_,oy V,λi x E=>?_⟩
 rw[setCell_eq_setRow w D k O (mS q) (0,0) _ I];exact setRow_heap _ _ _ _ _ _ I
 obtain G|G:=nR i us.length
 rw[č G]at E;rw[û N];exact Y i x E
 rw[Ţ G]at E;obtain⟨m,Z⟩:i-us.length=0/\x=d:=by
  cases U:i-us.length with
  |zero=>rw[U]at E;exact⟨J,(Ö E).symm⟩
  |succ m=>rw[U]at E;simp at E
 obtain rfl:i=k:=N;rw[ş N,Z]
def KU.cells (h:KU q w D n us)(i:Nat)(x:Vl)(I:us[i]? = A x):w.cell? (C D i)=A x:=by
 let⟨U,E,O,G⟩:=h.row;have:=G i x I;simp[sY,E,this]
def X8 q(w:M) n:KU q (w.alloc (.c (madeCells #[zA q] n) (mS q))) w.heap.size n []:=⟨_,ř w _,lv ..,nofun⟩
end
def NL (G:Nat->Vl->Prop)(I:Nat->Int->Prop)(n:Nat)(x y:Vl)(w':M):=
 (∃i c,i<n/\(∀j,j<i->∃u,G j u)/\I i c/\0<c/\x=.sn/\Bo w' y c i)\/
 (∃(E:List Vl)(D:Nat),E.length=n/\(∀i u,E[i]? = A u->G i u)/\x=.sl D 0 n n/\y=.n/\D<w'.heap.size/\∀(i:Nat) d,E[i]? = A d->w'.cell? (C D i)=A d)
def Zl (G:Nat->Vl->Prop)(E:Nat->Int->Prop)(n:Nat)(w:M)(e:Ending)(w':M):=zW w w'/\∃x y,e=.r (.t #[x,y])/\NL G E n x y w'
def Xx{w w':M}{ad}(I:Errs9 w ad){k}(G:k<9){p e}(h:Ō p (.f 255 (.p (A (ad k)))) w e w'):∃B,e=.r (.f 119 (.pp B 0))/\zW w w'/\Bo w' (.f 119 (.pp B 0)) (k+1) p:=by
 obtain⟨B,U,O,V,-,E⟩:=h;exact⟨B,U,E,FZ (I.d E) k G p B O V,λY=>N,λ_=>⟨_,_,J⟩⟩
def UG{w k y}(h:Mh w k y)(i:Nat){W:M}(hW:zW w W):Ë 62 #[.q i,y] W λe w'=>∃B,e=.r (.f 119 (.pp B 0))/\zW W w'/\Bo w' (.f 119 (.pp B 0)) (k+1) i:=by
 obtain⟨O,G,E,rfl|⟨V,rfl,U⟩⟩:=h
 exact(QJ i (G k) W G (E.d hW)).mono λe w' I=>Xx (E.d hW) O I
 exact(Po i V _ _ W G (E.d hW) (jf hW U)).mono λe w' I=>Xx (E.d hW) O I
def Ni{w k y}(h:Mh w k y):∃t v,y=.f t v:=by
 obtain⟨-,G,-,rfl|⟨E,rfl,-⟩⟩:=h
 exact⟨_,_,J⟩
 exact⟨_,_,J⟩
end Go.Proofs.YtaoikkhlnhfkfaaGreatDoor
