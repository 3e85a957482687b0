import Derived.Test.YtaoikkhlnhfkfaaGreatDoorU00
import Derived.Conc.CrowdSel
import Derived.Test.YtaoikkhlnhfkfaaGreatDoorU24
import Derived.Conc.CrowdStepW
set_option linter.defProp false
set_option linter.unusedSimpArgs false
set_option linter.unusedVariables false
namespace Go.Proofs.YtaoikkhlnhfkfaaGreatDoor
open Go renaming Program->tP,World->tz,Trace->A1,Event->zs,stepG->tt,Goroutine->th
open Option renaming some->A,none->sA
open Conc renaming crowd->uz,rcase->yw,scase->F9,parked->wo,woken->uG,offersAt->xF,offersAt_of_not_blocked->tU,offersAt_parked_recv'->I',offersAt_parked_recv->Kp,offersAt_parked_send->Ks,offersAt_parked_send'->Jx,Deaf->Ax,mem_ofEvents->sB,Deaf_own->Lw,Deaf_other->tS,Deaf_quiet->Kh
open World renaming setChan->zc
open Bool renaming false->ss,true->sy
open ConcN renaming upd->xp,sumTo->s4,upd_ne->ts,deafBehind_idle->tQ,upd_same->s5,get_map_set_same->tg,get_map_set->tM
open MemAct renaming ofEvent->sT,touch?->vw
open MemOp renaming ofEvents->s9
open Go.Conc
open Go.ConcN (sumTo upd sumTo_upd upd_ne upd_same)
variable {K:Nat ->Prop}{w w1 w':M}{n:Nat}{g:gR}
section
variable {P:tP}{Post:Value->tz->Prop}
def YL{α:Type}{r}(ak:WellFounded r)(G:α->Array gR->M->A1->Prop)
  (am:∀E gs w t d,G E gs w t->G E gs (w.at d) t)(aa:∀E gs w t,G E gs w t->∀g∈gs,awake g)
  (hrun:∀E gs w t,G E gs w t->∃(i:Nat)(g:gR),gs[i]? = A g/\g.status=.running)
  (ai:∀E gs w t sl (i) g,G E gs w t->gs[i]? = A g->g.status=.running->∃I w' ops,runT P (uz gs w sl) i=(.next (uz I w' sl),ops)/\((∃U,r U E/\G U I w' (t++ops))\/Cc P Post (uz I w' sl) (t++ops))):
  ∀E gs w sl t,G E gs w t->Cc P Post (uz gs w sl) t:=by
 intro E;induction E using ak.induction with
 |_ E Y=>
  intro gs w sl t O;obtain⟨i,g,d,h,X,h,V⟩:=crowd_pick (P:=P) (w:=w) (sl:=sl) (aa _ _ _ _ O) (hrun _ _ _ _ O);obtain⟨I,w',ops,W,Z⟩:=ai E gs _ t _ i g (am _ _ _ _ d O) X h;apply Cc.e (V.trans W);obtain⟨U,O,V⟩|h:=Z
  exact Y _ O _ w' _ _ V
  exact h
end
/-! ### a measure -/
section
variable {P:tP}
def PM (P:pG)(x' x:Nat×Option (Mv P)):=x'.1<x.1\/(x'.1=x.1/\∃a b,x'.2=A a/\x.2=A b/\Ez P b.1 a.1)
def ze:WellFounded (PM P):=by
 let U:WellFounded λ(y x:Option (Mv P))=>∃a b,y=A a/\x=A b/\Ez P b.1 a.1:=by
  refine⟨λx=>?_⟩;cases x with
  |none=>exact⟨_,λy⟨a,b,_,h,_⟩=>nf h⟩
  |some x=>
   induction x using (yD P).induction with
   |_ x G=>
    refine⟨_,λy⟨a,b,I,V,O⟩=>?_⟩;cases V
    subst I;exact G a O
 refine Subrelation.wf (r:=Prod.Lex (·<·) λ(y x:Option (Mv P))=>∃a b,y=A a/\x=A b/\Ez P b.1 a.1) ?_ (Prod.lex Nat.lt_wfRel ⟨_,U⟩).wf;rintro⟨a',x'⟩ ⟨a,x⟩(h|⟨h,E⟩)
 exact Prod.Lex.left _ _ h
 dsimp only at h E
 subst h;exact Prod.Lex.right _ E
end
/-! ### goroutine 0's own walk -/
structure Cz (K:Nat->Prop)(w w1:M):Prop where
 a:∀b,K b->w1.heap[b]? = w.heap[b]?
 h:w.heap.size<=w1.heap.size
 p:w1.os=w.os/\w1.output=w.output
def Cz.I K w:Cz K w w:=⟨λ_ _=>J,lr,J,J⟩
def Cz.G{w2}(h:Cz K w w1)(E:Cz K w1 w2):Cz K w w2:=⟨λb G=>(E.1 b G).trans (h.1 b G),rX h.2 E.2,E.p.1.trans h.p.1,E.p.2.trans h.p.2⟩
def Cz.k{G}(h:Cz K w w1)(E:∀b,G b->K b):Cz G w w1:=⟨λb I=>h.1 b (E b I),h.2,h.p⟩
def Cz.E (h:Cz K w w1){a}(E:K a.block):w1.cell? a=w.cell? a:=by simp[World.cell?,h.1 _ E]
def I9 K w d:Cz K w (w.at d):=⟨λ_ _=>J,lr,J,J⟩
def Rm K(w:tz){c}(I:¬K c) cap E G s r tm:Cz K w (w.setChan c cap E G s r tm):=
 ⟨λb O=>by
  have:c≠b:=λe=>I (e▸O)
  simp[zc,û this],by simp[zc],J,J⟩
def ķ (K:Nat->Prop)(w w':M):=λb=>K b\/(w.heap.size<=b/\b<w'.heap.size)
structure eD (Fx Sh K:Nat->Prop)(w w':M)(es:Array zs):Prop where
 h:w.heap.size<=w'.heap.size
 d:∀b,b<w.heap.size->(Fx b\/¬K b)->w'.heap[b]? = w.heap[b]?
 p:w'.os=w.os/\w'.output=w.output
 g:∀e∈es,∃a wr,e=⟨.cell a,wr,ss⟩/\ķ K w w' a.block/\a.block<w'.heap.size/\(wr=sy->¬Fx a.block)/\¬Sh a.block
def eD.m E Sh K w:eD E Sh K w w #[]:=⟨lr,λ_ _ _=>J,⟨J,J⟩,sm⟩
def Ag (P:pG)(G Sh:Nat->Prop)(E:(Nat->Prop)->gR->M->Prop):Nat->(Nat->Prop)->gR->M->Prop
 |0,K,g,w=>∀w1,Cz K w w1->E K g w1
 |n+1,K,g,w=>(∀w1,Cz K w w1->E K g w1)\/(g.status=.running/\∀w1,Cz K w w1->∃g' w' es,tt P sy g w1=.go g' w' es/\eD G Sh K w1 w' es/\Ag P G Sh E n (ķ K w1 w') g' w')
section
variable {P:tP}{Fx Sh:Nat->Prop}{Stop:(Nat->Prop)->th->tz->Prop}
def Ag.r (h:Ag P Fx Sh Stop n K g w)(G:Cz K w w1):Ag P Fx Sh Stop n K g w1:=by
 cases n with
 |zero=>exact λZ E=>h Z (G.G E)
 |succ n=>
  obtain h|⟨I,h⟩:=h
  exact .inl λZ E=>h Z (G.G E)
  exact .inr ⟨I,λZ E=>h Z (G.G E)⟩
def Ag.m (h:Ag P Fx Sh Stop n K g w):Stop K g w\/∃E,n=E+1/\g.status=.running/\∃g' w' es,tt P sy g w=.go g' w' es/\eD Fx Sh K w w' es/\Ag P Fx Sh Stop E (ķ K w w') g' w':=by
 cases n with
 |zero=>exact .inl (h w (Cz.I K w))
 |succ n=>
  obtain h|⟨G,h⟩:=h
  exact .inl (h w (Cz.I K w))
  exact .inr ⟨n,J,G,h w (Cz.I K w)⟩
def Ag.q (h:∀w1,Cz K w w1->Stop K g w1):Ag P Fx Sh Stop n K g w:=by
 cases n with
 |zero=>exact h
 |succ n=>exact .inl h
def Ag.h (E:∀K g w,Stop K g w->g.status=.running)(h:Ag P Fx Sh Stop n K g w):g.status=.running:=by
 obtain h|⟨_,_,h,_⟩:=h.m
 exact E _ _ _ h
 exact h
def Mk K(h:w'.heap.size=w.heap.size):ķ K w w'=K:=by
 funext b
 simp
 constructor
 .
  rintro(E|⟨E,G⟩)
  exact E
  omega
 exact .inl
def Ag.u{F:M->Prop}{Ev K m}(O:∀w w1,F w->Cz K w w1->F w1)(U:∀e,Ev e->∃a,e=⟨.cell a,ss,ss⟩/\K a.block/\¬Sh a.block){g':gR}:∀{n}{g:gR}{w},F w->(∀b,K b->b<w.heap.size)->Å P sy F Ev n g g'->(∀w1,Cz K w w1->Ag P Fx Sh Stop m K g' w1)->Ag P Fx Sh Stop (n+m) K g w
 |0,g,w,_,_,G,I=>by
  cases G
  rw[Ă];exact I w (Cz.I K w)
 |n+1,g,w,V,Y,⟨h,x,Z,W,X,G⟩,I=>by
  rw[Nat.add_right_comm];refine .inr ⟨h,λw1 E=>⟨x,w1,Z,X w1 (O _ _ V E),⟨lr,λ_ _ _=>J,⟨J,J⟩,λe x=>?_⟩,?_⟩⟩
  let⟨a,h,Z,X⟩:=U e (W e x);exact⟨a,ss,h,.inl Z,rZ (Y _ Z) E.2,(nofun),X⟩
  rw[Mk K J];exact Ag.u O U (O _ _ V E) (λb h=>rZ (Y b h) E.2) G λx h=>I x (E.G h)
end
/-! ### the return of a call -/
def PO{P:pG}{main fr c}{cs:lF}{fn}{v:Vl}{evs}(I:fr.mode=.returning)(E:fr.defers=[])(Y:fr.kind=.normal)(O:P.funcs[fr.fn]? = A fn)
  (V:(results fn fr.tmps).run P w=.ok v w')(U:∀es,(results fn fr.tmps).events P w es=es++evs):tt P main (G fr (c::cs)) w=.go (G (c.finish v) cs) w' (seen P fr.fn evs):=by
 have:=U #[];simp[G,tt,unwind,doReturn,Y,E,I,O,V,this,GStep.after]
open Go.ConcN (sumTo upd sumTo_upd upd_ne upd_same sumTo_congr)
variable {i d top:Nat}{v:Vl}{V:Nat ->Prop}{w w1:M}{g:gR}
structure Wk (P:pG) where
 b:Nat
 a:Nat×Option (Mv P)
 e:Nat->Prop
 d:Nat
structure Ã (P:pG) where
 (b cr:Nat)
 (D zr z0 z1:Vl)
 (n d top:Nat)
 S:Nat->Prop
 R:Nat->Prop
 T:Nat->Nat
 p:Nat->Prop
 a:Nat
 f:fI
 args:Nat->Array Vl
 c:Nat->Bool
 Gb:Nat->Bool
 s:Nat->Ending->M->Prop
 i:Nat->Vl->Vl
 N5:gR->Prop
 t:Nat->Frame->Prop
 Z:lF
 v:Vl->gR->Prop
 K:M
 w:Nat->Nat->(Nat->Option Vl)->(Nat->Prop)->(Nat->Prop)->gR->M->Prop
 O:(Nat->Option Vl)->(Nat->Prop)->(Nat->Prop)->gR->M->Prop
section
variable {P:tP}
structure Ã.k (p:Ã P)(w:M):Prop where
 keep:∀b,p.S b->w.heap[b]? = p.K.heap[b]?
 size:p.K.heap.size<=w.heap.size
 out:w.os=p.K.os/\w.output=p.K.output
def Ã.H (p:Ã P)(e:zs):=∃a,e=⟨.cell a,ss,ss⟩/\p.S a.block
def Ã.m (p:Ã P)(a:Nat):=#[⟨if a<p.n then .chan (A p.b)else .chan sA,A (.q a),p.z0⟩,yw p.cr p.z1]
def Ã.I (p:Ã P)(a b:Nat)(G:Nat->Option Vl)(E K:Nat->Prop)(g:gR)(w:M):=(b<p.n/\p.w a b G E K g w)\/(b=p.n/\p.O G E K g w)
def Ã.X (p:Ã P)(i:Nat)(v:Vl):=∃E w r,p.s i (.r E) w/\VR (Ė p.c) r E v
def Ã.B (p:Ã P)(i:Nat)(v:Vl)(I:Nat->Prop)(w:M):=∃(x:M)(r:Ô)(L:Nat)(E:Vl)(T t G:Nat->Question->Nat),
 (∀a b,r.rel a b->I b)/\p.s i (.r E) (À x T)/\VR (Ė p.c) r E v/\WR (Ė p.c) L r (À x t) (À w G)/\∀g,p.Gb g=sy->r.rel g g
structure Ã.L (p:Ã P)(Fx K:Nat->Prop)(w:M):Prop where
 fk:∀b,Fx b->K b
 sf:∀b,p.S b\/p.p b->Fx b
 kc:¬K p.b/\¬K p.cr
 kl:∀b,K b->b<w.heap.size
structure Ã.r (p:Ã P):Prop where
 ne:p.b≠p.cr
 pos:0<p.d
 top:p.d<=p.top
 slow:∀b,p.S b->b<p.K.heap.size
 rs:∀b,p.R b->p.S b
 shlow:∀b,p.p b->b<p.K.heap.size
 parted:∀b,p.S b->¬p.p b
 shwg:p.p p.a
 clow:p.b<p.K.heap.size/\p.cr<p.K.heap.size
 cw:p.b≠p.a/\p.cr≠p.a
 fns:Es P p.c p.Gb
 glob:P.globals.size<=p.K.heap.size
 begins:∀i w base,i<p.n->p.k w->FC P p.c p.Gb w.heap.size (Ú P p.f (p.args i) (Õ p.T w)) base (Ú P p.f (p.args i) (Õ p.T w)) (Ô.j p.R) (Frame.enter P p.f (p.args i) .normal) base w
 ends:∀i w,i<p.n->p.k w->Ď P p.f (p.args i) (Õ p.T w) (p.s i)
 recv:∀g,p.N5 g->g.status=.running/\∀w,tt P ss g w=.comm g #[yw p.b p.D] sy (.recv sy) w #[]
 got:∀g i,p.N5 g->i<p.n->∃m c,p.t i c/\Å P ss p.k p.H (m+1) (g.finishComm P #[yw p.b p.D] (.recv sy) 0 (.q i) sy) (G (Frame.enter P p.f (p.args i) .normal) (c::p.Z))
 made:∀i c v,p.t i c->i<p.n->p.X i v->∃m g',m<=50/\Å P ss p.k p.H m (G (c.finish v) p.Z) g'/\p.v (p.i i v) g'
 send:∀x g,p.v x g->g.status=.running/\∀w,tt P ss g w=.comm g #[F9 p.cr x p.zr] sy .send w #[]
 sent:∀x g,p.v x g->∃m g',Å P ss p.k p.H m (g.finishComm P #[F9 p.cr x p.zr] .send 0 uu ss) g'/\p.N5 g'
 sel:∀a b dn Fx K g w,p.w a b dn Fx K g w->g.status=.running/\∀w,tt P sy g w=.comm g (p.m a) sy .select w #[]
 shut:∀dn Fx K g w,p.O dn Fx K g w->g.status=.running
 sees:∀a b dn Fx K g w w1,p.w a b dn Fx K g w->Cz K w w1->p.w a b dn Fx K g w1
 more:∀a b dn Fx K (r9:Nat->Prop) g w,p.w a b dn Fx K g w->(∀c,r9 c->¬K c)->p.w a b dn (λc=>Fx c\/r9 c) (λc=>K c\/r9 c) g w
 handed:∀a b dn Fx K g w,p.w a b dn Fx K g w->p.L Fx K w->a<p.n->b<p.n->∃m,Ag P Fx p.p (p.I (a+1) b dn Fx) m K (g.finishComm P (p.m a) .select (0:Nat) uu ss) w
 took:∀a b dn Fx K g w i v,p.w a b dn Fx K g w->p.L Fx K w->b<p.n->i<p.n->p.X i v->∃m,Ag P Fx p.p (p.I a (b+1) (xp dn i (A v)) Fx) m K (g.finishComm P (p.m a) .select (1:Nat) (p.i i v) sy) w
variable {p:Ã P}
def Ã.B.fine (h:p.B i v V w):p.X i v:=by
 obtain⟨x,r,L,I,T,t,O,-,G,E,-⟩:=h;exact⟨I,_,r,G,E⟩
def Ã.B.stay{Z'}(h:p.B i v V w)(aj:∀b,V b->Z' b)(I:Cz V w w1):p.B i v Z' w1:=by
 let⟨x,r,L,a,T,t,j,O,Y,U,E,o⟩:=h;refine⟨x,r,L,a,T,t,λj q=>t (j-w1.drawn+x.drawn) q,λa b G=>aj b (O a b G),Y,U,⟨λa b G=>?_,E.u,E.d,E.g,E.h,rX E.i I.2,λj q=>?_⟩,o⟩
 let⟨o,o',U,Y,Z⟩:=E.e a b G;exact⟨o,o',U,(I.1 b (O a b G)).trans Y,Z⟩
 show t (x.drawn+j) q=t (w1.drawn+j-w1.drawn+x.drawn) q
 rw[jA,ks]
def Ã.k.sees (h:p.k w)(E:Cz p.S w w1):p.k w1:=⟨λb G=>(E.1 b G).trans (h.1 b G),rX h.2 E.2,E.p.1.trans h.out.1,E.p.2.trans h.out.2⟩
/-! ### where a worker is -/
def Ã.N0 (p:Ã P)(x:Wk P)(g:gR):=x.b=0/\(∀b,¬x.e b)/\∃m g',x.a.1=m+1/\Å P ss p.k p.H m g g'/\p.N5 g'
def Ã.Y (p:Ã P)(x:Wk P)(g:gR):=x.b=0/\(∀b,¬x.e b)/\∃g',p.N5 g'/\g=wo g' #[yw p.b p.D] (.recv sy)
def Ã.N1 (p:Ã P)(x:Wk P)(g:gR):=x.b=1/\x.d<p.n/\(∀b,¬x.e b)/\∃m c,x.a.1=m+61/\p.t x.d c/\Å P ss p.k p.H (m+1) g (G (Frame.enter P p.f (p.args x.d) .normal) (c::p.Z))
def Ã.No (p:Ã P)(x:Wk P)(g:gR)(w:M):=x.b=1/\x.d<p.n/\∃(c:Frame)(w1:M)(y:Mv P)(r:Ô)(fr:Frame)(cs:lF),p.t x.d c/\p.k w1/\x.a=(60,A y)/\
 FC P p.c p.Gb w1.heap.size (Ú P p.f (p.args x.d) (Õ p.T w1)) (c::p.Z) y.1 r fr cs w/\g=G fr cs/\(∀b,x.e b↔∃a,w1.heap.size<=a/\r.rel a b)/\∀a b,r.rel a b->a<w1.heap.size->p.S b
def Ã.N2 (p:Ã P)(x:Wk P)(g:gR)(w:M):=x.b=1/\x.d<p.n/\∃m g' v,x.a.1=m+1/\Å P ss p.k p.H m g g'/\p.v (p.i x.d v) g'/\p.B x.d v (λb=>p.S b\/x.e b) w
def Ã.MN (p:Ã P)(x:Wk P)(g:gR)(w:M):=x.b=1/\x.d<p.n/\∃g' v,p.v (p.i x.d v) g'/\g=wo g' #[F9 p.cr (p.i x.d v) p.zr] .send/\p.B x.d v (λb=>p.S b\/x.e b) w
def Ã.N6 (p:Ã P)(x:Wk P)(i:Nat)(g:gR)(w:M)(d:Nat):=
 (i<p.d/\x.b=0/\(∀b,¬x.e b)/\QuitsD P x.a.1 d g)\/(p.d<=i/\d=0/\(p.N0 x g\/p.Y x g\/p.N1 x g\/p.No x g w\/p.N2 x g w\/p.MN x g w))
def Ã.N6.stay{x}(h:p.N6 x i g w d)(Z:Cz (λb=>p.S b\/x.e b) w w1):p.N6 x i g w1 d:=by
 obtain h|⟨G,E,h|h|h|h|h|h⟩:=h
 exact .inl h
 exact .inr ⟨G,E,.inl h⟩
 exact .inr ⟨G,E,.inr (.inl h)⟩
 exact .inr ⟨G,E,.inr (.inr (.inl h))⟩
 .
  let⟨I,O,c,m,y,r,S,a,U,V,X,Y,T,v,W⟩:=h;refine .inr ⟨G,E,.inr (.inr (.inr (.inl ⟨I,O,c,m,y,r,S,a,U,V,X,Y.k Z.2 λa b c=>Z.1 b ?_,T,v,W⟩)))⟩;obtain r|y:=nR a m.z
  exact .inl (W a b c r)
  exact .inr ((v b).2 ⟨a,y,c⟩)
 let⟨I,O,m,g',v,U,V,X,Y⟩:=h;exact .inr ⟨G,E,.inr (.inr (.inr (.inr (.inl ⟨I,O,m,g',v,U,V,X,Y.stay (λ_=>id) Z⟩))))⟩
 let⟨I,O,g',v,U,V,Y⟩:=h;exact .inr ⟨G,E,.inr (.inr (.inr (.inr (.inr ⟨I,O,g',v,U,V,Y.stay (λ_=>id) Z⟩))))⟩
def Ck{main}{F:M->Prop}{Ev m}{g':gR}(h:Å P main F Ev m g g')(E:g'.status=.running):g.status=.running:=by
 cases m with
 |zero=>cases h;exact E
 |succ m=>exact h.1
def Ã.N6.status (G:p.r){x}(h:p.N6 x i g w d):(g.status=.running\/g.status=.finished)\/(p.d<=i/\(p.Y x g\/p.MN x g w)):=by
 obtain⟨-,-,-,h⟩|⟨E,O,h|h|h|h|h|h⟩:=h
 exact .inl h.status
 obtain⟨-,-,m,g',-,k,O⟩:=h;exact .inl (.inl (Ck k (G.recv _ O).1))
 exact .inr ⟨E,.inl h⟩
 obtain⟨-,-,-,m,c,-,-,k⟩:=h;exact .inl (.inl k.1)
 obtain⟨-,-,c,I,y,r,c,c,-,-,-,-,rfl,-⟩:=h;exact .inl (.inl J)
 obtain⟨-,-,m,g',v,-,k,O,-⟩:=h;exact .inl (.inl (Ck k (G.send _ _ O).1))
 exact .inr ⟨E,.inr h⟩
def Ã.N6.woken (I:p.r){x}{w':M}(h:p.N6 x i g w d)(E:∃s tm,w'.heap[p.b]? = A (.chan 0 #[] ss s s tm))(G:∃s tm,w'.heap[p.cr]? = A (.chan 0 #[] ss s s tm))(a a':gR):uG P a a' w' g=g:=by
 let⟨s,tm,E⟩:=E;let⟨s',O,G⟩:=G;obtain h|⟨-,⟨-,-,g',-,rfl⟩|⟨-,-,g',v,-,rfl,-⟩⟩:=h.status I
 .
  unfold uG;split
  exact again_running _ h
  rfl
 exact woken_recv_open a a' E
 exact woken_send_open a a' G
def Ã.N6.awake (E:p.r){x}(h:p.N6 x i g w d):awake g:=by
 obtain(h|h)|⟨-,⟨-,-,g',-,rfl⟩|⟨-,-,g',v,-,rfl,-⟩⟩:=h.status E
 exact λt=>oj h
 exact λt=>oj h
 exact λt=>by simp[wo]
 exact λt=>by simp[wo]
def Ã.N6.offers (G:p.r){x}(h:p.N6 x i g w d):xF g p.b sy=[]/\xF g p.cr ss=[]/\(∀k,k∈xF g p.b ss->k=0/\p.d<=i/\p.Y x g)/\∀k,k∈xF g p.cr sy->k=0/\p.d<=i/\p.MN x g w:=by
 obtain h|⟨O,U|V⟩:=h.status G
 .
  let I:g.status≠.blocked:=by obtain h|h:=h<;>rw[h]<;>simp
  refine⟨tU I ..,tU I ..,λk E=>?_,λk E=>?_⟩<;>(rw[tU I]at E;cases E)
 .
  obtain⟨-,-,g',-,rfl⟩:=id U;refine⟨I' ..,by rw[Kp,Ä G.ne],λk E=>?_,λk E=>?_⟩
  rw[Kp,Æ J,Đ]at E;exact⟨E,O,U⟩
  rw[I']at E;cases E
 obtain⟨-,-,g',v,-,rfl,-⟩:=id V;refine⟨by rw[Ks,Ä (ħ G.ne)],Jx ..,λk E=>?_,λk E=>?_⟩
 rw[Jx]at E;cases E
 rw[Ks,Æ J,Đ]at E;exact⟨E,O,V⟩
/-! ### all of them -/
def Ã.h (p:Ã P)(top:Nat)(D:Nat->Wk P):PY:=⟨λl=>∃a,l=.cell a/\p.S a.block,KM p.p,λl=>∃a,l=.cell a/\a.block=p.a,λi=>p.d<=i/\i<top,λi b=>(D i).e b⟩
structure Ã.l (p:Ã P)(gs:Array gR)(w:M)(t:A1)(a b:Nat)(dn:Nat->Option Vl)(Fx K:Nat->Prop)(D:Nat->Wk P):Prop where
 size:gs.size=p.top
 still:p.k w
 chn:∃s tm,w.heap[p.b]? = A (.chan 0 #[] ss s s tm)
 chr:∃s tm,w.heap[p.cr]? = A (.chan 0 #[] ss s s tm)
 keeps:p.L Fx K w
 sit:∀(i:Nat) g,0<i->gs[i]? = A g->p.N6 (D i) i g w (Ax t i)
 own:∀i c,(D i).e c->¬K c/\c<w.heap.size/\p.K.heap.size<=c
 one:∀i j c,(D i).e c->(D j).e c->i=j
 zero:(D 0).b=0
 idle:∀i,¬(0<i/\i<p.top)->∀c,¬(D i).e c
 above:∀j,p.top<=j->Ax t j=0
 past:Cu (p.h p.top D) w.heap.size 0 t
 norel:NoRelease (C p.a 0) t
 cover:∀i,i<a->dn i≠sA\/∃j,p.d<=j/\j<p.top/\(D j).b=1/\(D j).d=i
 count:b+s4 p.top (λj=>(D j).b)=a
 an:a<=p.n
 res:∀i v,dn i=A v->i<p.n/\p.B i v (λc=>Fx c/\¬p.p c) w
def Ã.x (I:p.r){D}(own:∀i c,(D i).e c->p.K.heap.size<=c)(one:∀i j c,(D i).e c->(D j).e c->i=j):(p.h top D).r:=by
 refine⟨λh=>?_,one,λg b l E G=>?_,λg b l E G=>?_,?_,?_,?_⟩
 have:=h.1;have:=I.pos;omega
 rintro⟨a,rfl,O⟩;let G:a.block=b:=G;have:=own g b E;have:=I.slow _ O;omega
 rintro⟨a,rfl,O⟩;let G:a.block=b:=G;have:=own g b E;have:=I.shlow _ O;omega
 .
  rintro l⟨a,rfl,E⟩ ⟨a',G,O⟩;cases G
  exact I.parted _ E O
 rintro l⟨a,rfl,E⟩;exact⟨a,J,E▸I.shwg⟩
 rintro l⟨a,rfl,-⟩;rfl
def NH{D:Nat->Wk P}{x}(h:∀i,¬(0<i/\i<top)->∀c,¬(D i).e c)(G:0<i/\i<top):∀j,¬(0<j/\j<top)->∀c,¬(xp D i x j).e c:=λj E=>by
 let e:j≠i:=λe=>E (e▸G)
 rw[ts D _ e];exact h j E
def Ã.l.ok (E:p.r){gs t a b G K D}(h:p.l gs w t a b G V K D):(p.h p.top D).r:=
 Ã.x E (λi c I=>(h.own i c I).2.2) h.one
end
open Go.ConcN (sumTo upd sumTo_upd upd_ne upd_same sumTo_congr get_map_set get_map_set_same deafBehind_idle)
variable {S se:Nat ->Prop}{e:zs}{i:Nat}{g g':gR}{es:Array zs}
def Τ (S se:Nat->Prop)(e:zs):=(∃a,e=⟨.cell a,ss,ss⟩/\(S a.block\/se a.block))\/(∃a,e=⟨.cell a,sy,ss⟩/\se a.block)\/(∃c wr,e=⟨.obj c,wr,ss⟩/\se c)\/e=⟨.mark .noRoom,ss,sy⟩\/∃f,e=⟨.mark (.extern f),ss,sy⟩
def Τ.touch{b}(h:Τ S se e)(E:(sT e).touch? = A b):b.kind≠.atomic/\((b.write=ss/\∃a,b.loc=.cell a/\S a.block)\/∃k,se k/\Þ k b.loc):=by
 obtain⟨a,rfl,h⟩|⟨a,rfl,h⟩|⟨c,c,rfl,h⟩|rfl|⟨f,rfl⟩:=h
 .
  simp[sT,vw]at E
  subst E;refine⟨sm,?_⟩;obtain h|h:=h
  exact .inl ⟨J,a,J,h⟩
  exact .inr ⟨_,h,J⟩
 .
  simp[sT,vw]at E
  subst E;exact⟨sm,.inr ⟨_,h,J⟩⟩
 cases c<;>simp[sT,vw]at E<;>subst E<;>exact⟨sm,.inr ⟨_,h,J⟩⟩
 simp[sT,vw]at E
 simp[sT,vw]at E
def Τ.u{B}(h:Τ S se e)(E:∀c,S c\/se c->c<B):(sT e).low B:=by
 obtain⟨a,rfl,h⟩|⟨a,rfl,h⟩|⟨c,a,rfl,h⟩|rfl|⟨f,rfl⟩:=h
 exact E _ h
 exact E _ (.inr h)
 cases a<;>exact E c (.inr h)
 exact sk
 exact sk
def Τ.k (h:Τ S se e):e.loc≠.mark .disable/\e.loc≠.mark .enable:=by obtain⟨a,rfl,h⟩|⟨a,rfl,h⟩|⟨c,a,rfl,h⟩|rfl|⟨f,rfl⟩:=h<;>simp
def Τ.h (h:Τ S se e) a:sT e≠.mark (.release a):=by
 obtain⟨a,rfl,h⟩|⟨a,rfl,h⟩|⟨c,c,rfl,h⟩|rfl|⟨f,rfl⟩:=h
 simp[sT]
 simp[sT]
 cases c<;>simp[sT]
 simp[sT]
 simp[sT]
def PQ (h:e.mute=sy) a:sT e≠.mark (.release a):=by
 let⟨E,m,G⟩:=e;cases E<;>simp_all[Event.mute]
 rename_i m
 cases m<;>simp_all[sT]
def Ed n(fn:fI) pos es:∀op∈s9 n fn pos es,op.g=n:=λop E=>by
 obtain⟨e,-,rfl⟩:=sB E;rfl
def AZ{α:Type}{gs:Array α}{g}(h:gs[i]? = A g):=(ω.1 h).1
section
variable {P:tP}{p:Ã P}{gs:Array th}{w w':tz}{t:A1}{a b:Nat}{dn:Nat->Option Value}{Fx K:Nat->Prop}{D:Nat->Wk P}
def Ã.l.stepW (aa:p.r)(h:p.l gs w t a b dn Fx K D){x'}{r9:Nat->Prop}(bc:p.d<=i)(aG:gs[i]? = A g)
  (Y:w.heap.size<=w'.heap.size)(a1:w'.os=w.os/\w'.output=w.output)(ao:∀c,c<w.heap.size->¬(D i).e c->w'.heap[c]? = w.heap[c]?)
  (a0:x'.b=(D i).b)(bd:x'.d=(D i).d)(O:∀c,x'.e c↔(D i).e c\/r9 c)(am:∀c,r9 c->w.heap.size<=c/\c<w'.heap.size)
  (al:∀e∈es,Τ p.S x'.e e)(bb:p.N6 x' i g' w' 0)(fn:fI) pos:
  p.l ((gs.map (uG P g g' w')).setIfInBounds i g') w' (t++s9 i fn pos es) a b dn Fx K (xp D i x'):=by
 let S:=AZ aG;let bg:i≠0:=oe aa.pos
 let a8:=λc E=>ao c (h.keeps.kl c E) λO=>(h.own i c O).1 E
 let a3:Cz K w w':=⟨a8,Y,a1⟩
 let aB:=λc E=>ao c (rZ E h.still.2) λO=>oe (h.own i c O).2.2
 let se:∃s j,w'.heap[p.b]? = A (.chan 0 #[] ss s s j):=aB _ aa.clow.1▸h.chn
 let Q:∃s j,w'.heap[p.cr]? = A (.chan 0 #[] ss s s j):=aB _ aa.clow.2▸h.chr
 let aL:=a3.k λc E=>h.keeps.fk c (h.keeps.sf c (.inl E))
 let a6:Ax (t++s9 i fn pos es) i=Ax t i:=by
  rw[Lw];exact tQ (λe Z=>(al e Z).k) _
 let be:Ax t i=0:=by
  obtain⟨G,-⟩|⟨-,G,-⟩:=h.sit i g N aG
  omega
  exact G
 let R:∀j c,(xp D i x' j).e c->¬K c/\c<w'.heap.size/\p.K.heap.size<=c:=λj c E=>by
  by_cases e:j=i
  .
   subst e;rw[s5]at E;rcases(O c).1 E with G|G
   let⟨U,X,k⟩:=h.own j c G;exact⟨U,rZ X Y,k⟩
   have:=am c G;exact⟨λW=>oe (h.keeps.kl c W),this.2,oe h.still.2⟩
  rw[ts D _ e]at E;let⟨U,X,k⟩:=h.own j c E;exact⟨U,rZ X Y,k⟩
 let a4:∀j k c,(xp D i x' j).e c->(xp D i x' k).e c->j=k:=λj k c G I=>by
  let old:∀j,j≠i->(xp D i x' j).e c->(D j).e c:=λj e G=>by rw[ts D _ e]at G;exact G
  by_cases v:j=i
  .
   by_cases V:k=i
   rw[v,V]
   let aW:=old k V I;subst v;rw[s5]at G;rcases(O c).1 G with G|G
   exact h.one j k c G aW
   have:=am c G;have:=(h.own k c aW).2.1;omega
  let s:=old j v G;by_cases V:k=i
  .
   subst V;rw[s5]at I;rcases(O c).1 I with I|I
   exact h.one j k c s I
   have:=am c I;have:=(h.own j c s).2.1;omega
  exact h.one j k c s (old k V I)
 refine⟨oy h.size,h.still.sees aL,se,Q,⟨h.keeps.fk,h.keeps.sf,h.keeps.kc,λc E=>rZ (h.keeps.kl c E) Y⟩,λj y y s=>?_,R,a4,?_,NH h.idle ⟨N,h.size▸S⟩,λj y=>?_,?_,h.norel.app λop T=>?_,λk W=>?_,?_,h.an,λk v W=>?_⟩
 .
  by_cases e:i=j
  .
   subst e;rw[tg _ _ _ S]at s;cases s
   rw[s5,a6,be];exact bb
  rw[tM _ _ _ _ e]at s;obtain⟨z,a9,rfl⟩:=ė.1 s;let a2:=h.sit j z y a9;rw[a2.woken aa se Q,ts D _ (ħ e),tS t e _ (Ed i _ _ _)];refine a2.stay ⟨λc E=>?_,Y,a1⟩;obtain E|E:=E
  exact aL.1 c E
  exact ao c (h.own j c E).2.1 λO=>e (h.one i j c O E)
 .
  by_cases e:0=i
  omega
  rw[ts D _ e];exact h.zero
 rw[tS t (by rw[h.size]at S;omega) _ (Ed i _ _ _)];exact h.above j y
 .
  let e:p.h p.top (xp D i x')=(p.h p.top D).E i r9:=by
   have:(p.h p.top (xp D i x')).e=((p.h p.top D).E i r9).e:=by
    funext j c
    show(xp D i x' j).e c=((D j).e c\/(j=i/\r9 c))
    by_cases e:j=i
    subst e;rw[s5];simp[O c]
    rw[ts D _ e];simp[e]
   let V:p.h p.top (xp D i x')={(p.h p.top D).E i r9 with e:=(p.h p.top (xp D i x')).e}:=rfl;rw[V,this]
  let a7:=λc E=>(am c E).1
  let U:=((h.past.E (g:=i) (r9:=r9) a7).l Y)
  rw[<-e]at U;refine U.n (g:=i) (Ã.x aa (λj c E=>(R j c E).2.2) a4) ⟨bc,h.size▸S⟩ (Ed i _ _ _) (λop T y s=>?_) (λop T=>?_)
  .
   obtain⟨e,Z,rfl⟩:=sB T;let⟨U,X⟩:=(al e Z).touch s;refine⟨U,IP id (λ⟨k,G,I⟩=>⟨k,?_,I⟩) X⟩;show(xp D i x' i).e k
   rw[s5];exact G
  obtain⟨e,Z,rfl⟩:=sB T;refine(al e Z).u λc E=>?_
  obtain E|E:=E
  exact rZ (aa.slow c E) (rX h.still.2 Y)
  exact(R i c (rj s5 E)).2.1
 obtain⟨e,Z,rfl⟩:=sB T;exact(al e Z).h _
 .
  obtain G|⟨j,a5,bf,s,y⟩:=h.cover k W
  exact .inl G
  refine .inr ⟨j,a5,bf,?_⟩;by_cases e:j=i
  subst e;rw[s5,a0,bd];exact⟨s,y⟩
  rw[ts D _ e];exact⟨s,y⟩
 .
  rw[<-h.count]
  congr 1
  refine sumTo_congr λj _=>?_
  by_cases e:j=i
  subst e;rw[s5];exact a0
  rw[ts D _ e]
 let⟨G,I⟩:=h.res k v W;exact⟨G,I.stay (λ_=>id) (a3.k λc E=>h.keeps.fk c E.1)⟩
def Ã.l.stepL (aw:p.r)(h:p.l gs w t a b dn Fx K D){m}(am:0<i)(ax:i<p.d)(ac:gs[i]? = A g)
  (Z:∀e∈es,Event.mute e=sy)(ap:QuitsD P m (deafBehind (Ax t i) es) g')(fn:fI) pos:
  p.l ((gs.map (uG P g g' w)).setIfInBounds i g') w (t++s9 i fn pos es) a b dn Fx K (xp D i {D i with a:=(m,(D i).a.2)}):=by
 let Y:=AZ ac;let E:∀j,(xp D i {D i with a:=(m,(D i).a.2)} j).e=(D j).e/\(xp D i {D i with a:=(m,(D i).a.2)} j).b=(D j).b/\(xp D i {D i with a:=(m,(D i).a.2)} j).d=(D j).d:=λj=>by
  by_cases e:j=i
  subst e;rw[s5];exact⟨J,J,J⟩
  rw[ts D _ e];exact⟨J,J,J⟩
 refine⟨oy h.size,h.still,h.chn,h.chr,h.keeps,λj y V U=>?_,λj c k=>h.own j c (by rw[(E j).1]at k;exact k),λj k c O y=>h.one j k c (by rw[(E j).1]at O;exact O) (by rw[(E k).1]at y;exact y),(E 0).2.1▸h.zero,NH h.idle ⟨am,h.size▸Y⟩,λj V=>?_,?_,h.norel.app λc G=>?_,λk X=>?_,?_,h.an,h.res⟩
 .
  by_cases e:i=j
  .
   subst e;rw[tg _ _ _ Y]at U;cases U
   rw[s5,Lw];obtain⟨-,c,y,-⟩|⟨c,-⟩:=h.sit i g V ac
   exact .inl ⟨ax,c,y,ap⟩
   omega
  rw[tM _ _ _ _ e]at U;obtain⟨z,y,rfl⟩:=ė.1 U;let c:=h.sit j z V y;rw[c.woken aw h.chn h.chr,ts D _ (ħ e),tS t e _ (Ed i _ _ _)];exact c
 rw[tS t (by rw[h.size]at Y;omega) _ (Ed i _ _ _)];exact h.above j V
 .
  let e:p.h p.top (xp D i {D i with a:=(m,(D i).a.2)})=p.h p.top D:=by
   have:(p.h p.top (xp D i {D i with a:=(m,(D i).a.2)})).e=(p.h p.top D).e:=by
    funext j
    exact(E j).1
   let c:p.h p.top (xp D i {D i with a:=(m,(D i).a.2)})={p.h p.top D with e:=(p.h p.top (xp D i {D i with a:=(m,(D i).a.2)})).e}:=rfl;rw[c,this]
  rw[e];refine h.past.v (λc G=>?_) ?_ (λc G=>?_)
  obtain⟨e,I,rfl⟩:=sB G;exact touch_mute (Z e I)
  rw[tS t N _ (Ed i _ _ _)];exact h.past.h
  obtain⟨e,I,rfl⟩:=sB G;exact low_mute (Z e I) _
 obtain⟨e,I,rfl⟩:=sB G;exact PQ (Z e I) _
 .
  obtain O|⟨j,y,z,c,G⟩:=h.cover k X
  exact .inl O
  exact .inr ⟨j,y,z,(E j).2.1▸c,sL⟩
 rw[<-h.count];simp_all
end
open Go.ConcN (sumTo upd sumTo_upd upd_ne upd_same sumTo_congr get_map_set get_map_set_same deafBehind_idle)
variable {g:gR}{c j s:Nat}{tm:Bool}
section
variable {P:tP}{p:Ã P}{gs:Array th}{w w':tz}{t:A1}{a b:Nat}{dn:Nat->Option Value}{Fx K:Nat->Prop}{D:Nat->Wk P}
def Ã.l.step0 (O:p.r)(h:p.l gs w t a b dn Fx K D){g':gR}{es}(G:eD Fx p.p K w w' es)(fn:fI) pos:p.l ((gs.map (uG P g g' w')).setIfInBounds 0 g') w' (t++s9 0 fn pos es) a b dn Fx (ķ K w w') D:=by
 let e:=λc E=>G.d c (h.keeps.kl c (h.keeps.fk c E)) (.inl E)
 let se:Cz Fx w w':=⟨e,G.h,G.p⟩
 let L:=se.k λc E=>h.keeps.sf c (.inl E)
 let z:∀c,c<p.K.heap.size->c<w.heap.size:=λc E=>rZ E h.still.2
 let r9:∃s c,w'.heap[p.b]? = A (.chan 0 #[] ss s s c):=G.d _ (z _ O.clow.1) (.inr h.keeps.kc.1)▸h.chn
 let Q:∃s c,w'.heap[p.cr]? = A (.chan 0 #[] ss s s c):=G.d _ (z _ O.clow.2) (.inr h.keeps.kc.2)▸h.chr
 let r7:∀W∈s9 0 fn pos es,W.act.low w'.heap.size:=λW Y=>by
  obtain⟨e,U,rfl⟩:=sB Y;obtain⟨S,X,rfl,I,V,T,Z⟩:=G.g e U;exact V
 refine⟨oy h.size,h.still.sees L,r9,Q,⟨λc E=>.inl (h.keeps.fk c E),h.keeps.sf,⟨λE=>?_,λE=>?_⟩,λc E=>?_⟩,λj y y s=>?_,λj c E=>?_,h.one,h.zero,h.idle,λj y=>?_,?_,h.norel.app λW Y=>?_,h.cover,h.count,h.an,λk v R=>?_⟩
 .
  obtain E|E:=E
  exact h.keeps.kc.1 E
  have:=z _ O.clow.1;omega
 .
  obtain E|E:=E
  exact h.keeps.kc.2 E
  have:=z _ O.clow.2;omega
 .
  obtain E|E:=E
  exact rZ (h.keeps.kl c E) G.h
  exact E.2
 .
  let e:0≠j:=N;rw[tM _ _ _ _ e]at s;obtain⟨z,k,rfl⟩:=ė.1 s;let c:=h.sit j z y k;rw[c.woken O r9 Q,tS t e _ (Ed 0 _ _ _)];refine c.stay ⟨λc E=>?_,G.h,G.p⟩;obtain E|E:=E
  exact L.1 c E
  exact G.d c (h.own j c E).2.1 (.inr (h.own j c E).1)
 .
  let⟨I,V,T⟩:=h.own j c E;refine⟨?_,rZ V G.h,T⟩;rintro(Z|Z)
  exact I Z
  omega
 rw[tS t (oi O.pos O.top) _ (Ed 0 _ _ _)];exact h.above j y
 .
  refine(h.past.l G.h).z (h.ok O) (Ed 0 _ _ _) (λW Y y s=>?_) ?_ r7
  .
   obtain⟨e,U,rfl⟩:=sB Y;obtain⟨S,X,rfl,I,V,T,Z⟩:=G.g e U;simp[sT,vw]at s
   subst s;refine⟨?_,?_,?_⟩
   .
    rintro⟨a',e',c⟩;cases e'
    cases X with
    |false=>rfl
    |true=>cases T rfl (h.keeps.sf _ (.inl c))
   .
    rintro⟨a',e',c⟩;cases e'
    cases Z c
   intro j k R c;have c:=c;subst c;obtain⟨c,e,e⟩:=h.own j _ R;obtain I|I:=I
   exact c I
   omega
  rw[Lw];rw[tQ λe U=>?_]
  exact h.past.h
  obtain⟨S,X,rfl,-⟩:=G.g e U;simp
 obtain⟨e,U,rfl⟩:=sB Y;obtain⟨S,X,rfl,-⟩:=G.g e U;simp[sT]
 let⟨I,V⟩:=h.res k v R;exact⟨I,V.stay (λ_=>id) (se.k λc E=>E.1)⟩
def ã{w:M}{e}(h:e≠c) cap(E:Array Vl) G s r tm:(w.setChan c cap E G s r tm).heap[e]? = w.heap[e]?:=by simp[zc,û (ħ h)]
def ù{w:M}(h:c<w.heap.size) cap(E:Array Vl) G s r tm:(w.setChan c cap E G s r tm).heap[c]? = A (.chan cap E G s r tm):=by simp[zc,h]
def ø{w:M} cap(E:Array Vl) G s r tm:(w.setChan c cap E G s r tm).heap.size=w.heap.size:=by simp[zc]
def XI{h}{U:fI}{I}{O:fI}{G k cap op}(E:op∈met h j U I O G c k cap){a}:op.act≠.mark (.release a):=by
 simp[met]at E
 obtain rfl|rfl|rfl|rfl:=E<;>simp
def Ã.l.handed (aa:p.r)(h:p.l gs w t a b dn Fx K D)   (aC:p.d<= j)(am:j<p.top)(bg:(D j).b=0)(a9:∀c,¬(D j).e c)(aG:Ax t j=0)(a6:p.N5 g)(an:a<p.n)
    (aw:w.heap[p.b]? = A (.chan 0 #[] ss s s tm)) {Z:Array gR}(a1:Z.size=gs.size)(aL:∀k,k≠0->k≠j->Z[k]? = gs[k]?)
  (a7:Z[j]? = A (g.finishComm P #[yw p.b p.D] (.recv sy) 0 (.q a) sy))(f0:fI) ai(ak:fI) al d:
  ∃x,p.l Z ((w.at d).setChan p.b 0 #[] ss (s+1) (s+1) tm) (t++met 0 j f0 ai ak al p.b s 0) (a+1) b dn Fx K (xp D j x):=by
 let⟨m,c,r7,L⟩:=aa.got g a a6 an;refine⟨⟨1,(m+61,sA),λ_=>False,a⟩,?_⟩;let r9:j≠0:=oe aa.pos
 let R:=AZ aw;let l:∀e,e≠p.b->((w.at d).setChan p.b 0 #[] ss (s+1) (s+1) tm).heap[e]? = w.heap[e]?:=λe O=>ã O ..
 let U:((w.at d).setChan p.b 0 #[] ss (s+1) (s+1) tm).heap.size=w.heap.size:=ø ..;let W:∀e:Nat->Prop,¬e p.b->Cz e w ((w.at d).setChan p.b 0 #[] ss (s+1) (s+1) tm):=λe v=>⟨λe O=>l e λx=>v (x▸O),js U.symm,J,J⟩
 let Q:=λe=>h.keeps.kc.1 (h.keeps.fk _ (h.keeps.sf _ (.inl e)))
 let S:∀k,Ax (t++met 0 j f0 ai ak al p.b s 0) k=Ax t k:=λk=>Kh (met_quiet 0 j f0 ai ak al p.b s 0 k)
 let T:∀k e,k≠j->(xp D j (⟨1,(m+61,sA),λ_=>False,a⟩:Wk P) k).e e->(D k).e e:=λk e G E=>by rw[ts D _ G]at E;exact E
 let X:∀e,¬(xp D j (⟨1,(m+61,sA),λ_=>False,a⟩:Wk P) j).e e:=λe E=>by rw[s5]at E;exact E
 refine⟨a1.trans h.size,h.still.sees (W _ Q),⟨s+1,tm,ù R ..⟩,l _ (ħ aa.ne)▸h.chr,⟨h.keeps.fk,h.keeps.sf,h.keeps.kc,λc aw=>U▸h.keeps.kl c aw⟩,λk y G I=>?_,λk e O=>?_,λk l e E V=>?_,?_,NH h.idle ⟨N,am⟩,λk G=>rj S (h.above k G),?_,h.norel.app λse Y=>XI Y,λk G=>?_,?_,an,λk v G=>?_⟩
 .
  rw[S];by_cases e:k=j
  .
   subst e;rw[a7]at I;cases I
   rw[s5,aG];exact .inr ⟨aC,J,.inr (.inr (.inl ⟨J,an,λ_=>id,m,c,J,r7,L⟩))⟩
  rw[aL k N e]at I;rw[ts D _ e];refine(h.sit k y G I).stay (W _ ?_);rintro(E|E)
  exact Q E
  have:=(h.own k _ E).2.2;have:=aa.clow.1;omega
 .
  by_cases I:k=j
  subst I;cases X e O
  rw[U];exact h.own k e (T k e I O)
 .
  by_cases I:k=j
  subst I;cases X e E
  by_cases y:l=j
  subst y;cases X e V
  exact h.one k l e (T k e I E) (T l e y V)
 rw[ts D _ (ħ r9)];exact h.zero
 .
  let e:p.h p.top (xp D j (⟨1,(m+61,sA),λ_=>False,a⟩:Wk P))=p.h p.top D:=by
   have:(p.h p.top (xp D j (⟨1,(m+61,sA),λ_=>False,a⟩:Wk P))).e=(p.h p.top D).e:=by
    funext k e
    by_cases I:k=j
    subst I;exact propext ⟨λE=>absurd E (X e),λE=>absurd E (a9 e)⟩
    show(xp D j _ k).e e=(D k).e e
    rw[ts D _ I]
   let l:p.h p.top (xp D j (⟨1,(m+61,sA),λ_=>False,a⟩:Wk P))={p.h p.top D with e:=(p.h p.top (xp D j (⟨1,(m+61,sA),λ_=>False,a⟩:Wk P))).e}:=rfl;rw[l,this]
  rw[e,U];refine h.past.v (met_mute 0 j f0 ai ak al p.b s 0) ((S 0).trans h.past.h) λse Y=>?_
  simp[met,ĺ,sV,ġ,ĝ]at Y;obtain rfl|rfl|rfl|rfl:=Y<;>exact R
 .
  obtain e|l:=nR k a
  .
   obtain E|⟨l,I,Q,R,O⟩:=h.cover k e
   exact .inl E
   let y:l≠j:=λe=>by subst e;omega
   exact .inr ⟨l,I,Q,ts D _ y▸⟨R,O⟩⟩
  obtain rfl:k=a:=N;exact .inr ⟨j,aC,am,by rw[s5];exact⟨J,J⟩⟩
 .
  let e:=sumTo_upd D (⟨1,(m+61,sA),λ_=>False,a⟩:Wk P) Wk.b am;have:=h.count;dsimp only at e
  omega
 let⟨E,V⟩:=h.res k v G;exact⟨E,V.stay (λ_=>id) (W _ λe=>h.keeps.kc.1 (h.keeps.fk _ e.1))⟩
def Ã.l.took (V:p.r)(h:p.l gs w t a b dn Fx K D)   {v}(bh:p.d<= j)(aC:j<p.top)(bm:(D j).b=1)(bl:(D j).d<p.n)(a1:p.B (D j).d v (λc=>p.S c\/(D j).e c) w)(ax:Ax t j=0)(a9:p.v (p.i (D j).d v) g)
    (E:w.heap[p.cr]? = A (.chan 0 #[] ss s s tm)) {ac:Array gR}(a6:ac.size=gs.size)(aW:∀k,k≠0->k≠j->ac[k]? = gs[k]?)
  (bb:ac[j]? = A (g.finishComm P #[F9 p.cr (p.i (D j).d v) p.zr] .send 0 uu ss))(f0:fI) ap(aq:fI) ao d:
  ∃x,p.l ac ((w.at d).setChan p.cr 0 #[] ss (s+1) (s+1) tm) (t++met j 0 aq ao f0 ap p.cr s 0) a (b+1) (xp dn (D j).d (A v)) (λc=>Fx c\/(D j).e c) (λc=>K c\/(D j).e c) (xp D j x):=by
 let⟨m,g',r7,se⟩:=V.sent _ g a9;refine⟨⟨0,(m+1,sA),λ_=>False,0⟩,?_⟩;let L:j≠0:=oe V.pos
 let r9:=AZ E;let l:∀e,e≠p.cr->((w.at d).setChan p.cr 0 #[] ss (s+1) (s+1) tm).heap[e]? = w.heap[e]?:=λe U=>ã U ..
 let T:((w.at d).setChan p.cr 0 #[] ss (s+1) (s+1) tm).heap.size=w.heap.size:=ø ..;let W:∀e:Nat->Prop,¬e p.cr->Cz e w ((w.at d).setChan p.cr 0 #[] ss (s+1) (s+1) tm):=λe u=>⟨λe U=>l e λx=>u (x▸U),js T.symm,J,J⟩
 let Q:=λe=>h.keeps.kc.2 (h.keeps.fk _ (h.keeps.sf _ (.inl e)))
 let R:∀k c,(D k).e c->c≠p.b/\c≠p.cr:=λk c E=>by
  have:=(h.own k c E).2.2;have:=V.clow;exact⟨N,N⟩
 let Z:∀k,Ax (t++met j 0 aq ao f0 ap p.cr s 0) k=Ax t k:=λk=>Kh (met_quiet j 0 aq ao f0 ap p.cr s 0 k)
 let Y:∀k e,k≠j->(xp D j (⟨0,(m+1,sA),λ_=>False,0⟩:Wk P) k).e e->(D k).e e:=λk e I G=>by rw[ts D _ I]at G;exact G
 let S:∀e,¬(xp D j (⟨0,(m+1,sA),λ_=>False,0⟩:Wk P) j).e e:=λe G=>by rw[s5]at G;exact G
 refine⟨a6.trans h.size,h.still.sees (W _ Q),l _ V.ne▸h.chn,⟨s+1,tm,ù r9 ..⟩,⟨λc E=>IP (h.keeps.fk c) id E,λc E=>.inl (h.keeps.sf c E),⟨λE=>?_,λE=>?_⟩,λc E=>?_⟩,λk y I O=>?_,λk e U=>?_,λk l e G X=>?_,?_,NH h.idle ⟨N,aC⟩,λk I=>rj Z (h.above k I),?_,h.norel.app λe e=>XI e,λk I=>?_,?_,h.an,λk u I=>?_⟩
 .
  obtain E|E:=E
  exact h.keeps.kc.1 E
  exact(R j _ E).1 J
 .
  obtain E|E:=E
  exact h.keeps.kc.2 E
  exact(R j _ E).2 J
 .
  rw[T];obtain E|E:=E
  exact h.keeps.kl c E
  exact(h.own j c E).2.1
 .
  rw[Z];by_cases e:k=j
  .
   subst e;rw[bb]at O;cases O
   rw[s5,ax];exact .inr ⟨bh,J,.inl ⟨J,λ_=>id,m,g',J,r7,se⟩⟩
  rw[aW k N e]at O;rw[ts D _ e];refine(h.sit k y I O).stay (W _ ?_);rintro(G|G)
  exact Q G
  exact(R k _ G).2 J
 .
  by_cases O:k=j
  subst O;cases S e U
  rw[T];let⟨y,G,se⟩:=h.own k e (Y k e O U);refine⟨?_,G,se⟩;rintro(G|G)
  exact y G
  exact O (h.one k j e (Y k e O U) G)
 .
  by_cases O:k=j
  subst O;cases S e G
  by_cases Z:l=j
  subst Z;cases S e X
  exact h.one k l e (Y k e O G) (Y l e Z X)
 rw[ts D _ (ħ L)];exact h.zero
 .
  let e:p.h p.top (xp D j (⟨0,(m+1,sA),λ_=>False,0⟩:Wk P))=(p.h p.top D).drop j:=by
   have:(p.h p.top (xp D j (⟨0,(m+1,sA),λ_=>False,0⟩:Wk P))).e=((p.h p.top D).drop j).e:=by
    funext k e
    by_cases O:k=j
    subst O;exact propext ⟨λG=>absurd G (S e),λG=>absurd J G.2⟩
    show(xp D j _ k).e e=((D k).e e/\k≠j)
    rw[ts D _ O];simp[O]
   let l:p.h p.top (xp D j (⟨0,(m+1,sA),λ_=>False,0⟩:Wk P))={(p.h p.top D).drop j with e:=(p.h p.top (xp D j (⟨0,(m+1,sA),λ_=>False,0⟩:Wk P))).e}:=rfl;rw[l,this]
  rw[e,T];exact h.past.F ax aq ao f0 ap s 0 r9
 .
  obtain G|⟨l,se,L,y,e⟩:=h.cover k I
  .
   by_cases Y:k=(D j).d
   subst Y;rw[s5];exact .inl sm
   rw[ts dn _ Y];exact .inl G
  by_cases Z:l=j
  subst Z;subst e;rw[s5];exact .inl sm
  exact .inr ⟨l,se,L,ts D _ Z▸⟨y,e⟩⟩
 .
  let e:=sumTo_upd D (⟨0,(m+1,sA),λ_=>False,0⟩:Wk P) Wk.b aC;have:=h.count;dsimp only at e
  omega
 by_cases Y:k=(D j).d
 .
  subst Y;rw[s5]at I;cases I
  refine⟨bl,(a1.stay (Z':=λc=>(Fx c\/(D j).e c)/\¬p.p c) (λc E=>⟨IP (λx=>h.keeps.sf c (.inl x)) id E,λe=>E.elim (λx=>V.parted c x e) λx=>oi (h.own j c x).2.2 (V.shlow c e)⟩) (W _ ?_))⟩;rintro(G|G)
  exact Q G
  exact(R j _ G).2 J
 rw[ts dn _ Y]at I;let⟨G,X⟩:=h.res k u I;exact⟨G,X.stay (λ_ E=>⟨.inl E.1,E.2⟩) (W _ λe=>h.keeps.kc.2 (h.keeps.fk _ e.1))⟩
end
end Go.Proofs.YtaoikkhlnhfkfaaGreatDoor
