import Derived.Test.YtaoikkhlnhfkfaaGreatDoorU00
import Derived.Test.YtaoikkhlnhfkfaaGreatDoorU27
set_option linter.defProp false
set_option linter.unusedSimpArgs false
set_option linter.unusedVariables false
namespace Go.Proofs.YtaoikkhlnhfkfaaGreatDoor
open Go renaming Event->zs,Program->tP,Value->xn,World->tz,TypeId->GF,Goroutine->th,Trace->A1,deafBehind->tD,stepG->tt,runT->Ly,Frame->vh,yielded->wE,execOp->vf
open MemAct renaming ofEvent->sT
open Option renaming some->A
open ConcR renaming Bk->yp,stA->B3,WgAt->yt
open ConcN renaming bk_cell->yl,Mode->uE,phi->Kv,get_map_set_same->tg,deafBehind_idle->tQ,cnt->s6,get_map_set->tM,sumTo->s4,WgLive->tA,upd_same->s5,upd_ne->ts
open Bool renaming true->sy,false->ss
open MemOp renaming ofEvents->s9
open Conc renaming mem_ofEvents->sB,Deaf_own->Lw,runT_crowd_go->wN,crowd->uz,aside_setCell->xf,Deaf_other->tS,rcase->yw,Deaf->Ax,Deaf_quiet->Kh,woken->uG,parked->wo,offersAt_of_not_blocked->tU,stepG_cond->vm
open Nat renaming lt_wfRel->C2
open Conc.Goes renaming running->yv
open Prod.Lex renaming left->Dd,right->Cp
open Region renaming wanted->tn
open _root_.Array renaming replicate->wW
open Go.Conc
open Go.ConcN (sumTo upd sumTo_upd upd_ne upd_same sumTo_congr get_map_set get_map_set_same deafBehind_idle le_sumTo WD cnt Vc phi isOpen isW3 isFin OpenSt AllQuit CTag WSit RW AtR0 AtK1 RelBy WgLive PayAt Has phi_mono phi_retag pend Vc_upd Vc_le others_uncounted bk_cell)
open Go.ConcR (KK WgAt stA smA rd wr mk Payload Bk DC0 ofEvent_loc_mark bk_of_mute)
variable {Z wg:Nat}{e:zs}{es:Array zs}{sl:Option (Nat×Nat)}
def jz (E:Nat)(e:zs):=(∀b,(sT e).touch? = A b->(∃a,b.loc=.cell a/\a.block=E)/\b.kind≠.plain)/\(∀B,E<B->(sT e).low B)/\∀a,sT e≠.mark (.release a)
def Lr (h:yp Z e):jz Z e:=⟨λb E=>⟨(V4 h E).1,oj (V4 h E).2⟩,λB G=>ug h G,λa=>ig h a⟩
def nI{q:Prop}(h:q:=by
 refine⟨⟨λb E=>?_,λB G=>G,λa=>?_⟩,sm,sm⟩
 .
  simp[MemAct.ofEvent,MemAct.touch?]at E
  subst E;exact⟨⟨_,rfl,rfl⟩,sm⟩
 show(MemAct.mark _)≠_
 simp):q:=h
def Rj (h:Ļ Z e):jz Z e/\e.loc≠.mark .disable/\e.loc≠.mark .enable:=by
 obtain rfl|rfl:=h
 exact nI
 exact nI
def um:∀e∈#[rd (B3 wg),wr (B3 wg)],jz wg e:=by
 intro e Z;simp at Z
 obtain rfl|rfl:=Z<;>exact Lr (yl _ _ J)
def zk:∀e∈#[rd (B3 wg)],jz wg e:=by
 intro e Z;simp at Z
 subst Z;exact Lr (yl _ _ J)
section
variable {P:tP}{Post:xn->tz->Prop}
def bI{F:M->Prop}{H}{g':gR}:∀{n}{g:gR}{w:M},Å P sy F (λ_=>False) n g g'->(∀d,F (w.at d))->(∀d,Nn P Post H g' (w.at d))->Nn P Post H g w
 |0,g,w,E,_,G=>by
  cases E
  exact G _
 |n+1,g,w,⟨V,x,e,U,O,E⟩,I,G=>by
  obtain rfl:e= #[]:=by
   let⟨l⟩:=e;cases l with
   |nil=>rfl
   |cons e l=>exact(U e sm).elim
  exact pf V (λd=>O _ (I d)) λd=>bI E I G
end
section
variable {P:tP}{p:Ã P}{ty:GF}{An Nx:th->Prop}{Post:xn->tz->Prop} [Payload] {sd:Nat}{val:xn}{wc:tz}{gs:Array th}{w w':tz}{t:A1}{D:Nat->WD}{pre:Nat->Nat}{d0 f0:Nat}{tag:CTag}{a:th}{st sm:Int}
def Ã.u.past0 (E:p.r)(h:p.u ty sd val wc gs w t D pre d0)(U:∀e∈es,jz p.a e)(fn:fI) pos:Cu (p.h p.top (ń P)) w.heap.size (tD d0 es) (t++s9 0 fn pos es):=by
 refine h.past.z (Ã.x E (λ_ _ I=>I.elim) λ_ _ _ I=>I.elim) (Ed _ _ _ _) (λG O b ai=>?_) ?_ (λG O=>?_)
 .
  obtain⟨e,G,rfl⟩:=sB O;let⟨⟨ad,ab,X⟩,I⟩:=(U e G).1 b ai;refine⟨?_,λ_=>I,λ_ _ Z=>Z.elim⟩;intro⟨a',V,Y⟩;rw[ab]at V;cases V
  rw[X]at Y;cases E.parted _ Y E.shwg
 rw[Lw,h.past.h]
 obtain⟨e,G,rfl⟩:=sB O;exact(U e G).2.1 _ (h.wlt E)
def Ã.u.go0 (G:p.r)(Y:sd≠p.a)(O:gs[0]? = A a)(h:p.u ty sd val wc gs w t D pre d0){a':gR}(ac:tt P sy a w=.go a' w' es){tag' f' st' sm'}
  (ai:∀b,b≠p.a->w'.heap[b]? = w.heap[b]?)(U:w'.heap.size=w.heap.size)(Z:w'.os=w.os/\w'.output=w.output)(E:yt ty p.a w' st' sm')(I:∀e∈es,jz p.a e)(ab:Z0 P ty p.a An Nx tag' f' (tD d0 es) a')(V:uE (p.top-1) D tag' st' sm')
  (ak:Kv (p.top-1) (Vc (p.top-1) D) tag'<Kv (p.top-1) (Vc (p.top-1) D) tag\/(Kv (p.top-1) (Vc (p.top-1) D) tag'=Kv (p.top-1) (Vc (p.top-1) D) tag/\f'<f0)):p.z ty An Nx sd val wc gs w t sl 0 D pre tag f0:=by
 refine⟨_,w',_,wN (P:=P) (sl:=sl) (i:=0) O (show tt P (0==0) a w=_ from ac),_,?_,D,pre,tag',f',tD d0 es,a',st',sm',tg _ _ _ (AZ O),ab,h.step0 G Y ai U Z ⟨_,_,E⟩ (U▸h.past0 G I ..) (h.norel.app λi i=>?_),E,V,J⟩
 omega
 obtain⟨e,X,rfl⟩:=sB i;exact(I e X).2.2 _
def oV (hp:p.r)(hC:sd≠p.a)(hJ:p.top-p.d<2147483648)(hAn:∀g,An g->∃n,ú P ty p.a (eU P ty p.a An Nx) n g)
  (hfin:∀g w,Nx g->(∀b,b≠p.a->w.heap[b]? = wc.heap[b]?)->w.heap.size=wc.heap.size->yt ty p.a w 0 0->p.k w->Nn P Post p.p g w)
  (ha:gs[0]? = A a)(hz:Z0 P ty p.a An Nx tag f0 d0 a)(h:p.u ty sd val wc gs w t D pre d0)(hwg:yt ty p.a w st sm)(hmode:uE (p.top-1) D tag st sm) {sl}(hrun:a.status=.running):
  p.z ty An Nx sd val wc gs w t sl 0 D pre tag f0\/∃gs' w' ops,Ly P (uz gs w sl) 0=(.next (uz gs' w' sl),ops)/\Cc P Post (uz gs' w' sl) (t++ops):=by
 have d:=Vc_le (p.top-1) D;have hVb:=h.vc hp;have hpd:=hz.pend
 -- a walk's step
 have walk:∀{K:th ->Prop}{n:Nat}{tag':CTag}{f':Nat},ú P ty p.a K (n+1) a ->(∀g',ú P ty p.a K n g' ->Z0 P ty p.a An Nx tag' f' d0 g') ->uE (p.top - 1) D tag' st sm ->
   (Kv (p.top-1) (Vc (p.top-1) D) tag'<Kv (p.top-1) (Vc (p.top-1) D) tag\/(Kv (p.top-1) (Vc (p.top-1) D) tag'=Kv (p.top-1) (Vc (p.top-1) D) tag/\f'<f0))->p.z ty An Nx sd val wc gs w t sl 0 D pre tag f0:=by
  rintro K n tag' f'⟨U,⟨-,V,d,X,hst,d⟩,j⟩hz' T hlt;refine h.go0 hp hC ha (hst w h.live.2) (λ_ _=>J) J ⟨J,J⟩ hwg (λe Z=>(Rj (X e Z)).1) (tag':=tag') (f':=f') ?_ T hlt;rw[tQ λe Z=>(Rj (X e Z)).2];exact hz' V ⟨U,d,j⟩
 have same:∀{K:th ->Prop},ú P ty p.a K f0 a ->(∀n g',ú P ty p.a K n g' ->Z0 P ty p.a An Nx tag n d0 g') ->(∀g',K g' ->a=g' ->p.z ty An Nx sd val wc gs w t sl 0 D pre tag f0\/∃gs' w' ops,Ly P (uz gs w sl) 0=(.next (uz gs' w' sl),ops)/\Cc P Post (uz gs' w' sl) (t++ops)) ->
   p.z ty An Nx sd val wc gs w t sl 0 D pre tag f0\/∃gs' w' ops,Ly P (uz gs w sl) 0=(.next (uz gs' w' sl),ops)/\Cc P Post (uz gs' w' sl) (t++ops):=λ{K} d hz' hst=>by
  cases f0 with
  |zero=>
   let⟨g',e,j⟩:=d;exact hst g' j e
  |succ n=>exact .inl (walk d (hz' n) hmode (.inr ⟨J,ō n⟩))
 have opn:isOpen tag->OpenSt (p.top-1) D/\st=((Vc (p.top-1) D:Nat):Int)*KK/\sm=0/\(∀W,tag=.w2 W->Vc (p.top-1) D<=W/\1<=W):=λd=>by
  cases hmode with
  |opn k K y=>exact⟨K,hpd▸rfl,J,y⟩
  |reg k _ _=>cases tag<;>first|exact k.elim|exact d.elim
  |last L k _ _ _=>cases tag<;>first|exact k.elim|exact d.elim
  |sema _=>exact d.elim
  |fin k _=>cases tag<;>first|exact k.elim|exact d.elim
 have finm:isFin tag->AllQuit (p.top-1) D/\st=0/\sm=0:=λd=>by
  cases hmode with
  |opn k _ _=>cases tag<;>first|exact k.elim|exact d.elim
  |reg k _ _=>cases tag<;>first|exact k.elim|exact d.elim
  |last L k _ _ _=>cases tag<;>first|exact k.elim|exact d.elim
  |sema _=>exact d.elim
  |fin _ K=>exact⟨K,J,J⟩
 cases tag<;>simp only[Z0]at hz
 case kd=>
  obtain⟨rfl,hz⟩:=hz;refine same hz (λn g' Z=>⟨J,Z⟩) λg' j e=>?_
  subst e;obtain⟨-,V,hst,n,d⟩:=j;let⟨n',hw'⟩:=d.u hAn;obtain⟨K,y,Y,-⟩:=opn sk;refine .inl (h.go0 hp hC ha (hst w h.live.2) (λ_ _=>J) J ⟨J,J⟩ hwg (λe X=>?_) (tag':=.w1) (f':=n') ⟨J,hw'⟩ ?_ (.inl (by simp only[Kv];omega)))
  .
   simp at X
   subst X;exact Lr (.inl J)
  rw[y,Y];exact .opn sk K (nofun)
 case w1=>
  obtain⟨rfl,hz⟩:=hz;refine same hz (λn g' Z=>⟨J,Z⟩) λg' j e=>?_
  subst e;obtain⟨K,y,Y,-⟩:=opn sk;rw[y,Y]at hwg;let⟨V,hst,hz0,hnz⟩:=j.2 w (Vc (p.top-1) D) N hwg;by_cases k:Vc (p.top-1) D=0
  .
   let⟨n,d⟩:=hz0 k;refine .inl (h.go0 hp hC ha hst (λ_ _=>rfl) rfl ⟨rfl,rfl⟩ (st':=0) (sm':=0) (by rw[k]at hwg;simpa using hwg) zk (tag':=.ke) (f':=n) ⟨J,d⟩ (.fin sk λi S=>?_) (.inl (by simp only[Kv];omega)));have:=K i S;let d:s6 (D i)=0:=by
    have:=le_sumTo (f:=λx=>s6 (D x)) S;simp only[Vc]at k;omega
   simp only[s6]at d;split at d<;>omega
  let⟨n,d⟩:=hnz k;refine .inl (h.go0 hp hC ha hst (λ_ _=>rfl) rfl ⟨rfl,rfl⟩ hwg zk (tag':=.w2 (Vc (p.top-1) D)) (f':=n) ⟨J,d⟩ ?_ (.inl (by simp only[Kv];omega)));exact .opn sk K (λW e=>by cases e;omega)
 case w2 W=>
  obtain⟨rfl,hz⟩:=hz;refine same hz (λn g' Z=>⟨J,Z⟩) λg' j e=>?_
  subst e;let⟨K,y,Y,d⟩:=opn sk;obtain⟨e,e⟩:=d W J;rw[y,Y]at hwg;let⟨hhit,hmiss⟩:=j.2 w (Vc (p.top-1) D) N hwg;by_cases k:Vc (p.top-1) D=W
  let⟨V,hst,n,d⟩:=hhit k;refine .inl (h.go0 hp hC ha hst (xf w (B3 p.a) _).block (xf w (B3 p.a) _).size ⟨rfl,rfl⟩ (hwg.setSt _) um (tag':=.w3) (f':=n+1) ⟨J,n,J,d⟩ (.reg sk K N) (.inl (by simp only[Kv];omega)))
  let⟨V,hst,n,d⟩:=hmiss k;let⟨n',hw'⟩:=d.u hAn;refine .inl (h.go0 hp hC ha hst (λ_ _=>rfl) rfl ⟨rfl,rfl⟩ hwg zk (tag':=.w1) (f':=n') ⟨J,hw'⟩ (.opn sk K (nofun)) (.inl (by simp only[Kv];omega)))
 case w3=>
  obtain⟨rfl,f',rfl,hz⟩:=hz;cases f' with
  |succ n=>exact .inl (walk hz (tag':=.w3) (f':=n+1) (λg' Z=>⟨J,n,J,Z⟩) hmode (.inr ⟨J,N⟩))
  |zero=>
   let⟨g',e,j⟩:=hz;subst e;let wait:sm=0->uE (p.top-1) D .blk st sm->p.z ty An Nx sd val wc gs w t sl 0 D pre .w3 (0+1):=λhsm T=>by
    subst hsm;exact h.go0 hp hC ha (j.2.2.1 w st hwg) (λ_ _=>rfl) rfl ⟨rfl,rfl⟩ hwg sm (tag':=.blk) (f':=0) ⟨J,J,a,j,J⟩ T (.inr ⟨J,N⟩)
   cases hmode with
   |opn k _ _=>exact k.elim
   |reg k K y=>exact .inl (wait J (.reg sk K y))
   |last L k K y Y=>exact .inl (wait J (.last L sk K y Y))
   |sema K=>
    let⟨V,hst,n,d⟩:=j.2.2.2 w hwg;refine .inl (h.go0 hp hC ha hst (xf w (smA p.a) _).block (xf w (smA p.a) _).size ⟨J,J⟩ (hwg.setSm 0) (λe X=>?_) (tag':=.w4) (f':=n) ⟨by simp[tD,semEvents],d⟩ (.fin sk K) (.inl (by simp only[Kv];omega)));simp[semEvents]at X
    obtain rfl|rfl|rfl|rfl:=X
    exact Lr (.inl J)
    exact Lr (yl _ _ J)
    exact Lr (yl _ _ J)
    exact Lr (.inr (.inl J))
   |fin k _=>exact k.elim
 case blk=>
  obtain⟨-,-,g',-,rfl⟩:=hz;cases hrun
 case w4=>
  obtain⟨rfl,hz⟩:=hz;refine same hz (λn g' Z=>⟨J,Z⟩) λg' j e=>?_
  subst e;let⟨K,y,Y⟩:=finm sk;rw[y,Y]at hwg;let⟨V,hst,n,d⟩:=j.2 w hwg;exact .inl (h.go0 hp hC ha hst (λ_ _=>rfl) rfl ⟨rfl,rfl⟩ hwg zk (tag':=.ke) (f':=n) ⟨J,d⟩ (.fin sk K) (.inl (by simp only[Kv];omega)))
 case ke=>
  obtain⟨rfl,hz⟩:=hz;refine same hz (λn g' Z=>⟨J,Z⟩) λg' j e=>?_
  subst e;let⟨K,y,Y⟩:=finm sk;rw[y,Y]at hwg;obtain⟨-,V,hst,n,d⟩:=j;refine .inl (h.go0 hp hC ha (hst w h.live.2) (λ_ _=>J) J ⟨J,J⟩ hwg (λe X=>?_) (tag':=.acq) (f':=n) ⟨J,d⟩ (.fin sk K) (.inl (by simp only[Kv];omega)));simp at X
  subst X;exact Lr (.inr (.inl J))
 case acq=>
  obtain⟨rfl,hz⟩:=hz;refine same hz (λn g' Z=>⟨J,Z⟩) λg' j e=>?_
  subst e;let⟨K,y,Y⟩:=finm sk;rw[y,Y]at hwg;obtain⟨-,V,hst,n,U,d,e⟩:=j;refine .inr ⟨_,w,_,wN (P:=P) (sl:=sl) (i:=0) ha (show tt P (0==0) a w=_ from hst w h.live.2),?_⟩;let hops:s9 0 a.frame.fn a.frame.place #[mk (.acquire (B3 p.a))]= #[{g:=0,fn:=a.frame.fn,pos:=a.frame.place,act:=.mark (.acquire (B3 p.a))}]:=by rw[ofEvents_eq];simp[Go.ConcR.ofEvent_mk]
  let hJoin:=h.past.D (a:=B3 p.a) (λg f=>?_) h.norel a.frame.fn a.frame.place (h.wlt hp)
  .
   let f:=bI d (λd=>h.live.2) λd=>hfin U (w.at d) e h.world h.wsize hwg (h.live.1.sees (I9 _ w d))
   refine f _ sl _ (λi=>(D (i-1)).fuel) w.heap.size (tg _ _ _ (AZ ha)) ⟨λi g S f=>?_,λj L=>?_⟩ (hops▸hJoin) lr
   .
    obtain⟨i,rfl⟩:∃k,i=k+1:=⟨i-1,N⟩
    rw[tM _ _ _ _ N]at f;obtain⟨x,Z,rfl⟩:=ė.1 f;let hi':i+1<p.top:=h.size▸AZ Z
    let⟨y,d,hsy⟩:=h.wk i hi';rw[Z]at d;cases d
    rw[hsy.woken h.live,tS t N _ (Ed _ _ _ _),h.deaf i hi'];let hs1:=K i N;rw[hs1]at hsy;obtain⟨e,-⟩|⟨-,-,hsy⟩:=hsy
    omega
    cases hsy with
    |quit d=>exact d
   rw[tS t (by have:=hp.pos;have:=hp.top;simp[h.size]at L;omega) _ (Ed _ _ _ _)];exact h.above j (sX h.size L)
  obtain⟨i,rfl⟩:∃k,g=k+1:=⟨g-1,oi hp.pos f.1⟩
  exact h.rel i f.1 f.2 (by rw[K i (oe f.2)];omega)
def Ã.U (ao:p.r)(ai:sd≠p.a)(ap:p.top-p.d<2147483648)(ax:∀g,An g->∃n,ú P ty p.a (eU P ty p.a An Nx) n g)
  (av:∀g w,Nx g->(∀b,b≠p.a->w.heap[b]? = wc.heap[b]?)->w.heap.size=wc.heap.size->yt ty p.a w 0 0->p.k w->Nn P Post p.p g w)
  (aC:∀g,p.N5 g->∃m g',Å P ss (p.j ty) p.H m (g.finishComm P #[yw p.b p.D] (.recv sy) 0 p.D ss) g'/\p.R0 ty sd val g')
   (U:gs[0]? = A a)(O:Z0 P ty p.a An Nx tag f0 d0 a)(h:p.u ty sd val wc gs w t D pre d0)(Y:yt ty p.a w st sm)(V:uE (p.top-1) D tag st sm):Cc P Post (uz gs w sl) t:=by
 refine YL (r:=j9) (Prod.lex C2 C2).wf ((λX gs w t=>∃(D:Nat ->WD)(pre:Nat ->Nat)(tag:CTag)(f0 d0:Nat)(a:gR)(st sm:Int),gs[0]? = A a/\Z0 P ty p.a An Nx tag f0 d0 a/\p.u ty sd val wc gs w t D pre d0/\yt ty p.a w st sm/\uE (p.top - 1) D tag st sm/\
    X=(Kv (p.top - 1) (Vc (p.top - 1) D) tag+S2 (p.top - 1) D pre,f0+2*F2 (p.top - 1) D))) ?_ ?_ ?_ ?_ _ gs w sl t ⟨D,pre,tag,f0,d0,a,st,sm,U,O,h,Y,V,J⟩
 rintro X gs w t d⟨D,pre,tag,f0,d0,a,st,sm,U,O,h,Y,V,rfl⟩;exact⟨D,pre,tag,f0,d0,a,st,sm,U,O,h.at ai d,Y,V,J⟩
 .
  rintro X gs w t⟨D,pre,tag,f0,d0,a,st,sm,U,O,h,Y,V,rfl⟩g Z;obtain⟨i,r,rfl⟩:=ly.1 Z;cases i with
  |zero=>
   have:gs[0]=a:=sX (ÿ r) U
   rw[this];obtain⟨e,-⟩|⟨-,e⟩:=O.h<;>exact λt=>oj e
  |succ i=>
   let⟨y,d,j⟩:=h.wk i (h.size▸r);rw[ÿ r]at d;cases d
   obtain e|e:=j.status h.live<;>exact λt=>oj e
 .
  rintro X gs w t⟨D,pre,tag,f0,d0,a,st,sm,U,O,h,Y,V,rfl⟩;obtain⟨e,-⟩|⟨rfl,e⟩:=O.h
  exact⟨0,a,U,e⟩
  -- it waits:somebody is counted,or on its way
  let hrun:∀i,i<p.top-1->(D i).stage≠1->∃(i:Nat)(g:gR),gs[i]? = A g/\g.status=.running:=λi r r=>by
   let⟨y,d,j⟩:=h.wk i N;refine⟨i+1,y,d,?_⟩;obtain⟨-,-,⟨-,n,g',-,E,G⟩|⟨-,g',E,G⟩⟩|⟨-,-,e⟩:=j
   exact Ck E G.1
   exact Ck E (G w h.live).1
   let d:=xR (sd:=sd) (λ_ _=>J) h.live.2 ai;generalize (D i).stage=s at e r;generalize (D i).fuel=m at e;generalize (D i).deaf=aI at e;cases e with
   |r0 I=>exact yv (λ_ _ x=>x.1) w d I
   |k1 I=>exact yv (λ_ _ x=>x.1) w d I
   |d1 I=>exact yv (λ_ _ x=>x.1) w d I
   |d2 I=>exact yv (λ_ _ x=>x.1) w d I
   |d3 I=>exact yv (λ_ _ x=>x.1) w d I
   |d4 I=>exact yv (λ_ _ x=>x.1) w d I
   |quit _=>cases r J
  cases V with
  |opn E _ _=>exact E.elim
  |reg E G d=>
   let aw:∃i,i<p.top-1/\s6 (D i)≠0:=ż λr=>by
    let O:∀k,k<=p.top-1->s4 k (λj=>s6 (D j))=0:=λk=>by
     induction k with
     |zero=>intro _;rfl
     |succ k aB=>
      intro I;have:s6 (D k)=0:=ż λe=>r ⟨k,N,e⟩
      simp only[s4];rw[aB N,this]
    have:=O (p.top-1) lr;simp[Vc]at d;omega
   let⟨i,r,d⟩:=aw;exact hrun i r λe=>d (by simp[s6,e])
  |last L E G d aG=>exact hrun L G N
  |fin E _=>exact E.elim
 rintro X gs w t sl i g⟨D,pre,tag,f0,d0,a,st,sm,U,O,h,Y,V,rfl⟩Z hrun;cases i with
 |zero=>
  rw[U]at Z;cases Z
  obtain⟨d,w',ops,E,G⟩|⟨d,w',ops,E,G⟩:=oV ao ai ap ax av U O h Y V (sl:=sl) hrun
  exact⟨d,w',ops,E,.inl G⟩
  exact⟨d,w',ops,E,.inr G⟩
 |succ i=>
  let⟨d,w',ops,E,G⟩:=h.worker ao ai ap U O Y V aC (sl:=sl) (i:=i) (h.size▸AZ Z) Z hrun;exact⟨_,w',_,E,.inl G⟩
end
open Go.ConcN (sumTo upd sumTo_upd upd_ne upd_same sumTo_congr get_map_set get_map_set_same deafBehind_idle le_sumTo WD cnt Vc phi isOpen isW3 isFin OpenSt AllQuit CTag WSit RW AtR0 AtK1 RelBy WgLive PayAt Has phi_mono phi_retag pend Vc_upd Vc_le others_uncounted bk_cell)
open Go.ConcR (KK WgAt stA smA rd wr mk Payload Bk DC0 ofEvent_loc_mark bk_of_mute)
def Ã.l.empty{P:pG}{p:Ã P}{gs:Array gR}{w:M}{t}{I:Nat->Option Vl}{E K D}(h:p.l gs w t p.n p.n I E K D):(∀i,i<p.top->(D i).b=0):=by
 have:=h.count;intro i G;have:=le_sumTo (f:=λj=>(D j).b) G;omega
section
variable {P:tP}{p:Ã P}{ty:GF}{An Nx:th->Prop}{Post:xn->tz->Prop} [Payload] {sd:Nat}{val:xn}{gs:Array th}{w:tz}{t:A1}{dn:Nat->Option xn}{Fx K:Nat->Prop}{D:Nat->Wk P}
def Ã.W (O:p.r)(a7:sd≠p.a)(bf:p.top-p.d<2147483648)(h:p.l gs w t p.n p.n dn Fx K D){sl}{g g':gR}(aE:gs[0]? = A g){s tm}(al:w.heap[p.b]? = A (.chan 0 #[] ss s s tm))
  {es}(ao:∀e∈es,∃wr,e=⟨.obj p.b,wr,sy⟩)(bb:tt P sy g w=.go g' (w.setChan p.b 0 #[] sy s s tm) es)(bm:mayWake P g=sy)(bk:g'.status=.running) {n}(aw:ú P ty p.a (mY P ty p.a An) n g')
  (bj:yt ty p.a w (((p.top-p.d:Nat):Int)*KK) 0)
  (bg:∀g,An g->∃n,ú P ty p.a (eU P ty p.a An Nx) n g)
  (a3:∀g w',Nx g->(∀b,b≠p.a->w'.heap[b]? = (w.setChan p.b 0 #[] sy s s tm).heap[b]?)->w'.heap.size=w.heap.size->yt ty p.a w' 0 0->p.k w'->Nn P Post p.p g w')
  (bn:∀g,p.N5 g->∃m g',Å P ss (p.j ty) p.H m (g.finishComm P #[yw p.b p.D] (.recv sy) 0 p.D ss) g'/\p.R0 ty sd val g'):
  ∃aW w' ops,Ly P (uz gs w sl) 0=(.next (uz aW w' sl),ops)/\Cc P Post (uz aW w' sl) (t++ops):=by
 let a8:=h.empty;let a1:=AZ al;refine⟨_,_,_,wN (P:=P) (sl:=sl) (i:=0) aE (show tt P (0==0) g w=_ from bb),?_⟩;generalize an:w.setChan p.b 0 #[] sy s s tm=wc at a3;let d:∀b,b≠p.b->wc.heap[b]? = w.heap[b]?:=λb E=>an▸ã E ..
 let X:wc.heap.size=w.heap.size:=an▸ø ..
 let aL:wc.heap[p.b]? = A (.chan 0 #[] sy s s tm):=an▸ù a1 ..
 let a9:=λG=>h.keeps.kc.1 (h.keeps.fk _ (h.keeps.sf _ (.inl G)))
 let S:=(d _ (ħ O.cw.1)).trans bj;let bd:p.j ty wc:=⟨h.still.sees ⟨λb E=>d b λe=>a9 (e▸E),js X.symm,an▸⟨J,J⟩⟩,_,_,S⟩
 let W:∀k,Ax (t++s9 0 g.frame.fn g.frame.place es) k=Ax t k:=λk=>Kh λT Y d=>by
  obtain⟨e,aa,rfl⟩:=sB Y;obtain⟨wr,rfl⟩:=ao e aa;cases wr<;>rfl
 -- where each worker is now
 let T:∀i,∃x:WD,i+1<p.top->(∃y,(gs.map (uG P g g' wc))[i+1]? = A y/\p.F ty sd val x.stage x.fuel x.deaf (if i+1<p.d then 0 else 1) y wc)/\x.deaf=Ax t (i+1)/\x.stage=(if i+1<p.d then 1 else 7)/\∀c,¬(D (i+1)).e c:=λi=>by
  by_cases I:i+1<p.top
  .
   obtain⟨y,ab⟩:∃y,gs[i+1]? = A y:=⟨_,ÿ (h.size▸I)⟩
   let am:=a8 (i+1) I;obtain⟨E,-,ak,k⟩|⟨E,aB,G⟩:=h.sit (i+1) y N ab
   .
    refine⟨⟨1,(D (i+1)).a.1,Ax t (i+1)⟩,λ_=>⟨⟨y,?_,?_⟩,J,oy E,ak⟩⟩
    rw[jx,ab,ţ,woken_quitsD k]
    simp[Æ E];exact .inr ⟨J,N,.quit k⟩
   let ap:¬i+1<p.d:=N;obtain G|G|G|G|G|G:=G
   .
    obtain⟨-,ak,m,U,-,a2,V⟩:=G;refine⟨⟨7,m+1,0⟩,λ_=>⟨⟨y,?_,?_⟩,aB.symm,oy ap,ak⟩⟩
    rw[jx,ab,ţ,woken_run (Ck a2 (O.recv _ V).1)]
    simp[Ä ap];exact .inl ⟨J,J,.inl ⟨J,m,U,J,a2,(O.recv _ V).1,U,V,(O.recv _ V).2⟩⟩
   .
    obtain⟨-,ak,U,V,rfl⟩:=G;refine⟨⟨7,1,0⟩,λ_=>⟨⟨{wo U #[yw p.b p.D] (.recv sy)with status:=.running},?_,?_⟩,aB.symm,oy ap,ak⟩⟩
    rw[jx,ab,ţ];unfold uG;rw[Æ (by simp[bm,bk]),again_recv_closed aL]
    simp[Ä ap];refine .inl ⟨J,J,.inl ⟨J,0,_,J,J,J,U,V,λw=>?_⟩⟩;rw[stepG_tries];let e:({U with status:=.running}:gR)=U:=by
     have:=(O.recv _ V).1;let⟨fr,cs,st,bt,off⟩:=U;simp only at this;subst this;rfl
    rw[e];exact(O.recv _ V).2 w
   exact absurd (G.1.symm.trans am) N
   exact absurd (G.1.symm.trans am) N
   exact absurd (G.1.symm.trans am) N
   exact absurd (G.1.symm.trans am) N
  exact⟨⟨0,0,0⟩,λh=>absurd h I⟩
 let bq:∀i c,¬(D i).e c:=λi c=>by
  by_cases I:0<i/\i<p.top
  .
   obtain⟨k,rfl⟩:∃k,i=k+1:=⟨i-1,N⟩
   let⟨x,aj⟩:=T k;exact(aj I.2).2.2.2 c
  exact h.idle i I c
 let bh:p.h p.top D=p.h p.top (ń P):=by
  have:(p.h p.top D).e=(p.h p.top (ń P)).e:=by
   funext i c
   exact propext ⟨λaj=>absurd aj (bq i c),λaj=>aj.elim⟩
  let be:p.h p.top D={p.h p.top (ń P)with e:=(p.h p.top D).e}:=rfl;rw[be,this]
 let E:=h.past;rw[bh]at E;let⟨ai,ac⟩:=Classical.skolem.1 T;refine Ã.U (sd:=sd) (val:=val) (wc:=wc) (D:=ai) (pre:=λi=>if i+1<p.d then 0 else 1) (f0:=n) (d0:=0) (tag:=.kd) (st:=((p.top-p.d:Nat):Int)*KK) (sm:=0) O a7 bf bg (λg w' a0 x a4 Z bc=>a3 g w' a0 x (a4.trans X) Z bc) bn (tg _ _ _ (AZ aE)) ⟨J,aw⟩ ?_ S ?_
 .
  refine⟨oy h.size,bd,λ_ _=>J,J,⟨s,tm,aL⟩,λi I=>?_,?_,h.norel.app λT Y=>?_,λi I=>?_,λj bl=>rj W (h.above j bl),λi a0 x a4=>?_,λi I=>?_⟩
  obtain⟨⟨y,ab,G⟩,-⟩:=ac i I;exact⟨y,by rw[û N];exact ab,G⟩
  .
   rw[X];refine E.z (Ã.x O (λ_ _ al=>al.elim) λ_ _ _ al=>al.elim) (Ed _ _ _ _) (λT Y b E=>?_) ((W 0).trans h.past.h) λT Y=>?_
   .
    obtain⟨e,aa,rfl⟩:=sB Y;obtain⟨wr,rfl⟩:=ao e aa;let E:b.loc=.obj p.b:=by cases wr<;>simp[sT,MemAct.touch?]at E<;>subst E<;>rfl
    refine⟨?_,?_,λ_ _ aw=>aw.elim⟩
    rintro⟨a',Z,-⟩;rw[E]at Z;cases Z
    rintro⟨a',Z,-⟩;rw[E]at Z;cases Z
   obtain⟨e,aa,rfl⟩:=sB Y;obtain⟨wr,rfl⟩:=ao e aa;cases wr<;>exact a1
  obtain⟨e,aa,rfl⟩:=sB Y;obtain⟨wr,rfl⟩:=ao e aa;cases wr<;>simp[sT]
  rw[W];exact(ac i I).2.1.symm
  have:=(ac i x).2.2.1.trans (Ä N);omega
  exact(ac i (oe O.top)).2.2.1.trans (Æ I)
 let d:∀i,i<p.top-1->(ai i).stage=(if i+1<p.d then 1 else 7):=λi I=>(ac i N).2.2.1
 let bp:Vc (p.top-1) ai=p.top-p.d:=by
  let e:Vc (p.top-1) ai=s4 (p.top-1) (λi=>if i+1<p.d then 0 else 1):=sumTo_congr λi I=>by
   simp[s6,d i I];by_cases E:i+1<p.d<;>simp[E]
  rw[e,Vw p.d O.pos];have:=O.top;have:=O.pos;omega
 have:=Go.ConcN.Mode.opn (j:=p.top-1) (D:=ai) (tag:=.kd) sk (λi I=>?_) (nofun)
 rw[bp]at this;exact this
 rw[d i I];by_cases E:i+1<p.d<;>simp[E]
end
open Go.ConcN (sumTo upd sumTo_upd upd_ne upd_same sumTo_congr get_map_set get_map_set_same deafBehind_idle le_sumTo CTag WgLive bk_cell)
open Go.ConcR (KK WgAt stA smA rd wr mk Bk)
variable {g a':gR}{i:Nat}{es:Array zs}{fn:fI}
section
variable (P:tP)(ty:GF)(wg:Nat)(child:th)(Nx:th->Prop)
def vZ (g:gR):=g.status=.running/\∃g',(∀w,tA ty wg w->tt P sy g w=.spawn g' child w #[])/\Nx g'
def z8 (g:gR):=g.status=.running/\∃g',(∀w,tA ty wg w->tt P sy g w=.go g' w #[mk .enable])/\∃n,ú P ty wg (vZ P ty wg child Nx) n g'
def zM (g:gR):=g.status=.running/\∀w (v:Nat),v<2147483647->yt ty wg w (v*KK) 0->∃g',tt P sy g w=.go g' (w.setCell (B3 wg) (.int .u64 ((v+1)*KK))) #[rd (B3 wg),wr (B3 wg)]/\∃n,ú P ty wg (z8 P ty wg child Nx) n g'
def bX (g:gR):=g.status=.running/\∃g',(∀w,tA ty wg w->tt P sy g w=.go g' w #[mk .disable])/\∃n,ú P ty wg (zM P ty wg child Nx) n g'
end
def Ld (P:pG)(ty:tI)(E:Nat)(child:gR)(Fin:gR->Prop)
 |0,g=>Fin g
 |r+1,g=>∃n,ú P ty E (bX P ty E child (Ld P ty E child Fin r)) n g
def Z1 (P:pG)(ty:tI)(E:Nat)(child:gR)(Fin:gR->Prop)(r s f d:Nat)(g:gR):=
 (s=4/\d=0/\ú P ty E (bX P ty E child (Ld P ty E child Fin r)) f g)\/(s=3/\d=1/\ú P ty E (zM P ty E child (Ld P ty E child Fin r)) f g)\/
 (s=2/\d=1/\ú P ty E (z8 P ty E child (Ld P ty E child Fin r)) f g)\/(s=1/\d=0/\ú P ty E (vZ P ty E child (Ld P ty E child Fin r)) f g)
section
variable {P:tP}{p:Ã P}{ty:GF}{child:th}{Fin:th->Prop}
def Z1.h{Z r s f d}(h:Z1 P ty Z child Fin r s f d g):g.status=.running:=by
 obtain⟨-,-,h⟩|⟨-,-,h⟩|⟨-,-,h⟩|⟨-,-,h⟩:=h<;>exact h.h λ_ x=>x.1
structure Ã.q (p:Ã P)(ty:tI)(gs:Array gR)(w:M)(t:A1)(f:Nat->Nat)(d0:Nat):Prop where
 size:p.d<=gs.size
 live:p.j ty w
 world:∀b,b≠p.a->w.heap[b]? = p.K.heap[b]?
 wsize:w.heap.size=p.K.heap.size
 chn:∃s tm,p.K.heap[p.b]? = A (.chan 0 #[] ss s s tm)
 wk:∀(i:Nat) g,0<i->gs[i]? = A g->(i<p.d/\QuitsD P (f i) (Ax t i) g)\/(p.d<=i/\Ax t i=0/\((∃m g',f i=m+1/\Å P ss p.k p.H m g g'/\p.N5 g')\/(f i=0/\∃g',p.N5 g'/\g=wo g' #[yw p.b p.D] (.recv sy))))
 past:Cu (p.h gs.size (ń P)) w.heap.size d0 t
 norel:NoRelease (B3 p.a) t
 above:∀j,gs.size<=j->Ax t j=0
variable {gs:Array th}{w w':tz}{t:A1}{f:Nat->Nat}{d0:Nat}
def Ã.q.open (E:p.r)(h:p.q ty gs w t f d0):∃s tm,w.heap[p.b]? = A (.chan 0 #[] ss s s tm):=by
 rw[h.world _ E.cw.1];exact h.chn
def Ã.q.woken (I:p.r)(h:p.q ty gs w t f d0)(E:∃s tm,w'.heap[p.b]? = A (.chan 0 #[] ss s s tm))(Y:0<i)(V:gs[i]? = A g)(a a':gR):uG P a a' w' g=g:=by
 let⟨s,tm,E⟩:=E;obtain⟨-,O⟩|⟨-,-,⟨m,g',-,G,U⟩|⟨-,g',-,rfl⟩⟩:=h.wk i g Y V
 exact woken_quitsD O
 exact woken_run (Ck G (I.recv _ U).1)
 exact woken_recv_open a a' E
def Ã.q.awake (G:p.r)(h:p.q ty gs w t f d0)(V:0<i)(U:gs[i]? = A g):awake g:=by
 obtain⟨-,I⟩|⟨-,-,⟨m,g',-,E,O⟩|⟨-,g',-,rfl⟩⟩:=h.wk i g V U
 obtain e|e:=I.status<;>exact λt=>oj e
 exact λt=>oj (Ck E (G.recv _ O).1)
 exact λt=>by simp[wo]
def Ã.q.wlt (E:p.r)(h:p.q ty gs w t f d0):=rZ (E.shlow _ E.shwg) h.live.1.2
def Ã.q.at (h:p.q ty gs w t f d0) d:p.q ty gs (w.at d) t f d0:=⟨h.size,⟨h.live.1.sees (I9 _ w d),h.live.2⟩,h.world,h.wsize,h.chn,h.wk,h.past,h.norel,h.above⟩
def Ã.q.stepW (U:p.r)(h:p.q ty gs w t f d0){g':gR}(aj:gs[i]? = A g){m pos}
  (O:(i<p.d/\QuitsD P m (tD (Ax t i) es) g')\/(p.d<=i/\tD (Ax t i) es=0/\∃k G,m=k+1/\Å P ss p.k p.H k g' G/\p.N5 G))
  (al:Cu (p.h gs.size (ń P)) w.heap.size d0 (t++s9 i fn pos es))(Y:∀e∈es,∀a,sT e≠.mark (.release a)):
  p.q ty ((gs.map (uG P g g' w)).setIfInBounds i g') w (t++s9 i fn pos es) (upd f i m) d0:=by
 let Z:=AZ aj;refine⟨oy h.size,h.live,h.world,h.wsize,h.chn,λj y E I=>?_,sx al,h.norel.app λj X=>?_,λj E=>?_⟩
 .
  by_cases e:i=j
  .
   subst e;rw[tg _ _ _ Z]at I;cases I
   rw[s5,Lw];obtain O|⟨y,z,k,G,V⟩:=O
   exact .inl O
   exact .inr ⟨y,z,.inl ⟨k,G,V⟩⟩
  rw[tM _ _ _ _ e]at I;obtain⟨z,V,rfl⟩:=ė.1 I;rw[h.woken U (h.open U) E V,ts f _ (ħ e),tS t e _ (Ed i _ _ _)];exact h.wk j z E V
 obtain⟨e,y,rfl⟩:=sB X;exact Y e y _
 rw[tS t (by simp at E;omega) _ (Ed i _ _ _)];exact h.above j (sx E)
def Ã.q.step0 (E:p.r)(h:p.q ty gs w t f d0){a:gR}{pos}(Y:∀b,b≠p.a->w'.heap[b]? = w.heap[b]?)(G:w'.heap.size=w.heap.size)(am:w'.os=w.os/\w'.output=w.output)(an:tA ty p.a w')(Z:∀e∈es,jz p.a e):p.q ty ((gs.map (uG P a a' w')).setIfInBounds 0 a') w' (t++s9 0 fn pos es) f (tD d0 es):=by
 let ap:∃s tm,w'.heap[p.b]? = A (.chan 0 #[] ss s s tm):=Y _ E.cw.1▸h.open E
 refine⟨oy h.size,h.live.stay E Y G am an,λb V=>(Y b V).trans (h.world b V),G.trans h.wsize,h.chn,λj y O s=>?_,?_,h.norel.app λy I=>?_,λj O=>?_⟩
 let e:0≠j:=N;rw[tM _ _ _ _ e]at s;obtain⟨z,G,rfl⟩:=ė.1 s;rw[h.woken E ap O G,tS t e _ (Ed 0 _ _ _)];exact h.wk j z O G
 .
  rw[G];have:=h.past.z (d':=tD d0 es) (u:=s9 0 fn pos es) (Ã.x E (λ_ _ s=>s.elim) λ_ _ _ s=>s.elim) (Ed _ _ _ _) (λy I b V=>?_) ?_ (λy I=>?_)
  simpa using this
  .
   obtain⟨e,U,rfl⟩:=sB I;let⟨⟨ad,y,aj⟩,ao⟩:=(Z e U).1 b V;refine⟨?_,λ_=>ao,λ_ _ ak=>ak.elim⟩;rintro⟨a',s,u⟩;rw[y]at s;cases s
   rw[aj]at u;cases E.parted _ u E.shwg
  rw[Lw,h.past.h]
  obtain⟨e,U,rfl⟩:=sB I;exact(Z e U).2.1 _ (h.wlt E)
 obtain⟨e,U,rfl⟩:=sB I;exact(Z e U).2.2 _
 have:=E.pos;have:=h.size;rw[tS t (by simp at O;omega) _ (Ed 0 _ _ _)];exact h.above j (sx O)
def Ã.q.hired (Y:p.r)(h:p.q ty gs w t f 0)(ai:∃m g',Å P ss p.k p.H m child g'/\p.N5 g')(fn:fI) pos(U:fI):∃m,p.q ty ((gs.setIfInBounds 0 a').push child) w (t++#[{g:=0,fn:=fn,pos:=pos,act:=.go gs.size},{g:=gs.size,fn:=U,pos:=pos,act:=.start}]) (upd f gs.size m) 0:=by
 let⟨m,g',I,V⟩:=ai;let d:0<gs.size:=oi Y.pos h.size
 let Z:∀k,Ax (t++#[{g:=0,fn:=fn,pos:=pos,act:=.go gs.size},{g:=gs.size,fn:=U,pos:=pos,act:=.start}]) k=Ax t k:=λk=>Kh λe G d=>by
  simp[ĺ,sV,ġ,ĝ]at G;obtain rfl|rfl:=G<;>rfl
 refine⟨m+1,by simp;have:=h.size;omega,h.live,h.world,h.wsize,h.chn,λj y O E=>?_,?_,h.norel.app λe G=>?_,λj O=>rj Z (h.above j (by simp at O;omega))⟩
 .
  rw[Z];by_cases e:j=gs.size
  .
   subst e;rw[Β,kU,Æ J]at E;cases E
   rw[s5];exact .inr ⟨h.size,h.above _ lr,.inl ⟨m,g',J,I,V⟩⟩
  rw[ts f _ e];apply h.wk j y O
  rw[Β]at E;simp[kU,Ä e]at E;rw[û N]at E;exact E
 .
  have:=h.past.G (c:=gs.size) (Ã.x Y (λ_ _ V=>V.elim) λ_ _ _ V=>V.elim) (h.above _ lr) fn pos U;let e:(p.h gs.size (ń P)).q gs.size=p.h ((gs.setIfInBounds 0 a').push child).size (ń P):=by
   have:((p.h gs.size (ń P)).q gs.size).d=(p.h ((gs.setIfInBounds 0 a').push child).size (ń P)).d:=by
    funext i
    show((p.d<=i/\i<gs.size)\/i=gs.size)=(p.d<=i/\i<_)
    simp only[lR,kU];refine propext ⟨?_,?_⟩
    .
     have:=h.size;rintro(⟨I,c⟩|I)
     exact⟨I,N⟩
     exact⟨N,N⟩
    rintro⟨I,c⟩;by_cases e:i=gs.size
    exact .inr e
    exact .inl ⟨I,N⟩
   let c:(p.h gs.size (ń P)).q gs.size={p.h ((gs.setIfInBounds 0 a').push child).size (ń P)with d:=((p.h gs.size (ń P)).q gs.size).d}:=rfl;rw[c,this]
  rw[e]at this;exact this
 simp[ĺ,sV,ġ,ĝ]at G;obtain rfl|rfl:=G<;>simp
end
open Go.ConcN (sumTo upd sumTo_upd upd_ne upd_same sumTo_congr get_map_set get_map_set_same deafBehind_idle le_sumTo CTag WgLive bk_cell)
open Go.ConcR (KK WgAt stA smA rd wr mk Bk)
section
variable {P:tP}{p:Ã P}{ty:GF}{child:th}{Fin:th->Prop}{Post:xn->tz->Prop}{gs:Array th}{w w':tz}{t:A1}{f:Nat->Nat}{d0:Nat}
def ċ (E size s:Nat):=size-E+(if s<=2 then 1 else 0)
def Ã.JZ (p:Ã P)(ty:tI)(child:gR)(Fin:gR->Prop)(E:Nat×Nat)(gs:Array gR)(w:M)(t:A1):=
 ∃(f:Nat->Nat)(d0 r s f0:Nat)(a:gR),gs[0]? = A a/\Z1 P ty p.a child Fin r s f0 d0 a/\p.q ty gs w t f d0/\gs.size+r+1=p.top/\yt ty p.a w ((ċ p.d gs.size s:Nat)*KK) 0/\E=(5*r+s,f0+s4 gs.size f)
def Ã.q.hand (I:p.r)(ak:¬(p.S p.b\/p.p p.b)/\¬(p.S p.cr\/p.p p.cr))(ac:∃s tm,p.K.heap[p.cr]? = A (.chan 0 #[] ss s s tm))(h:p.q ty gs w t f 0)(aa:gs.size=p.top):p.l gs w t 0 0 (λ_=>none) (λb=>p.S b\/p.p b) (λb=>p.S b\/p.p b) (λi=>⟨0,(f i,none),λ_=>False,0⟩):=by
 refine⟨aa,h.live.1,h.open I,h.world _ I.cw.2▸ac,⟨λ_=>id,λ_=>id,ak,λb E=>?_⟩,λi g Z k=>?_,λ_ _ G=>G.elim,λ_ _ _ G=>G.elim,J,λ_ _ _ G=>G,λj m=>h.above j N,?_,h.norel,λi Z=>N,?_,uD _,nofun⟩
 .
  have:=h.live.1.2;obtain E|E:=E
  have:=I.slow b E;omega
  have:=I.shlow b E;omega
 .
  obtain⟨U,O⟩|⟨U,O,⟨m,g',Y,V,j⟩|⟨Y,g',V,rfl⟩⟩:=h.wk i g Z k
  exact .inl ⟨U,J,λ_=>id,O⟩
  exact .inr ⟨U,O,.inl ⟨J,λ_=>id,m,g',Y,V,j⟩⟩
  exact .inr ⟨U,O,.inr (.inl ⟨J,λ_=>id,g',V,J⟩)⟩
 rw[<-aa];exact h.past
 have:∀k,s4 k (λj=>((λi=>(⟨0,(f i,none),λ_=>False,0⟩:Wk P)) j).b)=0:=λk=>by
  induction k with
  |zero=>rfl
  |succ k g=>simp[s4];rw[g]
 rw[this]
def Ã.M' (aj:p.r)(bx:p.top-p.d<2147483647)(bs:∃m g',Å P ss p.k p.H m child g'/\p.N5 g')
  (bc:∀gs w t sl f g,gs[0]? = A g->Fin g->p.q ty gs w t f 0->gs.size=p.top->yt ty p.a w ((p.top-p.d:Nat)*KK) 0->Cc P Post (uz gs w sl) t)
  {sl r g}(Z:gs[0]? = A g)(aw:Ld P ty p.a child Fin r g)(h:p.q ty gs w t f 0)(aL:gs.size+r=p.top)(ac:yt ty p.a w ((gs.size-p.d:Nat)*KK) 0):Cc P Post (uz gs w sl) t:=by
 cases r with
 |zero=>
  let e:gs.size=p.top:=aL;rw[e]at ac;exact bc gs w t sl f g Z aw h e ac
 |succ r=>
  let⟨n,aw⟩:=aw;refine YL (r:=j9) (Prod.lex C2 C2).wf (p.JZ ty child Fin) ?_ ?_ ?_ ?_ _ gs w sl t ⟨f,0,r,4,n,g,Z,.inl ⟨J,J,aw⟩,h,N,by simpa[ċ]using ac,J⟩
  rintro a1 gs w t d⟨f,j,r,s,c,a,y,G,h,aE,aB,rfl⟩;exact⟨f,j,r,s,c,a,y,G,h.at d,aE,aB,J⟩
  .
   rintro a1 gs w t⟨f,j,r,s,c,a,y,G,h,aE,aB,rfl⟩g Z;obtain⟨i,bd,rfl⟩:=ly.1 Z;obtain rfl|a5:=Ģ i
   .
    have:gs[0]=a:=sX (ÿ bd) y
    rw[this];exact λt=>oj G.h
   exact h.awake aj a5 (ÿ bd)
  rintro a1 gs w t⟨f,j,r,s,c,a,y,G,h,aE,aB,rfl⟩;exact⟨0,a,y,G.h⟩
  rintro a1 gs w t sl i g⟨f,j,r,s,c,a,y,G,h,aL,ac,rfl⟩Z hrun;obtain rfl|a5:=Ģ i
  .
   obtain rfl:=by rw[y]at Z;exact Ö Z
   -- an own step of goroutine 0's
   let go:∀{a':gR}{w':M}{X:Array zs}{s' f':Nat},tt P sy a w=.go a' w' X ->(∀b,b≠p.a ->w'.heap[b]? = w.heap[b]?) ->w'.heap.size=w.heap.size ->(w'.os=w.os/\w'.output=w.output) ->yt ty p.a w' ((ċ p.d gs.size s':Nat)*KK) 0 ->(∀e∈X,jz p.a e) ->Z1 P ty p.a child Fin r s' f' (tD j X) a' ->(s' <s\/(s'=s/\f' <c)) ->
     ∃O w' ops,Ly P (uz gs w sl) 0=(.next (uz O w' sl),ops)/\((∃q,j9 q (5*r+s,c+s4 gs.size f)/\p.JZ ty child Fin q O w' (t++ops))\/Cc P Post (uz O w' sl) (t++ops)):=by
    intro a' w' X s' f' bm aw a7 bk a9 bq bn ax;refine⟨_,w',_,wN (P:=P) (sl:=sl) (i:=0) y (show tt P (0==0) a w=_ from bm),.inl ⟨(5*r+s',f' +s4 gs.size f),?_,f,tD j X,r,s',f',a',tg _ _ _ (AZ y),bn,h.step0 aj aw a7 bk ⟨_,_,a9⟩ bq,sx aL,sx a9,sm⟩⟩;obtain bl|⟨rfl,bl⟩:=ax
    exact Dd _ _ N
    exact Cp _ N
   let walk:∀{K:gR ->Prop}{n:Nat},c=n+1 ->ú P ty p.a K c a ->(∀g',ú P ty p.a K n g' ->Z1 P ty p.a child Fin r s n j g') ->
     ∃O w' ops,Ly P (uz gs w sl) 0=(.next (uz O w' sl),ops)/\((∃q,j9 q (5*r+s,c+s4 gs.size f)/\p.JZ ty child Fin q O w' (t++ops))\/Cc P Post (uz O w' sl) (t++ops)):=by
    intro K n I U a7;subst I;obtain⟨bg,⟨-,Y,X,V,b,U⟩,d⟩:=U;refine go (b w h.live.2) (λ_ _=>J) J ⟨J,J⟩ ac (λe E=>(Rj (V e E)).1) (s':=s) (f':=n) ?_ (.inr ⟨J,N⟩)
    rw[tQ λe E=>(Rj (V e E)).2];exact a7 Y ⟨bg,U,d⟩
   obtain⟨rfl,rfl,G⟩|⟨rfl,rfl,G⟩|⟨rfl,rfl,G⟩|⟨rfl,rfl,G⟩:=G
   .
    cases I:c with
    |succ n=>rw[<-I];exact walk I G λg' E=>.inl ⟨J,J,E⟩
    |zero=>
     subst I;let⟨g',e,d⟩:=G;cases e
     obtain⟨-,Y,b,n,U⟩:=d;refine go (X:=#[Go.ConcR.mk .disable]) (b w h.live.2) (λ_ _=>rfl) rfl ⟨rfl,rfl⟩ (s':=3) (f':=n) ac (λe V=>?_) (.inr (.inl ⟨J,J,U⟩)) (.inl N);simp at V
     subst V;exact Lr (.inl J)
   .
    cases I:c with
    |succ n=>rw[<-I];exact walk I G λg' E=>.inr (.inl ⟨J,J,E⟩)
    |zero=>
     subst I;let⟨g',e,d⟩:=G;cases e
     let bj:ċ p.d gs.size 3=gs.size-p.d:=by simp[ċ]
     rw[bj]at ac;let⟨Y,b,n,U⟩:=d.2 w (gs.size-p.d) N ac;refine go b (xf w (B3 p.a) _).block (xf w (B3 p.a) _).size ⟨rfl,rfl⟩ (s':=2) (f':=n) ?_ um (.inr (.inr (.inl ⟨J,J,U⟩))) (.inl N);let e:((ċ p.d gs.size 2:Nat):Int)=((gs.size-p.d:Nat):Int)+1:=by simp[ċ]
     rw[e];exact ac.setSt _
   .
    cases I:c with
    |succ n=>rw[<-I];exact walk I G λg' E=>.inr (.inr (.inl ⟨J,J,E⟩))
    |zero=>
     subst I;let⟨g',e,d⟩:=G;cases e
     obtain⟨-,Y,b,n,U⟩:=d;refine go (X:=#[Go.ConcR.mk .enable]) (b w h.live.2) (λ_ _=>rfl) rfl ⟨rfl,rfl⟩ (s':=1) (f':=n) ac (λe V=>?_) (.inr (.inr (.inr ⟨J,J,U⟩))) (.inl N);simp at V
     subst V;exact Lr (.inr (.inl J))
   cases I:c with
   |succ n=>rw[<-I];exact walk I G λg' E=>.inr (.inr (.inr ⟨J,J,E⟩))
   |zero=>
    subst I;let⟨g',e,d⟩:=G;cases e
    obtain⟨-,Y,b,a0⟩:=d;let K:=runT_crowd_spawn (P:=P) (sl:=sl) (i:=0) y (show tt P (0==0) a w=_ from b w h.live.2);let be:((s9 0 a.frame.fn a.frame.place #[]).push {g:=0,fn:=a.frame.fn,pos:=a.frame.place,act:=.go gs.size} |>.push {g:=gs.size,fn:=child.frame.fn,pos:=a.frame.place,act:=.start})= #[{g:=0,fn:=a.frame.fn,pos:=a.frame.place,act:=.go gs.size},{g:=gs.size,fn:=child.frame.fn,pos:=a.frame.place,act:=.start}]:=rfl;rw[be]at K;let⟨m,aW⟩:=h.hired aj bs (a':=Y) a.frame.fn a.frame.place child.frame.fn;let W:((gs.setIfInBounds 0 Y).push child)[0]? = A Y:=by
     have:=AZ y;rw[Β,kU,Ä N,ş this]
    let a3:yt ty p.a w ((((gs.setIfInBounds 0 Y).push child).size-p.d:Nat)*KK) 0:=by
     let e:(((gs.setIfInBounds 0 Y).push child).size-p.d:Nat)=ċ p.d gs.size 1:=by
      have:=h.size;simp[ċ]
      omega
     rw[e];exact ac
    refine⟨_,w,_,K,?_⟩;cases r with
    |zero=>
     let e:((gs.setIfInBounds 0 Y).push child).size=p.top:=so
     refine .inr (bc _ w _ sl _ Y W a0 aW e ?_);rw[e]at a3;exact a3
    |succ r=>
     let⟨n,a0⟩:=a0;exact .inl ⟨_,Dd _ _ N,_,0,r,4,n,Y,W,.inl ⟨J,J,a0⟩,aW,so,by simpa[ċ]using a3,J⟩
  let ax:=AZ Z;let a4:(i==0)=false:=so
  let done:∀{O:Array gR}{ops:A1}{m:Nat},Ly P (uz gs w sl) i=(.next (uz O w sl),ops) ->O[0]? = A a ->O.size=gs.size ->p.q ty O w (t++ops) (upd f i m) j ->m<f i ->
    ∃O w' ops,Ly P (uz gs w sl) i=(.next (uz O w' sl),ops)/\((∃q,j9 q (5*r+s,c+s4 gs.size f)/\p.JZ ty child Fin q O w' (t++ops))\/Cc P Post (uz O w' sl) (t++ops)):=by
   intro O ops m K W a2 aW bZ;let bv:s4 gs.size (upd f i m)+f i=s4 gs.size f+m:=by
    have:=sumTo_upd f m id ax;simpa using this
   refine⟨O,w,ops,K,.inl ⟨(5*r+s,c+s4 gs.size (upd f i m)),Cp _ N,upd f i m,j,r,s,c,a,W,G,aW,a2▸aL,a2▸ac,a2▸rfl⟩⟩
  let W:∀(x x':gR),((gs.map (uG P x x' w)).setIfInBounds i x')[0]? = A a:=λx x'=>by
   rw[tM _ _ _ _ N,y];simp[woken_run G.h]
  obtain⟨aC,n⟩|⟨aC,a8,⟨m,g',I,U,aG⟩|⟨-,g',-,rfl⟩⟩:=h.wk i g a5 Z
  .
   generalize bw:f i=q at n;cases q with
   |zero=>rw[n.1]at hrun;cases hrun
   |succ q=>
    obtain⟨I,_⟩|⟨_,g',X,a6,b,n⟩:=n
    rw[I]at hrun;cases hrun
    refine done (wN (P:=P) (sl:=sl) (i:=i) Z (a4▸b w)) (W g g') sm (h.stepW aj Z (.inl ⟨aC,n⟩) ?_ λe V a=>PQ (a6 e V) a) N;refine h.past.v (λop c=>?_) ?_ (λop c=>?_)
    obtain⟨e,V,rfl⟩:=sB c;exact touch_mute (a6 e V)
    rw[tS t N _ (Ed _ _ _ _)];exact h.past.h
    obtain⟨e,V,rfl⟩:=sB c;exact low_mute (a6 e V) _
  .
   cases m with
   |zero=>
    cases U
    let⟨bK,tm,d⟩:=h.open aj;let bh:tt P (i==0) g w=.comm g #[yw p.b p.D] sy (.recv sy) w #[]:=a4▸(aj.recv g aG).2 w
    let bf:partners (gs.setIfInBounds i ph) p.b sy=[]:=Ib λj x aN E=>by
     obtain rfl|bp:=Ģ j
     .
      rw[y]at E;cases E
      exact tU (oj G.h) ..
     obtain⟨-,n⟩|⟨-,-,⟨m,g',-,U,aG⟩|⟨-,g',-,rfl⟩⟩:=h.wk j x bp E
     exact tU (by obtain e|e:=n.status<;>rw[e]<;>simp) ..
     exact tU (oj (Ck U (aj.recv _ aG).1)) ..
     exact offersAt_parked_recv' ..
    let K:=crowd_waits (P:=P) (sl:=sl) Z bh λbt bb=>by
     simp at bb
     subst bb;exact ways_recv_none d bf
    rw[DU]at K;refine done (m:=0) K (by rw[û N];exact y) sm ?_ N
    rw[kO];refine⟨oy h.size,h.live,h.world,h.wsize,h.chn,λj y aN n=>?_,sx h.past,h.norel,λj aN=>h.above j (sx aN)⟩;by_cases e:i=j
    .
     subst e;rw[ş ax]at n;cases n
     rw[s5];exact .inr ⟨aC,a8,.inr ⟨J,g,aG,J⟩⟩
    rw[û e]at n;rw[ts f _ (ħ e)];exact h.wk j y aN n
   |succ m=>
    obtain⟨-,Y,X,V,b,U⟩:=U;let aI:∀e∈X,Τ p.S (λ_=>False) e:=λe E=>let⟨ad,aE,aB⟩:=V e E;.inl ⟨ad,aE,.inl aB⟩
    refine done (wN (P:=P) (sl:=sl) (i:=i) Z (a4▸b w h.live.1)) (W g Y) sm (h.stepW aj Z (.inr ⟨aC,a8▸tQ (λe E=>(aI e E).k) 0,m,g',J,U,aG⟩) ?_ λe E a=>(aI e E).h a) N;refine h.past.n (Ã.x aj (λ_ _ d=>d.elim) λ_ _ _ d=>d.elim) ⟨aC,ax⟩ (Ed _ _ _ _) (λop c y n=>?_) (λop c=>?_)
    obtain⟨e,E,rfl⟩:=sB c;exact(aI e E).touch n
    obtain⟨e,E,rfl⟩:=sB c;refine(aI e E).u λc d=>?_
    obtain d|d:=d
    exact rZ (aj.slow c d) h.live.1.2
    exact d.elim
  simp[wo]at hrun
end
open Go.RowKit Go.Conc.Lib Go.ConcR.Gen
def Á (P:pG)(main:Bool)(F:M->Prop)(Ev:zs->Prop)(K:gR->Prop)(g:gR):=∃n g',Å P main F Ev n g g'/\K g'
section
variable {P:tP}{main:Bool}{F:tz->Prop}{Ev:zs->Prop}{K:th->Prop}{g g':th}
def Á.q (h:K g):Á P main F Ev K g:=⟨0,g,J,h⟩
def Á.c (I:g.status=.running)(h:∀w,tt P main g w=.go g' w):Á P main F Ev K g'->Á P main F Ev K g
 |⟨n,_,E,G⟩=>⟨_,_,.c I h E,G⟩
def Á.k (h:Á P main F Ev K g')(E:g.status=.running:=by rfl)(hw:∀w,tt P main g w=.go g' w:=by first|exact λ_=>stepG_seq|exact λ_=>stepG_region_end|exact λ_=>stepG_skip|exact λ_=>stepG_ret'|exact λ_=>stepG_block|exact λ_=>stepG_inBlock|exact λ_=>stepG_inLoop):Á P main F Ev K g:=.c E hw h
def Á.m (I:g.status=.running)(h:∀w,F w->tt P main g w=.go g' w):Á P main F Ev K g'->Á P main F Ev K g
 |⟨n,_,E,G⟩=>⟨_,_,.j (es:=#[]) I sm h E,G⟩
def Á.j{es}(O:g.status=.running)(G:∀e∈es,Ev e)(h:∀w,F w->tt P main g w=.go g' w es):Á P main F Ev K g'->Á P main F Ev K g
 |⟨n,_,E,I⟩=>⟨_,_,.j O G h E,I⟩
section
variable {b:vh}{a:Act}{k:List Item}{cs:List vh}{ops:Array Oper}{i:Nat}{rest:List Nat}{o:Oper}
def Á.value (v:Vl)(O:ops[i]? = A o)(E:tn o (wE ops a.tmps)=sy)(I:b.kind≠.early)(Y:∀w,(vf a.eval o).run P w=.ok (.value v) w)(U:∀w,(vf a.eval o).events P w #[]= #[]):Á P main F Ev K (G (b.at (a.put o.dst v) (.inRegion ops rest::k)) cs)->Á P main F Ev K (G (b.at a (.inRegion ops (i::rest)::k)) cs)
 |⟨n,_,Z,V⟩=>⟨_,_,.value v O E I Y U Z,V⟩
def Á.r{id}{l:lN}(h:Á P main F Ev K (G (b.at a (.inRegion ops l::k)) cs))(E:List.range ops.size=l:=by (simp[Ŷ,Ċ,Ġ,Nat.reduceAdd,Ă,List.range,List.range.loop];rfl)):Á P main F Ev K (G (b.at a (.code (.region id ops ss)::k)) cs):=.c J (λ_=>stepG_region) (E▸h)
def Á.v{v:Vl}(h:Á P main F Ev K (G (b.at (a.put o.dst v) (.inRegion ops rest::k)) cs))(E:ops[i]? = A o:=by rfl)(hw:tn o (wE ops a.tmps)=true:=by rfl)(hk:b.kind≠.early:=by k_ne)(hr:∀w,(vf a.eval o).run P w=.ok (.value v) w:=by (intro _;go_simp<;>(try w_num)<;>rfl))(he:∀w,(vf a.eval o).events P w #[]= #[]:=by (intro _;simp[go_sem, *])):Á P main F Ev K (G (b.at a (.inRegion ops (i::rest)::k)) cs):=.value v E hw hk hr he h
def Á.t{x y c}(h:Á P main F Ev K (G (b.at a (.code x::k)) cs))(E:a.eval c=.bool true:=by first|rfl|(simp[Act.eval];omega)):Á P main F Ev K (G (b.at a (.code (.cond c x y)::k)) cs):=.c J (λ_=>vm (t:=sy) E) h
def Á.f{x y c}(h:Á P main F Ev K (G (b.at a (.code y::k)) cs))(E:a.eval c=.bool false:=by first|rfl|(simp[Act.eval];omega)):Á P main F Ev K (G (b.at a (.code (.cond c x y)::k)) cs):=.c J (λ_=>vm (t:=ss) E) h
def Á.h (v:Vl)(U:ops[i]? = A o)(I:tn o (wE ops a.tmps)=sy)(O:b.kind≠.early)(Y:∀w,F w->(vf a.eval o).run P w=.ok (.value v) w)(V:∀w,F w->(vf a.eval o).events P w #[]= #[]):Á P main F Ev K (G (b.at (a.put o.dst v) (.inRegion ops rest::k)) cs)->Á P main F Ev K (G (b.at a (.inRegion ops (i::rest)::k)) cs):=
 m J λw E=>by rw[stepG_value U I O (Y w E)];unfold listed;rw[V w E,seen_none]
def Á.skip (I:ops[i]? = A o)(E:tn o (wE ops a.tmps)=ss):Á P main F Ev K (G (b.at (a.put o.dst uu) (.inRegion ops rest::k)) cs)->Á P main F Ev K (G (b.at a (.inRegion ops (i::rest)::k)) cs):=.c J λ_=>stepG_unwanted I E
def Á.call{f:fI}{fn c args}{Z:Array tI}(O:ops[i]? = A o)(E:tn o (wE ops a.tmps)=sy)(I:b.kind≠.early)(U:o.op=.call {callee:=.value (.func f),args,argTypes:=Z})
  (hf:P.funcs[f]? = A fn)(hname:(fn.name== "runtime.NumGoroutine")=ss)(hb:fn.body=A c):
  Á P main F Ev K (G ((base f).at {tmps:=args.map a.eval++wW (fn.ntmps-(args.map a.eval).size) uu,defers:=[]} [.code c]) (b.at a (.inRegion ops (i::rest)::k)::cs))->Á P main F Ev K (G (b.at a (.inRegion ops (i::rest)::k)) cs):=
 .c J λw=>by
  have:=goes_call (P:=P) (main:=main) (w:=w) (cs:=cs) (k:=k) (rest:=rest) (K:=λx w' X=>tt P main (G (b.at a (.inRegion ops (i::rest)::k)) cs) w=.go x w' X/\x=(G ((base f).at {tmps:=args.map a.eval++wW (fn.ntmps-(args.map a.eval).size) uu,defers:=[]} [.code c]) (b.at a (.inRegion ops (i::rest)::k)::cs))/\w'=w/\X= #[]) O E I U hf hname hb;by_cases V:tt P main (G (b.at a (.inRegion ops (i::rest)::k)) cs) w=.go (G ((base f).at {tmps:=args.map a.eval++wW (fn.ntmps-(args.map a.eval).size) uu,defers:=[]} [.code c]) (b.at a (.inRegion ops (i::rest)::k)::cs)) w #[]
  exact V
  exfalso
  have Y:=goes_call (P:=P) (main:=main) (w:=w) (cs:=cs) (k:=k) (rest:=rest) (K:=λx w' X=>x=(G ((base f).at {tmps:=args.map a.eval++wW (fn.ntmps-(args.map a.eval).size) uu,defers:=[]} [.code c]) (b.at a (.inRegion ops (i::rest)::k)::cs))/\w'=w/\X= #[]) O E I U hf hname hb ⟨J,J,J⟩;revert Y
  generalize tt P _ (G (b.at a (.inRegion _ _::k)) cs) w=w at V;cases w<;>simp[GStep.goes,imp_false,not_false_eq_true]
  simp_all
end
section
variable {b b₀:vh}{a a₀:Act}{k:List Item}{cs:List vh}{ops:Array Oper}{i:Nat}{rest:List Nat}{todo:List Item}{fn:Func}
def Á.leave0 (U:b.kind=.normal)(I:a.defers=[])(O:P.funcs[b.fn]? = A fn)(E:fn.results= #[]):Á P main F Ev K (G (b₀.at (a₀.put ((ops[i]?).bind (·.dst)) (.t #[])) (.inRegion ops rest::k)) cs)->Á P main F Ev K (G {b.at a todo with mode:=.returning} (b₀.at a₀ (.inRegion ops (i::rest)::k)::cs)):=
 c J λw=>by rw[stepG_leave U I O (results_none E _ P w) (events_results_none E ..),Frame.finish_at]
def Á.d{t}(U:b.kind=.normal)(I:a.defers=[])(O:P.funcs[b.fn]? = A fn)(E:fn.results= #[.tmp t]):Á P main F Ev K (G (b₀.at (a₀.put ((ops[i]?).bind (·.dst)) (a.tmps.getD t uu)) (.inRegion ops rest::k)) cs)->Á P main F Ev K (G {b.at a todo with mode:=.returning} (b₀.at a₀ (.inRegion ops (i::rest)::k)::cs)):=
 c J λw=>by rw[stepG_leave U I O (results_tmp E _ P w) (events_results_tmp E ..),Frame.finish_at]
end
end
end Go.Proofs.YtaoikkhlnhfkfaaGreatDoor
