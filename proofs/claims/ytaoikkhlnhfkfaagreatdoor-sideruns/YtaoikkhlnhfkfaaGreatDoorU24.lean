import Derived.Test.YtaoikkhlnhfkfaaGreatDoorU00
import Derived.Test.YtaoikkhlnhfkfaaGreatDoorU23
import Derived.Conc.Beside
import Derived.Conc.TokenTrace
import Derived.Conc.CrowdTrace
import Derived.Conc.CrowdComm
set_option linter.defProp false
set_option linter.unusedSimpArgs false
set_option linter.unusedVariables false
namespace Go.Proofs.YtaoikkhlnhfkfaaGreatDoor
open Go renaming Program->tP,lone->vD,step_lone_go->C6,stepG->tt,runN->yc,Question->ya,step_lone_ended->DG,Trace->A1,HappensBefore->x4,choose->wP,CommCase->Kd,ways->Lv
open Option renaming some->A
open Bool renaming true->sy,false->ss
open Frame renaming raise->tw
open Conc renaming crowd->uz,mem_ofEvents->sB,runT_crowd_go->wN,Deaf_other->tS,touchAt->Cl,Deaf->Ax,touch_of->G0,g?_old->DK,g?_of->B6,noRace_append->Hy,seen_app->Kf,Deaf_quiet->Kh,act?_of->GC
open ConcN renaming sumTo->s4
open MemAct renaming ofEvent->sT,touch?->vw
open Relation.TransGen renaming single->ye
open Prod.Lex renaming left->Dd,right->Cp
open _root_.Array renaming mem_zipIdx_iff_getElem?->Dg,mem_toList_iff->G2
open Go.Conc
section
variable {P:tP}{H:Nat->Prop}{p:Gg}
def Ξ (w:M):=∀b:Nat,((∀c e,w.heap[b]?≠A (.pending c e))/\∀a u,w.heap[b]?≠A (.view a u))\/∃u,w.heap[b]? = A (.view ⟨0,0,A 0⟩ u)
def XV{v}(h:Ξ v):DY (λ_=>False) v v:=⟨J,λb _=>(h b).elim (λh=>.inl ⟨J,h⟩) λ⟨_,h⟩=>.inr ⟨_,_,h,h,.inr ⟨_,_,J,J⟩⟩,λ_ E=>E.elim,λ_ _=>J,J,J⟩
def DY.n{v w:M}(G:DY H v w):Ξ v:=λb=>by
 by_cases I:H b
 obtain⟨c,e,-,E⟩:=G.d _ I;exact .inl ⟨λ_ _ h=>(by rw[h]at E;cases E),λ_ _ h=>by rw[h]at E;cases E⟩
 obtain⟨-,h⟩|⟨o,o',-,E,⟨_,_,-,rfl⟩|⟨_,u,-,rfl⟩⟩:=G.m _ I
 exact .inl h
 exact .inl ⟨λ_ _ h=>(by rw[h]at E;cases E),λ_ _ h=>by rw[h]at E;cases E⟩
 exact .inr ⟨u,E⟩
def Nj (x:CW):=x.1.1.mode=.run/\x.1.1.todo=[KR]
structure Ht (P:pG)(p:Gg)(x:CW):Prop where
 h:pF P p x.1.1 x.1.2
 l:Ξ x.2
def XM{x}(h:Nj x)(w:M):(own P x.1.1 x.1.2).run P w=.halt .waiting w:=by
 unfold own;rw[h.1,h.2];rfl
def ZF (Z:Eb P p λ_=>False){x}(h:Ht P p x)(Y:¬DV x)(G:¬Nj x) u:(∃z w1,(own P x.1.1 x.1.2).run P (À x.2 u)=.halt z w1/\JQ z)\/∃y,(own P x.1.1 x.1.2).run P (À x.2 u)=.ok y.1 y.2/\Ht P p y/\OV P (own P x.1.1 x.1.2) (À x.2 u) y.1 y.2:=by
 obtain E|⟨a,v',w',E,V,O,E,U,I,I,I,I⟩:=cZ Z [] [] h.h Y G (À x.2 u) (À x.2 u) (XV h.l)
 exact .inl E
 exact .inr ⟨(a,v'),V,⟨O,U.n⟩,I⟩
def Mc (Z:Eb P p λ_=>False){x y}(h:Ht P p x)(V:Ez P x y):Ht P p y/\¬Nj x:=by
 let⟨Y,u,E⟩:=V;let G:¬Nj x:=λG=>by
  rw[XM G]at E;cases E
 obtain⟨z,z,I,-⟩|⟨U,I,O,-⟩:=ZF Z h Y G u
 rw[I]at E;cases E
 rw[I]at E;simp[Ż]at E;obtain rfl:U=y:=Prod.ext E.1 E.2;exact⟨O,G⟩
def Ko (Z:Eb P p λ_=>False){x y:CW}(h:Ht P p x)(Y:¬DV x){u}(E:(own P x.1.1 x.1.2).run P (À x.2 u)=.ok y.1 y.2):y.2.tape=u/\x.2.drawn<=y.2.drawn/\∀v,(∀j q,x.2.drawn<=j->j<y.2.drawn->v j q=u j q)->(own P x.1.1 x.1.2).run P (À x.2 v)=.ok y.1 (À y.2 v):=by
 let G:¬Nj x:=λG=>by
  rw[XM G]at E;cases E
 obtain⟨z,z,I,-⟩|⟨V,I,z,O⟩:=ZF Z h Y G u
 rw[I]at E;cases E
 rw[I]at E;simp[Ż]at E;obtain rfl:V=y:=Prod.ext E.1 E.2;exact⟨O.1,O.2.1,λv U=>O.2.2 v U⟩
def X3{fr f'}{cs cs':lF}{w w1:M}(h:J7 P fr)(E:(own P fr cs).run P w=.ok (f',cs') w1):step P (vD fr cs w)=.next (vD f' cs' w1):=by
 let e:=Zi (main:=sy) h E;exact C6 (by
  show(tt P sy (G fr cs) w).bare=_
  rw[e];rfl)
def R8 (O:Eb P p λ_=>False){c:Nat->CW}{T}(G:Ht P p (c 0)):∀n,(∀k,k<n->Ez P (c k) (c (k+1))/\(own P (c k).1.1 (c k).1.2).run P (À (c k).2 T)=.ok (c (k+1)).1 (À (c (k+1)).2 T)) ->
  Ht P p (c n)/\yc P n (vD (c 0).1.1 (c 0).1.2 (À (c 0).2 T))=.next (vD (c n).1.1 (c n).1.2 (À (c n).2 T))
 |0,_=>⟨G,J⟩
 |n+1,I=>by
  let⟨E,X⟩:=R8 O G n λk V=>I k (Ų V)
  let⟨U,Y⟩:=I n (ō _);let⟨Z,I⟩:=Mc O E U;refine⟨Z,?_⟩;rw[runN_add,X];show yc P 1 _=_
  simp[yc];rw[X3 (E.h.top.h I) Y]
structure PX (P:pG)(x0:CW)(Post:CW->Prop):Prop where
 l:∀t,∃(n:Nat)(y:CW),yc P n (vD x0.1.1 x0.1.2 (À x0.2 t))=.next (vD y.1.1 y.1.2 y.2)/\Post y
 a:∀y,Post y->DV y\/Nj y
 d:∀y,Post y->y.1.2=[ö]
 p:∀(y:CW) t,Post y->Post (y.1,À y.2 t)
def yE (hF:Eb P p λ_=>False){x0 Post}(h:PX P x0 Post)(h0:Ht P p x0):Acc (λy x=>Ez P x y) x0:=by
 refine ż λhna=>?_
 let nxt:∀x:{x:CW // ¬Acc (λy x=>Ez P x y) x},∃y:{x:CW // ¬Acc (λy x=>Ez P x y) x},Ez P x.1 y.1:=λ⟨x,c⟩=>by
  refine ż λhno=>c ⟨x,λy Y=>ż λhna=>hno ⟨⟨y,hna⟩,Y⟩⟩
 let c:Nat->{x:CW // ¬Acc (λy x=>Ez P x y) x}:=λn=>Nat.rec ⟨x0,hna⟩ (λ_ x=>(nxt x).choose) n
 let Z:∀n,Ez P (c n).1 (c (n+1)).1:=λn=>(nxt (c n)).choose_spec
 let hok:∀n,Ht P p (c n).1:=λn=>by
  induction n with
  |zero=>exact h0
  |succ n e=>exact(Mc hF e (Z n)).1
 let e:∀n,∃t,(own P (c n).1.1.1 (c n).1.1.2).run P (À (c n).1.2 t)=.ok (c (n+1)).1.1 (c (n+1)).1.2:=λn=>(Z n).2
 let⟨T,t⟩:=Pw (λn=>(c n).1.2.drawn) (λn=>(Ko hF (hok n) (Z n).1 (e n).choose_spec).2.1) (λn=>(e n).choose);let⟨n,y,X,Y⟩:=h.l T;have:=(R8 (c:=λn=>(c n).1) (T:=T) hF h0 n λk _=>⟨Z k,(Ko hF (hok k) (Z k).1 (e k).choose_spec).2.2 T (t k)⟩).2;let e:yc P n (vD x0.1.1 x0.1.2 (À x0.2 T))=.next (vD (c n).1.1.1 (c n).1.1.2 (À (c n).1.2 T)):=this;rw[X]at e;obtain⟨k,t,-⟩:=Ea (ũ e);obtain c|c:=h.a y Y
 exact(Z n).1 ⟨k▸c.1,t▸c.2⟩
 exact(Mc hF (hok n) (Z n)).2 ⟨k▸c.1,k▸c.2⟩
end
section
variable {P:tP}{H:Nat->Prop}{p:Gg}{x0:CW}{Post:CW->Prop}
def í.h (O:Eb P p λ_=>False){x}(h:í P x0 x)(G:Ht P p x0):Ht P p x:=by
 obtain⟨n,c,rfl,rfl,I⟩:=h;have:∀k,k<=n->Ht P p _:=λk U=>by
  induction k with
  |zero=>exact G
  |succ k E=>exact(Mc O (E N) (I k N)).1
 exact this n lr
def í.l (I:Eb P p λ_=>False){x}(h:í P x0 x)(Y:Ht P p x0)(u:Nat->ya->Nat):∃(n:Nat)(T:Nat->ya->Nat),(∀j q,x.2.drawn<=j->T j q=u j q)/\yc P n (vD x0.1.1 x0.1.2 (À x0.2 T))=.next (vD x.1.1 x.1.2 (À x.2 T))/\
   ∀m,m<n->∃y,¬DV y/\¬Nj y/\yc P m (vD x0.1.1 x0.1.2 (À x0.2 T))=.next (vD y.1.1 y.1.2 (À y.2 T)):=by
 obtain⟨n,c,rfl,rfl,G⟩:=h;let U:∀k,k<=n->Ht P p (c k):=λk E=>by
  induction k with
  |zero=>exact Y
  |succ k Z=>exact(Mc I (Z N) (G k N)).1
 let V:∀k,∃t,k<n->(own P (c k).1.1 (c k).1.2).run P (À (c k).2 t)=.ok (c (k+1)).1 (c (k+1)).2:=λk=>by
  by_cases E:k<n
  let⟨t,h⟩:=(G k E).2;exact⟨t,λ_=>h⟩
  exact⟨u,λh=>absurd h E⟩
 let⟨T,Z,t⟩:=Pp n (λk=>(c k).2.drawn) (λk E=>(Ko I (U k N) (G k E).1 ((V k).choose_spec E)).2.1) (λk=>(V k).choose) u;let one:∀m,m<=n->yc P m (vD (c 0).1.1 (c 0).1.2 (À (c 0).2 T))=.next (vD (c m).1.1 (c m).1.2 (À (c m).2 T)):=λm O=>
  (R8 (c:=c) (T:=T) I Y m λk E=>⟨G k N,(Ko I (U k N) (G k N).1 ((V k).choose_spec N)).2.2 T (Z k N)⟩).2
 exact⟨n,T,t,one n lr,λm O=>⟨c m,(G m O).1,(Mc I (U m N) (G m O)).2,one m N⟩⟩
def fM{fr}{cs:lF}(w:M)(E:fr.mode=.run)(G:fr.todo=[KR]):∃o w',step P (vD fr cs w)=.ended o w':=by
 obtain⟨I,tmps,todo,defers,mode,kind,I⟩:=fr;subst E G;exact⟨_,_,J⟩
def nD:∀(cs)(fr)(E)(w),(∃G,cs=G++[ö]/\∀g∈G,Gl P p g)->fr.mode=.panicking E->fr.defers=[]->(∃fn,P.funcs[fr.fn]? = A fn) ->
  ∀m (y),yc P m (vD fr cs w)=.next (vD y.1.1 y.1.2 y.2)->¬(DV y\/Nj y)
 |[],_,_,_,Y,_,_,_,_,_,_=>by
  obtain⟨G,h,-⟩:=Y;cases G<;>cases h
 |c::rest,fr,E,w,Y,o,O,⟨fn,x⟩,m,y,I=>by
  cases m with
  |zero=>
   obtain⟨e,-⟩:=Ea (ũ I);rintro(h|h)
   have:=h.1;rw[<-e,o]at this;cases this
   have:=h.1;rw[<-e,o]at this;cases this
  |succ m=>
   let e:step P (vD fr (c::rest) w)=.next (vD (c.raise E) rest w):=C6 (by simp[tt,unwind,Frame.catches,o,O,x]);simp[yc,e]at I;let⟨G,x,X⟩:=Y;cases G with
   |nil=>
    obtain⟨rfl,rfl⟩:=sx x
    cases m with
    |zero=>
     obtain⟨e,V,-⟩:=Ea (ũ I);rintro(h|h)
     have:=h.2;rw[<-V]at this;cases this
     have:=h.1;rw[<-e]at this;cases this
    |succ m=>
     let⟨o,e,U⟩:=VG (P:=P) w E;simp only[yc,U]at I;cases I
   |cons g G=>
    obtain⟨rfl,rfl⟩:=sx x
    let O:=X c (ï ..);let e:∃Z,(c.raise E).mode=.panicking Z/\(c.raise E).defers=[]/\(c.raise E).fn=c.fn:=by
     obtain h|h:=O.b
     exact⟨E,by simp[tw,h],by simp[tw,h,O.e],by simp[tw,h]⟩
     exact⟨E,by simp[tw,h],by simp[tw,h,O.e],by simp[tw,h]⟩
    let⟨Z,h,V,o⟩:=e;let⟨e,U⟩:=O.g;exact nD _ (c.raise E) Z w ⟨G,J,λx c=>X x (Ĥ _ c)⟩ h V ⟨e,o▸U⟩ m y I
def í.j (aj:Eb P p λ_=>False)(h:PX P x0 Post)(ab:Ht P p x0){x}(ac:í P x0 x)(u:Nat->ya->Nat):∃(T:Nat->ya->Nat)(k:Nat)(y:CW),(∀j q,x.2.drawn<=j->T j q=u j q)/\yc P k (vD x.1.1 x.1.2 (À x.2 T))=.next (vD y.1.1 y.1.2 y.2)/\Post y:=by
 let⟨n,T,Y,hrun,e⟩:=ac.l aj ab u;let⟨m,y,G,O⟩:=h.l T;obtain V|z:=nR m n
 .
  exfalso
  obtain⟨z,Z,U,z⟩:=e m V;let e:=G.symm.trans z;obtain⟨I,z,-⟩:=Ea (ũ e);obtain E|E:=h.a y O
  exact Z ⟨I▸E.1,z▸E.2⟩
  exact U ⟨I▸E.1,I▸E.2⟩
 refine⟨T,m-n,y,Y,?_,O⟩;rw[show m=n+(m-n)by omega,runN_add,hrun]at G;exact G
def uT (U:Eb P p λ_=>False)(h:PX P x0 Post)(aj:Ht P p x0){x}(al:í P x0 x)(ai:¬DV x)(ab:¬Nj x) u:¬∃z w1,(own P x.1.1 x.1.2).run P (À x.2 u)=.halt z w1/\JQ z:=by
 rintro⟨z,w1,g,g⟩;let I:=al.h U aj;let⟨T,k,y,av,hrun,ak⟩:=al.j U h aj u;cases k with
 |zero=>
  obtain⟨O,aa,-⟩:=Ea (ũ hrun);obtain E|E:=h.a y ak
  exact ai ⟨O▸E.1,aa▸E.2⟩
  exact ab ⟨O▸E.1,O▸E.2⟩
 |succ k=>
  obtain⟨g,w2,O,am⟩|⟨g,aG,-,-⟩:=ZF U I ai ab T
  .
   obtain⟨Y,E,aE⟩|⟨o,o,E,R⟩:=XW (main:=sy) (I.h.top.h ab) O am
   .
    let Z:=C6 (by
     show(tt P sy (G x.1.1 x.1.2) (À x.2 T)).bare=_
     rw[aE];rfl)
    simp[yc,Z]at hrun;let V:=I.h.top;let ap:∃ac,(x.1.1.raise [{v:=Y,recovered:=ss}]).mode=.panicking ac/\(x.1.1.raise [{v:=Y,recovered:=ss}]).defers=[]/\(x.1.1.raise [{v:=Y,recovered:=ss}]).fn=x.1.1.fn:=by
     obtain h|h:=V.b
     exact⟨_,by simp[tw,h];rfl,by simp[tw,h,V.e],by simp[tw,h]⟩
     exact⟨_,by simp[tw,h];rfl,by simp[tw,h,V.e],by simp[tw,h]⟩
    let⟨ac,O,aa,aI⟩:=ap;let⟨g,Y⟩:=V.g;let⟨aC,ax,V⟩:=I.h.h;exact nD x.1.2 _ ac w2 ⟨aC,ax,λg o=>(V g o).1⟩ O aa ⟨g,aI▸Y⟩ k y hrun (h.a y ak)
   let Z:=DG (by
    show(tt P sy (G x.1.1 x.1.2) (À x.2 T)).bare=_
    rw[R];rfl)
   simp only[yc,Z]at hrun;cases hrun
  have:=(Ko U I ai aG).2.2 u λj q g _=>(av j q g).symm
  simp_all
def xW (aj:Eb P p λ_=>False)(h:PX P x0 Post)(ai:Ht P p x0){x}(ao:í P x0 x)(G:DV x\/Nj x):∃T,Post (x.1,À x.2 T):=by
 have ab:=ao.h aj ai;let⟨T,k,y,a,hrun,ak⟩:=ao.j aj h ai λ_ _=>0
 cases k with
 |zero=>
  let⟨am,Z,k⟩:=Ea (ũ hrun);refine⟨T,?_⟩;have:y=(x.1,À x.2 T):=by
   obtain⟨⟨v,v⟩,v⟩:=y;dsimp only at am Z k
   subst am Z k;rfl
  rw[<-this];exact ak
 |succ k=>
  exfalso
  obtain G|G:=G
  .
   have al:=G.2;have I:=G.1;let⟨⟨V,v⟩,aa⟩:=x;dsimp only at al I hrun
   subst al;let⟨f0,Y⟩:=ab.h.top.g;dsimp only at Y
   let v:=ab.h.top.h λa=>by
    have:=a.1;dsimp only at this
    rw[I]at this;cases this
   cases E:(own P V [ö]).run P (À aa T)with
   |ok a w1=>
    let z:=X3 (f':=a.1) (cs':=a.2) v E;simp[yc,z]at hrun;let O:a=(ö,[]):=by
     simp[own,I,Y,ő]at E;cases U:(results f0 V.tmps).run P (À aa T)with
     |halt z w2=>rw[U]at E;simp at E
     |ok v w2=>
      rw[U]at E;simp[Λ,Ů,Ż]at E;exact E.1.symm
    rw[O]at hrun;cases k with
    |zero=>
     obtain⟨-,Z,-⟩:=Ea (ũ hrun);have:=h.d y ak;rw[<-Z]at this;cases this
    |succ k=>
     let⟨o,w3,O⟩:=dQ (P:=P) w1;simp only[yc,O]at hrun;cases hrun
   |halt z w1=>
    simp[own,I,Y,ő]at E;cases U:(results f0 V.tmps).run P (À aa T)with
    |ok v w2=>rw[U]at E;simp at E
    |halt z w2=>
     have:∃o w3,step P (vD V [ö] (À aa T))=.ended o w3:=by
      let a:=ab.h.top.e;dsimp only at a
      cases z<;>exact⟨_,_,DG (by simp only[tt,unwind,a,I,Y,U,Sem.runT_eq,GStep.after];rfl)⟩
     let⟨o,w3,O⟩:=this;simp only[yc,O]at hrun;cases hrun
  let⟨o,w3,O⟩:=fM (P:=P) (cs:=x.1.2) (À x.2 T) G.1 G.2;simp only[yc,O]at hrun;cases hrun
end
open Go.ConcN (sumTo upd sumTo_upd upd_ne upd_same)
def Cc (P:pG)(Post:Vl->M->Prop)(m:Machine)(t:A1):=∃r9 last o w' E,runNT P (r9+1) m t=(.ended o w',E)/\yc P r9 m=.next last/\step P last=.ended o w'/\Go.Conc.Good P Post last o w' E
section
variable {P:tP}{Post:Value->World->Prop}{Shun:Loc->Prop}
def Cc.e{m E t ops}(h:stepT P m=(.next E,ops))(G:Cc P Post E (t++ops)):Cc P Post m t:=by
 let⟨r9,last,o,w',U,V,I,Y,O⟩:=G;refine⟨r9+1,last,o,w',U,?_,?_,Y,O⟩
 rw[runNT,h];exact V
 let Z:step P m=.next E:=by
  show(stepT P m).1=_
  rw[h]
 simp[yc,Z];exact I
def GZ{a:gR}(hrun:a.status=.running)(K:gR->M->Nat->Prop)
  (aG:∀al a' w' Z aj q' I,K a' w' I->al[0]? = A a'->Leavers P aj al q'->Past Shun I aj->Cc P Post (uz al w' Z) aj) se:∀(gs:Array gR)(w:M)(sl)(t)(q)(B),s4 gs.size q=se->gs[0]? = A a->Leavers P t gs q->Past Shun B t ->
  (∀d,∃a' w' es I,tt P sy a (w.at d)=.go a' w' es/\(∀e∈es,EvL Shun I e)/\B<=I/\K a' w' I)->Cc P Post (uz gs w sl) t:=by
 induction se using Nat.strongRecOn with
 |ind se L=>
  intro gs w sl t q B g X Y r9 Q;let j:∀g∈gs,awake g:=by
   intro g V;obtain⟨i,E,rfl⟩:=ly.1 V;obtain rfl|k:=Ģ i
   .
    have:gs[0]=a:=sX (ÿ E) X
    rw[this];exact awake_of (.inl hrun)
   exact awake_of ((Y.old i _ k (ÿ E)).status.elim .inl λx=>.inr (.inr x))
  let⟨i,g,d,Z,E,V,R⟩:=crowd_pick (P:=P) (w:=w) (sl:=sl) j ⟨0,a,X,hrun⟩;let W:∀(n:Nat)(j:fI)(pos:String)(es:Array Event),∀k∈MemOp.ofEvents n j pos es,k.g=n:=λn j pos es k j=>by
   obtain⟨e,-,rfl⟩:=sB j;rfl
  obtain rfl|k:=Ģ i
  .
   obtain rfl:=by rw[X]at E;exact(Ö E).symm
   let⟨a',w',es,I,j,O,y,x⟩:=Q d;let T:=wN (P:=P) (sl:=Z) (i:=0) E (show tt P (0==0) g (w.at d)=_ from j);let n:=(ω.1 X).1;refine Cc.e (R.trans T) (aG _ a' w' Z _ q I x (oy n) ⟨λj x G U=>?_,λj G=>?_⟩ ((r9.mono y).own O))
   rw[û N,jx]at U;obtain⟨y,S,rfl⟩:=ė.1 U;let O:=Y.old j y G S;rw[woken_quitsD O,tS t N _ (W 0 _ _ _)];exact O
   rw[tS t (g':=0) (by simp at G;omega) _ (W 0 _ _ _)];exact Y.above j (sx G)
  let O:=Y.old i g k E;let y:(i==0)=false:=so
  let n:=(ω.1 E).1;cases ao:q i with
  |zero=>rw[ao]at O;rw[O.1]at V;cases V
  |succ k=>
   rw[ao]at O;obtain⟨x,_⟩|⟨_,g',es,r7,j,S⟩:=O
   rw[x]at V;cases V
   let T:=wN (P:=P) (sl:=Z) (i:=i) E (y▸j (w.at d));let y:((gs.map (woken P g g' (w.at d))).setIfInBounds i g').size=gs.size:=sm;let g:s4 gs.size (upd q i k)+(k+1)=s4 gs.size q+k:=by
    have:=sumTo_upd q k id n;simpa[ao]using this
   refine Cc.e (R.trans T) (L _ ?_ _ (w.at d) Z _ (upd q i k) B J ?_ ⟨λj x G U=>?_,λj G=>?_⟩ (r9.mute N r7) λd'=>Q d')
   rw[y];omega
   rw[û N,jx,X];simp[woken_run hrun]
   .
    by_cases g:i=j
    subst g;rw[ş (sx n)]at U;obtain rfl:=Ö U;rw[upd_same,Deaf_own];exact S
    rw[û g,jx]at U;obtain⟨y,S,rfl⟩:=ė.1 U;let n:=Y.old j y G S;rw[woken_quitsD n,upd_ne q k (ħ g),tS t g _ (W i _ _ _)];exact n
   rw[tS t (g':=i) (by simp at G;omega) _ (W i _ _ _)];exact Y.above j (sx G)
def KM (H:Nat->Prop):Loc->Prop:=λl=>∃a,l=.cell a/\H a.block
def Qr{H n e}(h:Qx H n e):EvL (KM H) n e:=by
 let⟨loc,X,Z⟩:=e;refine⟨λx x b=>?_,λY=>?_,λY=>?_,?_⟩
 .
  exfalso
  obtain⟨a,a,f⟩:=b;cases loc with
  |cell b=>
   have:=(h.1 b J).1;cases Z<;>simp[sT,vw]at x<;>subst x<;>(cases a;exact this f)
  |obj r=>cases Z<;>cases X<;>simp[sT,vw]at x<;>subst x<;>cases a
  |output=>exact h.2.2.1 J
  |goroutines=>cases Z<;>simp[sT,vw]at x<;>subst x<;>cases a
  |mark m=>obtain rfl|⟨f,rfl⟩:=h.2.2.2 m J<;>simp[sT,vw]at x
 obtain a|⟨f,a⟩:=h.2.2.2 _ Y<;>cases a
 obtain a|⟨f,a⟩:=h.2.2.2 _ Y<;>cases a
 cases loc with
 |cell b=>exact(h.1 b J).2
 |obj r=>cases Z<;>cases X<;>exact(h.2.1 r J).2
 |output=>exact sk
 |goroutines=>exact sk
 |mark m=>obtain rfl|⟨f,rfl⟩:=h.2.2.2 m J<;>exact sk
end
variable {b c i g Z:Nat}
def IP{a b c d}(f:a->c)(g:b->d)(h:a\/b):c\/d:=h.elim (λx=>.inl (f x)) λy=>.inr (g y)
def Þ (b:Nat):Loc->Prop
 |.cell a=>a.block=b
 |.obj r=>r=b
 |_=>False
def gZ{Y l}(h:Þ b l)(E:Þ Y l):b=Y:=by
 cases l<;>simp[Þ]at h E
 exact h.symm.trans E
 exact h.symm.trans E
def fP{B l}(h:Þ b l)(E:l.low B):b<B:=by
 cases l<;>simp[Þ]at h
 exact h▸E
 exact h▸E
structure PY where
 b:Loc->Prop
 g:Loc->Prop
 a:Loc->Prop
 d:Nat->Prop
 e:Nat->Nat->Prop
structure PY.r (S:PY):Prop where
 zero:¬S.d 0
 one:∀g g' b,S.e g b->S.e g' b->g=g'
 still:∀g b l,S.e g b->Þ b l->¬S.b l
 shun:∀g b l,S.e g b->Þ b l->¬S.g l
 parted:∀l,S.b l->¬S.g l
 wg:∀l,S.a l->S.g l
 memory:∀l,S.b l->l.isMemory=sy
structure Cu (S:PY)(B d:Nat)(t:A1):Prop where
 q:∀said,¬Race said t
 p:∀i a,Cl t i=A a->a.loc.isMemory=sy->Knows t 0 i\/(S.g a.loc/\a.kind=.atomic)\/∃g,t.g? i=A g/\S.d g/\a.kind≠.atomic/\((a.write=ss/\S.b a.loc)\/∃b,S.e g b/\Þ b a.loc)
 r:∀i a,Cl t i=A a->a.write=sy->S.b a.loc->∀g,S.d g->Knows t g i
 e:∀i a g b,Cl t i=A a->S.e g b->Þ b a.loc->t.g? i=A g
 k:∀i a,Cl t i=A a->S.a a.loc->a.kind≠.plain
 w:∀i g,t.g? i=A g->g≠0->¬S.d g->t.counts i->∃j,t.g? j=A 0/\x4 t i j
 h:Ax t 0=d
 m:∀op∈t,op.act.low B
section
variable {S:PY}{B d d':Nat}{t u:A1}
def Cg{a}(h:Cl (t++u) i=A a):(i<t.size/\Cl t i=A a)\/∃x,(t++u)[i]? = A x/\x∈u/\x.act.touch? = A a:=by
 let⟨x,G,E⟩:=G0 h;obtain⟨U,I⟩|⟨_,O⟩:=getElem?_append_cases G
 exact .inl ⟨U,touchAt_of I▸E⟩
 exact .inr ⟨x,G,O,E⟩
def Cu.s (H:Cu S B d t){a}(U:i<t.size)(G:Cl t i=A a)(E:a.loc.isMemory=sy):Knows (t++u) 0 i\/(S.g a.loc/\a.kind=.atomic)\/∃g,(t++u).g? i=A g/\S.d g/\a.kind≠.atomic/\((a.write=ss/\S.b a.loc)\/∃b,S.e g b/\Þ b a.loc):=by
 obtain h|h|⟨g,O,I⟩:=H.p i a G E
 exact .inl (h.app u)
 exact .inr (.inl h)
 exact .inr (.inr ⟨g,by rw[DK U];exact O,I⟩)
def Cu.y (H:Cu S B d t)(G:i<t.size)(Y:(t++u).g? i=A g)(U:g≠0)(I:¬S.d g)(Z:(t++u).counts i):∃j,(t++u).g? j=A 0/\x4 (t++u) i j:=by
 let⟨j,E,V⟩:=H.w i g (by rw[<-DK (u:=u) G];exact Y) U I ((counts_old G).1 Z);let O:j<t.size:=by
  obtain⟨z,z,_⟩:=ė.1 E;exact lt_size_of_getElem? z
 exact⟨j,by rw[DK O];exact E,hb_app u V⟩
def Cu.x (H:Cu S B d t)(ac:∀op∈u,op.g=Z)(h:Z=0\/S.d Z):∀i g,(t++u).g? i=A g->g≠0->¬S.d g->(t++u).counts i->∃j,(t++u).g? j=A 0/\x4 (t++u) i j:=λi g E V O y=>by
 let⟨x,G,Y,I⟩:=y;obtain⟨X,-⟩|⟨y,U,y,-⟩:=Cg G
 exact H.y X E V O ⟨x,G,Y,I⟩
 rw[B6 U]at E;simp_all
def Cu.z (H:Cu S B d t)(aN:S.r)(aj:∀op∈u,op.g=0)
  (ab:∀op∈u,∀b,op.act.touch? = A b->(S.b b.loc->b.write=ss)/\(S.g b.loc->b.kind≠.plain)/\∀g k,S.e g k->¬Þ k b.loc)
  (an:Ax (t++u) 0=d')(aC:∀op∈u,op.act.low B):Cu S B d' (t++u):=by
 refine⟨λsaid=>Hy (H.q said) aj λi a E op G b x O=>?_,λi a E Q=>?_,λi a E V Z g P=>?_,λi a g b E W X=>?_,λi a E T=>?_,H.x aj (.inl J),an,Kf H.m aC⟩
 .
  let⟨U,r9,Y⟩:=ab op G b x;obtain G|⟨I,x⟩|⟨g,-,-,-,⟨V,Z⟩|⟨k,G,X⟩⟩:=H.p i a E O.2.1
  exact G
  .
   let R:=r9 (O.1▸I);let⟨_,_,_,I⟩:=O;rw[x]at I;obtain x|x|⟨_,x,_⟩:=I
   cases x
   cases R x
   cases x
  .
   let I:=U (O.1▸Z);obtain x|x:=O.2.2.1
   rw[V]at x;cases x
   rw[I]at x;cases x
  cases Y g k G (O.1▸X)
 .
  obtain⟨Y,I⟩|⟨x,O,G,U⟩:=Cg E
  exact H.s Y I Q
  have:=knows_own O;rw[aj x G]at this;exact .inl this
 .
  obtain⟨Y,I⟩|⟨x,O,G,U⟩:=Cg E
  exact(H.r i a I V Z g P).app u
  rw[(ab x G a U).1 Z]at V;cases V
 .
  obtain⟨Y,I⟩|⟨x,O,G,U⟩:=Cg E
  rw[DK Y];exact H.e i a g b I W X
  cases (ab x G a U).2.2 g b W X
 obtain⟨Y,I⟩|⟨x,O,G,U⟩:=Cg E
 exact H.k i a I T
 exact(ab x G a U).2.1 (aN.wg _ T)
def Cu.n (H:Cu S B d t)(O:S.r)(ak:S.d g)(ac:∀op∈u,op.g=g)
  (ai:∀op∈u,∀b,op.act.touch? = A b->b.kind≠.atomic/\((b.write=ss/\S.b b.loc)\/∃k,S.e g k/\Þ k b.loc))
  (ax:∀op∈u,op.act.low B):Cu S B d (t++u):=by
 let I:g≠0:=λe=>O.zero (e▸ak)
 refine⟨λsaid=>Hy (H.q said) ac λi a E op x b G e=>?_,λi a E Q=>?_,λi a E X W g' P=>?_,λi a g' b E R V=>?_,λi a E T=>?_,H.x ac (.inr ak),(tS t I u ac).trans H.h,Kf H.m ax⟩
 .
  rcases(ai op x b G).2 with⟨X,W⟩|⟨k,U,V⟩
  .
   obtain x|x:=e.2.2.1
   exact H.r i a E x (e.1▸W) g ak
   rw[X]at x;cases x
  have:=H.e i a g k E U (e.1▸V);obtain⟨x,I,-⟩:=G0 E;let e:=knows_own I;rw[B6 I]at this;rwa[Ö this]at e
 .
  obtain⟨e,Z⟩|⟨x,I,G,Y⟩:=Cg E
  exact H.s e Z Q
  exact .inr (.inr ⟨g,by rw[B6 I,ac x G],ak,ai x G a Y⟩)
 .
  obtain⟨e,Z⟩|⟨x,I,G,Y⟩:=Cg E
  exact(H.r i a Z X W g' P).app u
  rcases(ai x G a Y).2 with⟨aa,-⟩|⟨k,U,V⟩
  rw[aa]at X;cases X
  cases O.still g k _ U V W
 .
  obtain⟨e,Z⟩|⟨x,I,G,Y⟩:=Cg E
  rw[DK e];exact H.e i a g' b Z R V
  rcases(ai x G a Y).2 with⟨-,aa⟩|⟨k,U,an⟩
  cases O.still g' b _ R V aa
  obtain rfl:=gZ an V;rw[B6 I,ac x G,O.one g g' _ U R]
 obtain⟨e,Z⟩|⟨x,I,G,Y⟩:=Cg E
 exact H.k i a Z T
 rcases(ai x G a Y).2 with⟨-,aa⟩|⟨k,U,an⟩
 cases O.parted _ aa (O.wg _ T)
 cases O.shun g k _ U an (O.wg _ T)
def Cu.v (H:Cu S B d t)(ab:∀op∈u,op.act.touch? = none)(ac:Ax (t++u) 0=d')(ao:∀op∈u,op.act.low B):Cu S B d' (t++u):=by
 let Y:∀{x:MemOp}{a:Touch}{sd:Prop},x∈u->x.act.touch? = A a->sd:=λG E=>by rw[ab _ G]at E;cases E
 refine⟨λsaid=>noRace_appendMute (H.q said) ab,λi a O sd=>?_,λi a O W R g Z=>?_,λi a g b O Q X=>?_,λi a O T=>?_,λi g Z P sd y=>?_,ac,Kf H.m ao⟩
 .
  obtain⟨I,U⟩|⟨x,V,G,E⟩:=Cg O
  exact H.s I U sd
  exact Y G E
 .
  obtain⟨I,U⟩|⟨x,V,G,E⟩:=Cg O
  exact(H.r i a U W R g Z).app u
  exact Y G E
 .
  obtain⟨I,U⟩|⟨x,V,G,E⟩:=Cg O
  rw[DK I];exact H.e i a g b U Q X
  exact Y G E
 .
  obtain⟨I,U⟩|⟨x,V,G,E⟩:=Cg O
  exact H.k i a U T
  exact Y G E
 let⟨x,V,E,b⟩:=y;obtain⟨I,-⟩|⟨y,a,a,g⟩:=Cg V
 exact H.y I Z P sd ⟨x,V,E,b⟩
 exact Y a g
def Cu.atomic (H:Cu S B d t)(Y:S.r)(Z:g=0\/S.d g)(ak:∀op∈u,op.g=g)(U:∀op∈u,∀b,op.act.touch? = A b->S.a b.loc/\b.kind=.atomic)(al:Ax (t++u) 0=d')(aq:∀op∈u,op.act.low B):Cu S B d' (t++u):=by
 refine⟨λsaid=>Hy (H.q said) ak λi a E op G b x h=>?_,λi a E Q=>?_,λi a E R X g Z=>?_,λi a g b E W T=>?_,λi a E P=>?_,H.x ak Z,al,Kf H.m aq⟩
 let⟨I,O⟩:=U op G b x;let x:=H.k i a E (h.1▸I);let⟨_,_,_,x⟩:=h;simp_all
 .
  obtain⟨V,O⟩|⟨x,h,G,I⟩:=Cg E
  exact H.s V O Q
  exact .inr (.inl ⟨Y.wg _ (U x G a I).1,(U x G a I).2⟩)
 .
  obtain⟨V,O⟩|⟨x,h,G,I⟩:=Cg E
  exact(H.r i a O R X g Z).app u
  cases Y.parted _ X (Y.wg _ (U x G a I).1)
 .
  obtain⟨V,O⟩|⟨x,h,G,I⟩:=Cg E
  rw[DK V];exact H.e i a g b O W T
  cases Y.shun g b _ W T (Y.wg _ (U x G a I).1)
 obtain⟨V,O⟩|⟨x,h,G,I⟩:=Cg E
 exact H.k i a O P
 rw[(U x G a I).2];exact nofun
def PY.drop (S:PY)(g:Nat):={S with e:=λg' b=>S.e g' b/\g'≠g}
def Cu.F (H:Cu S B 0 t)(ai:Ax t g=0)(G:fI) E(f0:fI) I k cap(aC:c<B):Cu (S.drop g) B 0 (t++met g 0 G E f0 I c k cap):=by
 let e:=met_mute g 0 G E f0 I c k cap;let b:=λx=>met_quiet g 0 G E f0 I c k cap x
 let h:∀a∈met g 0 G E f0 I c k cap,a.act.low B:=λa a=>by
  simp[met,ĺ,sV,ġ,ĝ]at a;obtain rfl|rfl|rfl|rfl:=a<;>exact aC
 let K:=H.v e ((Kh (b 0)).trans H.h) h;let O:(t++met g 0 G E f0 I c k cap)[t.size]? = A {g:=g,fn:=G,pos:=E,act:=.send c k}:=by simp[met]
 let Y:(t++met g 0 G E f0 I c k cap)[t.size+3]? = A {g:=0,fn:=f0,pos:=I,act:=.recvDone c k}:=by simp[met]
 let R:x4 (t++met g 0 G E f0 I c k cap) t.size (t.size+3):=
  ye (.inr ⟨.handOver (GC O) (GC Y),⟨g,B6 O,deaf_old lr▸ai⟩,⟨0,B6 Y,deaf_quiet (b 0) 3 (by simp[met])▸H.h⟩⟩)
 refine⟨K.q,λi a Z W=>?_,K.r,λi a g' b Z e h=>K.e i a g' b Z e.1 h,K.k,K.w,K.h,K.m⟩;obtain⟨T,b⟩|⟨x,V,e,e⟩:=Cg Z
 .
  obtain⟨x,V,-⟩:=G0 b;obtain h|h|⟨g',U,X,K,Z⟩:=H.p i a b W
  exact .inl (h.app _)
  exact .inr (.inl h)
  by_cases e:g'=g
  subst e;have:=knows_own V;rw[show x.g=g' from by rw[B6 V]at U;exact Ö U]at this;exact .inl ⟨t.size+3,_,Y,J,.inr ((this.hb_new lr O J).trans R)⟩
  exact .inr (.inr ⟨g',by rw[DK T];exact U,X,K,IP id (λ⟨b,a,h⟩=>⟨b,⟨a,e⟩,h⟩) Z⟩)
 simp_all
def PY.q (S:PY)(c:Nat):={S with d:=λg=>S.d g\/g=c}
def Cu.G (H:Cu S B 0 t)(aj:S.r)(am:Ax t c=0)(f0:fI) I(ab:fI):Cu (S.q c) B 0 (t++#[{g:=0,fn:=f0,pos:=I,act:=.go c},{g:=c,fn:=ab,pos:=I,act:=.start}]):=by
 generalize G:(#[{g:=0,fn:=f0,pos:=I,act:=.go c},{g:=c,fn:=ab,pos:=I,act:=.start}]:A1)=u;let h:∀a∈u,a.act.touch? = none:=by
  intro a E;subst G;simp[ĺ,sV,ġ,ĝ]at E;obtain rfl|rfl:=E<;>rfl
 let b:∀g,∀a∈u,∀d,deafStep g d a=d:=by
  intro g a E d;subst G;simp[ĺ,sV,ġ,ĝ]at E;obtain rfl|rfl:=E<;>rfl
 let d:∀a∈u,a.act.low B:=by
  intro a E;subst G;simp[ĺ,sV,ġ,ĝ]at E;obtain rfl|rfl:=E<;>trivial
 let Z:(t++u)[t.size]? = A {g:=0,fn:=f0,pos:=I,act:=.go c}:=by subst G;simp
 let V:(t++u)[t.size+1]? = A {g:=c,fn:=ab,pos:=I,act:=.start}:=by subst G;simp
 let X:x4 (t++u) t.size (t.size+1):=
  ye (.inr ⟨.spawn (GC Z) (GC V) (B6 V),⟨0,B6 Z,deaf_old lr▸H.h⟩,⟨c,B6 V,deaf_quiet (b c) 1 (by subst G;simp)▸am⟩⟩)
 let K:=H.v h ((Kh (b 0)).trans H.h) d;refine⟨K.q,λi a Y b=>?_,λi a Y u U g O=>?_,K.e,K.k,λi g O d b x=>K.w i g O d (λh=>b (.inl h)) x,K.h,K.m⟩
 .
  obtain h|h|⟨g,E,d,x⟩:=K.p i a Y b
  exact .inl h
  exact .inr (.inl h)
  exact .inr (.inr ⟨g,E,.inl d,x⟩)
 obtain O|rfl:=O
 exact K.r i a Y u U g O
 obtain⟨b,E⟩|⟨x,b,b,b⟩:=Cg Y
 .
  let d:Knows t 0 i:=by
   obtain h|⟨h,-⟩|⟨g',-,-,-,⟨h,-⟩|⟨b,G,x⟩⟩:=H.p i a E (aj.memory _ U)
   exact h
   cases aj.parted _ U h
   rw[h]at u;cases u
   cases aj.still g' b _ G x U
  exact⟨t.size+1,_,V,J,.inr ((d.hb_new lr Z J).trans X)⟩
 simp_all
def PY.E (S:PY)(g:Nat)(r9:Nat->Prop):={S with e:=λg' b=>S.e g' b\/(g'=g/\r9 b)}
def Cu.E{r9}(H:Cu S B d t)(al:∀b,r9 b->B<=b):Cu (S.E g r9) B d t:=by
 refine⟨H.q,λi a G V=>?_,H.r,λi a g' b G I U=>?_,H.k,H.w,H.h,H.m⟩
 .
  obtain h|h|⟨g',x,e,Y,m⟩:=H.p i a G V
  exact .inl h
  exact .inr (.inl h)
  exact .inr (.inr ⟨g',x,e,Y,IP id (λ⟨b,e,h⟩=>⟨b,.inl e,h⟩) m⟩)
 obtain I|⟨-,h⟩:=I
 exact H.e i a g' b G I U
 let⟨x,e,E⟩:=G0 G;let O:=H.m x (ŵ e);have:a.loc.low B:=by
  cases Z:x.act<;>rw[Z]at E O<;>first|(cases E;done)|skip
  case access e=>cases E;exact O
  case mark m=>cases m<;>first|(cases E;done)|(cases E;exact O)
 have:=fP U this;have:=al b h;omega
def Cu.l (H:Cu S B d t)(h:B<=Z):Cu S Z d t:=⟨H.q,H.p,H.r,H.e,H.k,H.w,H.h,λY E=>MemAct.low_mono h (H.m Y E)⟩
def Cu.f{Shun}(H:Past Shun B t)(ab:∀l,Shun l->S.g l)(Z:∀g b,¬S.e g b)(ai:∀g,¬S.d g)(aa:∀l,S.a l->¬l.low B):Cu S B 0 t:=
 ⟨H.clean,λi a O G=>IP id (λh=>.inl ⟨ab _ h.1,h.2⟩) (H.known i a O G),λ_ _ _ _ _ g U=>absurd U (ai g),λ_ _ g b _ G _=>absurd G (Z g b),λ_ _ O V=>absurd ((by
   let⟨x,a,E⟩:=G0 O;let I:=H.seen x (ŵ a);cases Y:x.act<;>rw[Y]at E I<;>first|(cases E;done)|skip
   case access e=>cases E;exact I
   case mark m=>cases m<;>first|(cases E;done)|(cases E;exact I))) (aa _ V),
  λi g U a _ e=>H.over i g U a e,H.hears,H.seen⟩
open Go.ConcN in
def Cu.D{a}(H:Cu S B 0 t)(aI:∀g,S.d g->∃r,RelBy a t g r)(aW:NoRelease a t)(fn:fI) pos(a1:a.block<B):Past S.g B (t++#[{g:=0,fn,pos,act:=.mark (.acquire a)}]):=by
 generalize h:(#[{g:=0,fn,pos,act:=.mark (.acquire a)}]:A1)=u;let X:∀b∈u,b.act.touch? = none:=by
  intro b E;subst h;simp[ĺ,sV,ġ,ĝ]at E;subst E;rfl
 let ax:∀g,∀b∈u,∀d,deafStep g d b=d:=by
  intro g b E d;subst h;simp[ĺ,sV,ġ,ĝ]at E;subst E;rfl
 let aG:∀b∈u,b.act.low B:=by
  intro b E;subst h;simp[ĺ,sV,ġ,ĝ]at E;subst E;exact a1
 let K:=H.v X ((Kh (ax 0)).trans H.h) aG;let E:(t++u)[t.size]? = A {g:=0,fn,pos,act:=.mark (.acquire a)}:=by subst h;simp
 let aC:∀g r,RelBy a t g r->x4 (t++u) r t.size:=λg r h=>by
  let O:=lt_of_act? h.act;refine ye (.inr ⟨.marked O (.inr (by rw[act?_old O];exact h.act)) (GC E) λk T W=>?_,(heard_old O).2 h.heard,⟨0,B6 E,deaf_old lr▸H.h⟩⟩);rw[act?_old W];exact aW k
 let R:∀i g,t.g? i=A g->S.d g->t.counts i->x4 (t++u) i t.size:=λi g U I Z=>by
  let⟨r,h⟩:=aI g I;let⟨x,Y,av⟩:=ė.1 (show(t[i]?).map (·.g)=A g from U);let⟨y,d,a0⟩:=ė.1 (show(t[r]?).map (·.act)=_ from h.act);let aB:y.g=g:=by have:=h.g;rw[B6 d]at this;exact Ö this
  obtain O|rfl|aw:=θ i r
  refine(hb_app u (hb_po O Y d (av.trans aB.symm))).trans (aC g r h)
  .
   obtain⟨b,G,-⟩:=Z;rw[Y]at d;cases d
   rw[show(t.act? i)=A x.act from GC Y,a0]at G;cases G
  cases h.after i aw U Z
 let aE:∀i b,Cl (t++u) i=A b->b.loc.isMemory=sy->Knows (t++u) 0 i\/(S.g b.loc/\b.kind=.atomic):=λi b G I=>by
  obtain⟨d,k⟩|⟨x,Y,y,V⟩:=Cg G
  .
   obtain h|h|⟨g,T,W,aN,-⟩:=H.p i b k I
   exact .inl (h.app u)
   exact .inr h
   exact .inl ⟨t.size,_,E,J,.inr (R i g T W ⟨b,k,I,.inl aN⟩)⟩
  rw[X x y]at V;cases V
 refine⟨K.q,aE,λi g U ap Z=>?_,K.h,K.m⟩;by_cases I:S.d g
 .
  let⟨b,G,aq,aL⟩:=Z;obtain⟨d,k⟩|⟨x,Y,y,V⟩:=Cg G
  exact⟨t.size,B6 E,R i g (by rw[<-DK (u:=u) d];exact U) I ((counts_old d).1 ⟨b,G,aq,aL⟩)⟩
  rw[X x y]at V;cases V
 exact K.w i g U ap I Z
end
section
variable {α:Type}{r:α->α->Prop}
def Mt (r:α->α->Prop)(k:Nat)(f' f:Nat->α):=∃i,i<k/\r (f' i) (f i)/\∀j,j≠i->f' j=f j
def xL (O:WellFounded r):∀k,WellFounded (Mt r k)
 |0=>⟨λf=>⟨f,λf'⟨i,G,_⟩=>absurd G (İ _)⟩⟩
 |k+1=>by
  refine Subrelation.wf (r:=InvImage (Prod.Lex r (Mt r k)) λf:Nat->α=>(f k,f)) ?_ (InvImage.wf _ (Prod.lex ⟨r,O⟩ ⟨Mt r k,xL O k⟩).wf)
  rintro f' f⟨i,G,E,I⟩;show Prod.Lex r (Mt r k) (f' k,f') (f k,f)
  by_cases e:i=k
  subst e;exact Dd _ _ E
  rw[I k λh=>e h.symm];exact Cp _ ⟨i,N,E,I⟩
def KV (r:α->α->Prop)(k:Nat)(x' x:Nat×(Nat->α)):=x'.1<x.1\/(x'.1=x.1/\Mt r k x'.2 x.2)
def tu (G:WellFounded r) k:WellFounded (KV r k):=by
 refine Subrelation.wf (r:=Prod.Lex (·<·) (Mt r k)) ?_ (Prod.lex Nat.lt_wfRel ⟨Mt r k,xL G k⟩).wf;rintro⟨a',f'⟩ ⟨a,f⟩(h|⟨h,E⟩)
 exact Dd _ _ h
 dsimp only at h E
 subst h;exact Cp _ E
end
abbrev Mv (P:pG):={x:CW // Acc (λy x=>Ez P x y) x}
def yD P:WellFounded λy x:Mv P=>Ez P x.1 y.1:=by
 refine⟨λ⟨x,I⟩=>?_⟩;induction I with
 |intro x h E=>exact⟨_,λ⟨y,O⟩G=>E y G⟩
def Wm (P:pG) n(G:0<n)(w:M):∃a d,a<n/\(wP (.select n)).run P w=.ok a (w.at d):=by
 by_cases E:(Question.select n).forced=sy
 exact⟨0,w.drawn,G,by simp[wP,Sem.run,E,ô];rfl⟩
 exact⟨_,w.drawn+1,Nat.mod_lt _ G,by simp only[wP,Sem.run,E];rfl⟩
def Vk (P:pG) m n(G:0<n)(w:M):∃a d,a<n/\(wP (.extern m n)).run P w=.ok a (w.at d):=by
 by_cases E:(Question.extern m n).forced=sy
 exact⟨0,w.drawn,G,by simp[wP,Sem.run,E,ô];rfl⟩
 refine⟨(Question.extern m n).cut (w.tape w.drawn (.extern m n)),w.drawn+1,?_,by simp[wP,Sem.run,E];rfl⟩;simp[Question.cut];rw[Ä N];exact Nat.mod_lt _ G
section
variable {P:tP}{gs:Array Goroutine}{w w₁:World}{sl:Option (Nat×Nat)}{i:Nat}{g g₂:Goroutine}{es:Array Event}{cases:Array Kd}{shape:CommShape}{blocking:Bool}
def Ħ (P:pG)(gs:Array gR)(i:Nat)(E:gR)(cases:Array Kd)(shape:CommShape)(k j G:Nat)(U:Kd)(w:M)(c cap:Nat)(I:Array Vl)(O:Bool)(s r:Nat)(tm:Bool)(sl:Option (Nat×Nat)):Stepped×Array MemOp:=
 let o:=((gs.setIfInBounds i ph).getD j default).frame
 match U.send with
 |some v=>(.next (uz ((finishPartner P (gs.setIfInBounds i ph) j G v).setIfInBounds i (E.finishComm P cases shape k uu ss)) (w.setChan c cap I O (s+1) (r+1) tm) sl),
   #[{g:=i,fn:=E.frame.fn,pos:=E.frame.place,act:=.send c s},{g:=j,fn:=o.fn,pos:=o.place,act:=.recv c r cap},{g:=i,fn:=E.frame.fn,pos:=E.frame.place,act:=.sendDone c s},{g:=j,fn:=o.fn,pos:=o.place,act:=.recvDone c r}])
 |none=>(.next (uz ((finishPartner P (gs.setIfInBounds i ph) j G uu).setIfInBounds i (E.finishComm P cases shape k (offeredValue (gs.setIfInBounds i ph) j G) sy)) (w.setChan c cap I O (s+1) (r+1) tm) sl),
   #[{g:=j,fn:=o.fn,pos:=o.place,act:=.send c s},{g:=i,fn:=E.frame.fn,pos:=E.frame.place,act:=.recv c r cap},{g:=j,fn:=o.fn,pos:=o.place,act:=.sendDone c s},{g:=i,fn:=E.frame.fn,pos:=E.frame.place,act:=.recvDone c r}])
def NV (hi:gs[i]? = A g)(h:tt P (i==0) g w=.comm g₂ cases blocking shape w₁ es)(hill:∀cc∈cases,illMade w₁ cc=ss)
  (hne:∃cc∈cases,Lv w₁ (gs.setIfInBounds i ph) cc≠[])(hpar:∀cc∈cases,∀y∈Lv w₁ (gs.setIfInBounds i ph) cc,∃j k,y=.partner j k):
  ∃(k:Nat)(cc:Kd)(j jk d:Nat),cases[k]? = A cc/\Way.partner j jk∈Lv w₁ (gs.setIfInBounds i ph) cc/\
   ∀c cap buf closed s r tm,cc.chan=.chan (A c)->w₁.heap[c]? = A (.chan cap buf closed s r tm) ->
    runT P (uz gs w sl) i=((Ħ P gs i g₂ cases shape k j jk cc (w₁.at d) c cap buf closed s r tm sl).1,MemOp.ofEvents i g.frame.fn g.frame.place es++(Ħ P gs i g₂ cases shape k j jk cc (w₁.at d) c cap buf closed s r tm sl).2):=by
 obtain⟨ready,hready⟩:∃ready,ready=(cases.zipIdx.toList.map λ(c,k)=>(k,c,Lv w₁ (gs.setIfInBounds i ph) c)).filter λ(_,_,v)=>!v.isEmpty:=⟨_,J⟩
 let hmem:∀k cc v,(k,cc,v)∈ready->cases[k]? = A cc/\v=Lv w₁ (gs.setIfInBounds i ph) cc/\v≠[]:=λk cc v b=>by
  rw[hready,Ρ]at b;let⟨hm1,hm2⟩:=b;simp only[Ő,ž,Prod.exists]at hm1;obtain⟨c',k',hm',rfl,rfl,rfl⟩:=hm1;have:=Dg.1 (G2.1 hm');exact⟨sx this,J,sx hm2⟩
 let hlen:0<ready.length:=by
  let⟨cc,hcc,b⟩:=hne;let⟨m,hlt,e⟩:=ly.1 hcc;apply mX (a:=(m,cc,Lv w₁ (gs.setIfInBounds i ph) cc))
  rw[hready,Ρ];refine⟨Ő.2 ⟨(cc,m),G2.2 (Dg.2 (sX e (ÿ hlt))),J⟩,?_⟩;simpa using b
 let⟨a,d,b,hca⟩:=Wm P ready.length hlen w₁;obtain⟨⟨k,cc,v⟩,m⟩:∃x,ready[a]? = A x:=⟨_,ë b⟩
 let⟨x,hws,hwne⟩:=hmem k cc v (ĵ m);let hwl:0<v.length:=k9.2 hwne;have⟨b,e,Y,hcb⟩:=Vk P "which waiting goroutine is the partner" v.length hwl (w₁.at d)
 obtain⟨y,Z⟩:∃y,v[b]? = A y:=⟨_,ë Y⟩
 let hyw:y∈Lv w₁ (gs.setIfInBounds i ph) cc:=hws▸ĵ Z;obtain⟨j,jk,rfl⟩:=hpar cc (ŵ x) y hyw;refine⟨k,cc,j,jk,e,x,hyw,λc cap buf closed s r tm hcc x=>?_⟩;rw[runT_crowd_comm hi h];let hgd:ready.getD a (0,default,[])=(k,cc,v):=by simp[List.getD,m]
 let hgw:v.getD b .closed=.partner j jk:=by simp[List.getD,Z]
 let hnem:ready.isEmpty=false:=by
  cases ready with
  |nil=>cases ų _ hlen
  |cons _ _=>rfl
 let hheap:((w₁.at d).at e).heap[c]? = A (.chan cap buf closed s r tm):=x;let hany:=any_ill hill;unfold communicate;simp only[<-hready];rw[Ä (rj Bool.not_eq_true hany),Ä (oj hnem)];simp only[ő,hca,Λ,hgd,hcb,Ů,hgw,hcc];rw[hheap];cases hs:cc.send with
 |some v=>simp[Ħ,hs];rfl
 |none=>simp[Ħ,hs];rfl
end
end Go.Proofs.YtaoikkhlnhfkfaaGreatDoor
