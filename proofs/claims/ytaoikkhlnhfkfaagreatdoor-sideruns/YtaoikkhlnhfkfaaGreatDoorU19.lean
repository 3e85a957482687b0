import Derived.Test.YtaoikkhlnhfkfaaGreatDoorU00
import Derived.Test.YtaoikkhlnhfkfaaGreatDoorU18
import Derived.Test.YtaoikkhlnhfkfaaGreatDoorProg
import Derived.Test.YtaoikkhlnhfkfaaGreatDoorU01
set_option maxHeartbeats 1000000
set_option maxRecDepth 100000
set_option linter.defProp false
set_option linter.unusedSimpArgs false
set_option linter.unusedVariables false
namespace Go.Proofs.YtaoikkhlnhfkfaaGreatDoor
open Go renaming Frame->vh,Program->tP,exitTo->BY,stepG->tt,choose->wP,results->uK,World->tz,Question->ya,lone->vD,step_lone_go->C6,runN->yc,Ending->Gu,step_lone_ended->DG
open Bool renaming true->sy,false->ss
open Frame renaming eval->wI,oper?->C7,enter->tR,raise->tw
open stepG renaming exec->vx,oper->Ew,apply->C'
open GStep renaming after->za
open Result.halt renaming injEq->AN
open Sem renaming runT_eq->A5
open Proofs.Tryz renaming prog->sr
open Extern.ReflectliteValue renaming valueError->te,method->sR,elem->tB,set->uJ
open Extern.ReflectliteType renaming toType->tx,typeOf->tv,abiMethod->uW,relation->tf,assignableTo->uv,method->tc,elem->vj,implements_->vu
open Go.Conc
variable {fr f':vh}{cs cs':lF}{main:Bool}{w w1:M}
section
variable {P:tP}{Fb Gb:Nat->Bool}{L:Nat}{r s:Ô}{bot base:List vh}
def nc (ai:Es P Fb Gb)(am:∀g,Gb g=sy->r.rel g g)(T:P.globals.size<=L){V}(h:Da P Fb Gb r fr V)(E:G5 P Fb Gb r bot base cs cs')(al:¬(fr.mode=.returning/\cs=bot)):Ì P (Ė Fb) L (λt a b=>Da P Fb Gb t a.1 b.1/\G5 P Fb Gb t bot base a.2 b.2) (own P fr cs) (own P V cs') r:=by
 have⟨r,tmps,todo,defers,mode,kind,roundOf⟩:=fr;obtain⟨a,a,av,a,a,a,a⟩:=V;let aj:=h.a;obtain rfl:=h.fn;obtain rfl:=h.todo;obtain rfl:=h.m;unfold own;dsimp only at aj al⊢
 obtain Z|Z:=h.b
 .
  dsimp only at Z
  subst Z;dsimp only
  cases av with
  |nil=>exact Ad ⟨h.ret,E⟩
  |cons ao k=>
   let G:=aj ao (ï ..);let Y:=λy O=>aj y (Ĥ _ O)
   let one:∀x,Gh P Fb Gb x=sy->∀y∈x::k,Gh P Fb Gb y=true:=λx ak y O=>by
    obtain rfl|O:=sV.1 O
    exact ak
    exact Y y O
   let aa:∀x x',Gh P Fb Gb x=sy->Gh P Fb Gb x'=sy->∀y∈x::x'::k,Gh P Fb Gb y=true:=λx x' ak c y O=>by
    obtain rfl|O:=sV.1 O
    exact ak
    exact one x' c y O
   cases ao<;>first|(cases G;done)|skip
   case code c=>
    cases c<;>first|(cases G;done)|skip
    case skip=>exact Ad ⟨h.to k Y,E⟩
    case label=>exact Ad ⟨h.to k Y,E⟩
    case ret=>exact Ad ⟨h.ret,E⟩
    case seq a b=>
     simp[Gh,ß,Ŝ]at G;exact Ad ⟨h.to _ (aa _ _ G.1 G.2),E⟩
    case cond c a b=>
     simp[Gh,ß,Ŝ]at G;dsimp only
     have ab:=(h.eval am).rel c G.1.1;have U:=ab.p;revert ab U
     generalize (wI _ c:Vl)=u;generalize (wI _ c:Vl)=v;intro ab U;cases u<;>simp[Br]at U<;>first|exact Ah|skip
     rename_i t
     subst U;refine Ad ⟨h.to _ (one _ ?_),E⟩;cases t
     exact G.2
     exact G.1.2
    case block id c=>exact Ad ⟨h.to _ (aa _ _ G J),E⟩
    case loop c=>exact Ad ⟨h.to _ (aa _ _ G G),E⟩
    case scope c=>exact Ad ⟨h.to _ (aa _ _ G G),E⟩
    case exit id=>
     dsimp only
     cases aI:BY id k with
     |none=>exact Ah
     |some aw=>exact Ad ⟨h.to aw (MH aI Y),E⟩
    case region id ops draw=>
     dsimp only
     refine CL (λ_=>Ad ⟨h.to _ (one (.inRegion ops _) G),E⟩) λ_=>?_
     apply Ac (PI _)
     rintro t _ n I rfl;exact Ad ⟨(h.l I).to _ (one (.inRegion ops _) G),E.l I⟩
   case inBlock=>exact Ad ⟨h.to k Y,E⟩
   case inLoop c=>exact Ad ⟨h.to _ (aa _ _ G G),E⟩
   case inScope c=>exact Ad ⟨h.to k Y,E⟩
   case inRegion ops l=>
    cases l with
    |nil=>exact Ad ⟨h.to k Y,E⟩
    |cons i rest=>
     dsimp only
     cases ax:ops[i]? with
     |none=>exact Ad ⟨h.i (VR.plain (n:=1) (by simp[undef,BV])),E⟩
     |some o=>
      dsimp only
      rw[h.t];refine CL (λ_=>?_) λ_=>Ad ⟨h.i (VR.plain (n:=1) (by simp[undef,BV])),E⟩
      let aq:=jo.1 G o (ŵ ax);apply Ac (tF (ai.h L) (λ_ h=>h) (h.eval am) aq T)
      intro t n a I ac;cases n<;>simp only[NR]at ac
      case value v=>obtain⟨v',rfl,ab⟩:=ac;exact Ad ⟨(h.l I).i ab,E.l I⟩
      case skip=>subst ac;exact Ad ⟨(h.l I).i (VR.plain (n:=1) (by simp[undef,BV])),E.l I⟩
      case enter f args=>
       obtain⟨a,rfl,an,aG⟩:=ac;exact Ad ⟨Da.k ai an.1 an.2 aG,.inr ⟨_,_,J,h.l I,E.l I⟩⟩
 dsimp only at Z
 subst Z;dsimp only
 cases cs with
 |nil=>
  simp only[G5]at E;cases al ⟨J,E.1⟩
 |cons c rest=>
  simp[G5]at E;obtain⟨U,-⟩|⟨a,a,rfl,b,c⟩:=E
  cases al ⟨J,U⟩
  dsimp only
  obtain⟨r,U,-⟩:=ai _ h.g;rw[U];dsimp only
  refine Ac (Nw h.h) λt u v I a=>?_;exact Ad ⟨(b.l I).i a,G5.l I c⟩
def uA:Code->Bool
 |.skip|.exit _|.label _|.ret|.region _ _ _|.seq _ _|.cond _ _ _|.block _ _|.loop _|.scope _=>sy
 |_=>ss
def gM:Item->Bool
 |.code c=>uA c
 |.inBlock _|.inLoop _|.inScope _|.inRegion _ _=>sy
 |_=>ss
structure J7 (P:pG)(fr:vh):Prop where
 g:∃f0,P.funcs[fr.fn]? = some f0
 a:fr.mode=.run->∀x,fr.todo.head? = some x->gM x=sy
 e:fr.defers=[]
 b:fr.mode=.run\/fr.mode=.returning
 d:fr.kind=.normal
 round:fr.roundOf=none
structure JO (P:pG)(Fb Gb:Nat->Bool)(fr:vh):Prop where
 g:Fb fr.fn=sy
 a:∀x∈fr.todo,Gh P Fb Gb x=sy
 e:fr.defers=[]
 b:fr.mode=.run\/fr.mode=.returning
 d:fr.kind=.normal
 round:fr.roundOf=none
def Da.y{f}(x:Da P Fb Gb r f f'):JO P Fb Gb f:=⟨x.g,x.a,x.e,x.b,x.d,x.round⟩
def Gh.h{x}(h:Gh P Fb Gb x=sy):gM x=true:=by
 cases x<;>simp[Gh]at h<;>first|rfl|(cases h;done)|skip
 rename_i c
 cases c<;>simp[ß]at h<;>first|rfl|cases h
def JO.h (I:Es P Fb Gb)(h:JO P Fb Gb fr):J7 P fr:=by
 obtain⟨x,G,-⟩:=I _ h.g;exact⟨⟨x,G⟩,λ_ x E=>Gh.h (h.a x (List.mem_of_mem_head? E)),h.e,h.b,h.d,h.round⟩
def Gz (P:pG)(f:fI):seen P f #[]= #[]:=by simp[seen]
def mo{q:Prop}(h:q:=by
 simp only[own,Ů,Ż,ž]at E;obtain⟨⟨rfl,rfl⟩,rfl⟩:=E;simp[own,stepG,stepG.exec,G,Gz]):q:=h
def Zi (h:J7 P fr)(E:(own P fr cs).run P w=.ok (f',cs') w1):tt P main (G fr cs) w=.go (G f' cs') w1 (seen P fr.fn ((own P fr cs).events P w #[])):=by
 have⟨fn,tmps,todo,defers,mode,kind,roundOf⟩:=fr;obtain⟨⟨v,Y⟩,aj,rfl,Z,rfl,rfl⟩:=h;dsimp only at Y aj Z⊢
 obtain rfl|rfl:=Z
 .
  cases todo with
  |nil=>
   exact mo
  |cons c k=>
   let ac:=aj J c J;cases c<;>first|(cases ac;done)|skip
   case code c=>
    cases c<;>first|(cases ac;done)|skip
    case cond c a b=>
     simp[own]at E;cases ai:(wI {fn:=fn,tmps:=tmps,todo:=.code (.cond c a b)::k,defers:=[],mode:=.run,kind:=.normal,roundOf:=none} c)<;>rw[ai]at E<;>first|(simp[stuck]at E;done)|skip
     rename_i t
     simp[Ů,Ż,ž]at E;let⟨⟨rfl,rfl⟩,rfl⟩:=E;simp[own,tt,vx,G,ai,Gz]
    case exit id=>
     simp[own]at E;cases V:BY id k with
     |none=>rw[V]at E;simp[stuck]at E
     |some ak=>
      rw[V]at E;simp[Ů,Ż,ž]at E;let⟨⟨rfl,rfl⟩,rfl⟩:=E;simp[own,tt,vx,G,V,Gz]
    case region id ops draw=>
     simp only[own]at E;cases draw with
     |false=>
      simp[Bool.not_false,ô,Ů,Ż,ž]at E;let⟨⟨rfl,rfl⟩,rfl⟩:=E;simp[own,tt,vx,G,Gz]
     |true=>
      simp only[mA,Ĭ,ę,ő]at E;simp only[own,tt,vx,G,mA,Ĭ,ę];cases ab:(wP (.order fn id)).run P w with
      |halt x y=>rw[ab]at E;simp at E
      |ok t w2=>
       rw[ab]at E;simp[Λ,Ů,Ż,ž]at E;let⟨⟨rfl,rfl⟩,rfl⟩:=E;have:(wP (.order fn id)).events P w #[]= #[]:=by
        simp[wP,Sem.events,Sem.runT];split<;>rfl
       simp[this,Gz]
    all_goals
     exact mo
   case inRegion ops l=>
    cases l with
    |nil=>
     exact mo
    |cons i rest=>
     simp[own]at E⊢;cases O:ops[i]? with
     |none=>
      rw[O]at E;simp[Ů,Ż,ž]at E;let⟨⟨rfl,rfl⟩,rfl⟩:=E;simp[tt,vx,G,O,Gz]
     |some o=>
      rw[O]at E;dsimp only at E⊢
      by_cases U:Region.wanted o (yielded ops tmps)=sy
      .
       rw[Æ U]at E⊢;simp[ő]at E;cases I:(execOp (wI {fn:=fn,tmps:=tmps,todo:=.inRegion ops (i::rest)::k,defers:=[],mode:=.run,kind:=.normal,roundOf:=none}) o).run P w with
       |halt x y=>rw[I]at E;simp at E
       |ok n w2=>
        rw[I]at E;simp[Λ]at E;cases n<;>first|(simp at E;done)|skip
        all_goals
         simp[Ů,Ż,ž]at E;let⟨⟨rfl,rfl⟩,rfl⟩:=E;simp[tt,vx,Ew,C',C7,G,O,U,I,za]
      rw[Ä U]at E⊢;simp[Ů,Ż,ž]at E;let⟨⟨rfl,rfl⟩,rfl⟩:=E;simp[tt,vx,G,O,U,Gz]
   all_goals
    exact mo
 simp[own]at E⊢;cases cs with
 |nil=>simp at E
 |cons c rest=>
  rw[Y]at E⊢;simp[ő]at E;cases I:(uK v tmps).run P w with
  |halt x y=>rw[I]at E;simp at E
  |ok v w2=>
   rw[I]at E;simp[Λ,Ů,Ż,ž]at E;let⟨⟨rfl,rfl⟩,rfl⟩:=E;simp[tt,unwind,doReturn,G,Y,I,za]
def XW{x}(h:J7 P fr)(E:(own P fr cs).run P w=.halt x w1)(V:JQ x):(∃v es,tt P main (G fr cs) w=.go (G (fr.raise [{v,recovered:=ss}]) cs) w1 es)\/∃o w2 es,tt P main (G fr cs) w=.ended o w2 es:=by
 have⟨fn,tmps,todo,defers,mode,kind,roundOf⟩:=fr;obtain⟨⟨f0,Y⟩,aj,rfl,Z,rfl,rfl⟩:=h;dsimp only at Y aj Z⊢
 obtain rfl|rfl:=Z
 .
  cases todo with
  |nil=>simp[own]at E
  |cons aa k=>
   let ac:=aj J aa J;cases aa<;>first|(cases ac;done)|(simp[own]at E;done)|skip
   case code c=>
    cases c<;>first|(cases ac;done)|(simp[own]at E;done)|skip
    case cond c a b=>
     simp only[own]at E;cases ai:(wI {fn:=fn,tmps:=tmps,todo:=.code (.cond c a b)::k,defers:=[],mode:=.run,kind:=.normal,roundOf:=none} c)<;>rw[ai]at E<;>first|(simp at E;done)|(exact .inr ⟨_,_,_,by simp only[tt,vx,G,ai];rfl⟩)
    case exit id=>
     simp[own]at E;cases ab:BY id k with
     |none=>exact .inr ⟨_,_,_,by simp only[tt,vx,G,ab,Option.elim];rfl⟩
     |some a=>rw[ab]at E;simp at E
    case region id ops draw=>
     simp only[own]at E;cases draw with
     |false=>simp at E
     |true=>
      simp only[mA,Ĭ,ę,ő]at E;have:∃t w2,(wP (.order fn id)).run P w=.ok t w2:=⟨_,_,J⟩
      have⟨t,w2,a⟩:=this;rw[a]at E;simp at E
   case inRegion ops l=>
    cases l with
    |nil=>simp[own]at E
    |cons i rest=>
     simp[own]at E;cases U:ops[i]? with
     |none=>rw[U]at E;simp at E
     |some o=>
      rw[U]at E;dsimp only at E
      by_cases O:Region.wanted o (yielded ops tmps)=sy
      .
       rw[Æ O]at E;simp[ő]at E;cases I:(execOp (wI {fn:=fn,tmps:=tmps,todo:=.inRegion ops (i::rest)::k,defers:=[],mode:=.run,kind:=.normal,roundOf:=none}) o).run P w with
       |halt y w2=>
        rw[I]at E;simp[Result.andThen_halt,AN]at E;let⟨rfl,rfl⟩:=E;cases y<;>first|(exact V.elim)|skip
        case panic v=>exact .inl ⟨v,_,by simp[tt,vx,Ew,C',C7,G,U,ţ,é,O,ô,I,A5,za];rfl⟩
        case stuck m=>exact .inr ⟨_,_,_,by simp only[tt,vx,Ew,C',C7,G,U,ţ,é,O,ô,I,A5,za];rfl⟩
        case unsupported u=>
         cases u<;>first|(exact V.elim)|exact .inr ⟨_,_,_,by simp only[tt,vx,Ew,C',C7,G,U,ţ,é,O,ô,I,A5,za];rfl⟩
       |ok n w2=>
        rw[I]at E;simp[Λ]at E;cases n<;>first|(simp at E;done)|(simp[Sem.run_halt,AN]at E;obtain⟨rfl,-⟩:=E;exact V.elim)
      rw[Ä O]at E;simp at E
 simp[own]at E;cases cs with
 |nil=>simp[Sem.run_halt,AN]at E;obtain⟨rfl,-⟩:=E;exact V.elim
 |cons c rest=>
  rw[Y]at E;simp[ő]at E;cases I:(uK f0 tmps).run P w with
  |halt y w2=>
   cases y<;>exact .inr ⟨_,_,_,by simp only[tt,unwind,G,Y,I,A5,za];rfl⟩
  |ok v w2=>rw[I]at E;simp at E
def tK (E:Es P Fb Gb)(h:JO P Fb Gb fr)(I:(own P fr cs).run P w=.ok (f',cs') w1):tt P main (G fr cs) w=.go (G f' cs') w1 (seen P fr.fn ((own P fr cs).events P w #[])):=Zi (h.h E) I
def wH (I:Es P Fb Gb){x}(h:JO P Fb Gb fr)(O:(own P fr cs).run P w=.halt x w1)(E:JQ x):(∃v es,tt P main (G fr cs) w=.go (G (fr.raise [{v,recovered:=ss}]) cs) w1 es)\/∃o v es,tt P main (G fr cs) w=.ended o v es:=XW (h.h I) O E
end
abbrev CW:=(vh×lF)×M
def ö:Frame:={fn:=0,tmps:=#[],todo:=[.code (.refuse "")],defers:=[{target:=.nil,args:=#[]}],mode:=.run,kind:=.normal}
def DV (x:CW):=x.1.1.mode=.returning/\x.1.2=[ö]
def Ez (P:pG)(x y:CW):=¬DV x/\∃t,(own P x.1.1 x.1.2).run P (À x.2 t)=.ok y.1 y.2
section
variable {P:tP}{Fb Gb:Nat->Bool}{L:Nat}{r:Ô}{F:Nat->Prop}{w w':tz}{t t':Nat->ya->Nat}
def WR.x (h:WR F L r (À w t) (À w' t')):WR F L r (À w λj q=>w'.tape (j-w.drawn+w'.drawn) q) w':=
 ⟨h.e,h.u,h.d,h.g,h.h,h.i,λj q=>by
  show w'.tape (w.drawn+j-w.drawn+w'.drawn) q=_
  rw[jA,ks]⟩
def WR.l (h:WR F L r (À w t) (À w' t')) u:WR F L r (À w u) (À w' λj q=>u (j-w'.drawn+w.drawn) q):=
 ⟨h.e,h.u,h.d,h.g,h.h,h.i,λj q=>by
  show u (w.drawn+j) q=u (w'.drawn+j-w'.drawn+w.drawn) q
  rw[jA,ks]⟩
def Lj (P:pG)(E G:Nat->Bool)(L:Nat)(x:CW):=∃(r:Ô)(O:lF)(U:vh)(cs':lF)(w':M)(t I:Nat->ya->Nat),
 (∀g,G g=sy->r.rel g g)/\Da P E G r x.1.1 U/\G5 P E G r [ö] O x.1.2 cs'/\WR (Ė E) L r (À x.2 t) (À w' I)
def l7 (V:Es P Fb Gb)(g:P.globals.size<=L){x}(h:Lj P Fb Gb L x)(X:¬DV x) u:(∃z w1,(own P x.1.1 x.1.2).run P (À x.2 u)=.halt z w1/\JQ z)\/∃y,(own P x.1.1 x.1.2).run P (À x.2 u)=.ok y.1 y.2/\Lj P Fb Gb L y/\OV P (own P x.1.1 x.1.2) (À x.2 u) y.1 y.2:=by
 obtain⟨r,a,a,cs',w',t,a,G,Z,r,Y⟩:=h;obtain E|⟨a,w1,O,b,b,evs,E,b,b,I,U,b,h,h⟩:=nc V G g Z r X _ _ (Y.l u)
 exact .inl E
 exact .inr ⟨(a,w1),E,⟨O,_,_,_,_,_,_,λg a=>b.t _ _ (G g a),I.1,I.2,U⟩,h⟩
def T9 (Y:Es P Fb Gb)(U:P.globals.size<=L){x y}(h:Lj P Fb Gb L x)(O:Ez P x y):Lj P Fb Gb L y:=by
 have⟨V,u,E⟩:=O;obtain⟨z,x,G,-⟩|⟨Z,G,I,-⟩:=l7 Y U h V u
 rw[G]at E;cases E
 rw[G]at E;simp at E
 obtain rfl:=Prod.ext E.1 E.2;exact I
def UV{x}(h:Lj P Fb Gb L x):=let⟨_,_,_,_,_,_,_,_,hf,_⟩:=h;hf.y
def LP (Y:Es P Fb Gb)(U:P.globals.size<=L){x y:CW}(h:Lj P Fb Gb L x)(V:¬DV x){u}(E:(own P x.1.1 x.1.2).run P (À x.2 u)=.ok y.1 y.2):y.2.tape=u/\x.2.drawn<=y.2.drawn/\∀v,(∀j q,x.2.drawn<=j->j<y.2.drawn->v j q=u j q)->(own P x.1.1 x.1.2).run P (À x.2 v)=.ok y.1 (À y.2 v):=by
 obtain⟨z,j,G,-⟩|⟨j,G,Z,I⟩:=l7 Y U h V u
 rw[G]at E;cases E
 rw[G]at E;simp at E
 obtain rfl:=Prod.ext E.1 E.2;exact⟨I.1,I.2.1,λv O=>I.2.2 v O⟩
def Xv{fr f'}{cs cs':lF}{w w1:M}(E:Es P Fb Gb)(h:JO P Fb Gb fr)(I:(own P fr cs).run P w=.ok (f',cs') w1):step P (vD fr cs w)=.next (vD f' cs' w1):=by
 exact C6 (by
  show(tt P _ (G fr cs) w).bare=_
  rw[(tK (main:=sy) E h I)];rfl)
def Rs (E:Es P Fb Gb)(U:P.globals.size<=L){c:Nat->CW}{T}(I:Lj P Fb Gb L (c 0)):∀n,(∀k,k<n->Ez P (c k) (c (k+1))/\(own P (c k).1.1 (c k).1.2).run P (À (c k).2 T)=.ok (c (k+1)).1 (À (c (k+1)).2 T)) ->
  Lj P Fb Gb L (c n)/\yc P n (vD (c 0).1.1 (c 0).1.2 (À (c 0).2 T))=.next (vD (c n).1.1 (c n).1.2 (À (c n).2 T))
 |0,_=>⟨I,J⟩
 |n+1,O=>by
  have⟨G,c⟩:=Rs E U I n λk Y=>O k (Ų Y)
  have⟨V,Z⟩:=O n (ō _);refine⟨T9 E U G V,?_⟩;rw[runN_add,c];simp[yc]
  rw[Xv E (UV G) Z]
def Pw (d:Nat->Nat)(G:∀k,d k<=d (k+1))(t:Nat->Nat->ya->Nat):∃T:Nat->ya->Nat,∀k j q,d k<=j->j<d (k+1)->T j q=t k j q:=by
 let mono:∀a b,a<=b->d a<=d b:=λa b h=>by
  induction h with
  |refl=>exact lr
  |step _ I=>exact rX I (G _)
 refine⟨λj q=>open Classical in if h:∃k,d k<=j/\j<d (k+1)then t h.choose j q else 0,λk j q U O=>?_⟩;let E:∃k,d k<=j/\j<d (k+1):=⟨k,U,O⟩
 dsimp only
 rw[dif_pos E];have:E.choose=k:=by
  obtain h|h|h:=θ _ k
  have:=mono (E.choose+1) k h;omega
  exact h
  have:=mono (k+1) _ h;omega
 rw[this]
def Pp n(d:Nat->Nat)(G:∀k,k<n->d k<=d (k+1))(t:Nat->Nat->ya->Nat)(u:Nat->ya->Nat):∃T:Nat->ya->Nat,(∀k,k<n->∀j q,d k<=j->j<d (k+1)->T j q=t k j q)/\∀j q,d n<=j->T j q=u j q:=by
 have⟨T,E⟩:=Pw (λk=>if k<= n then d k else d n+(k - n)) (λk=>by
   by_cases h:k<n
   rw[Æ N,Æ N];exact G k h
   rw[Ä (show ¬k+1<=n by omega)];split
   obtain rfl:k=n:=N;omega
   omega) (λk=>if k<n then t k else u)
 refine⟨T,λk I j q U O=>?_,λj q h=>?_⟩
 have:=E k j q (by rw[Æ N];exact U) (by rw[Æ N];exact O);rwa[Æ I]at this
 have:=E (n+(j - d n)) j q (by
  by_cases e:j-d n=0
  rw[e,Æ N];exact h
  rw[Ä N];omega) (by rw[Ä N];omega)
 rwa[Ä N]at this
section
variable {P:tP}{Fb Gb:Nat->Bool}{L:Nat}{f:FuncId}{args:Array Value}{w0:tz}{Post:Gu->tz->Prop}
structure Ď (P:pG)(f:fI)(args:Array Vl)(w0:M)(Post:Gu->M->Prop):Prop where
 j:∀t,Calls P f args (À w0 t) Post
 l:∀e w,Post e w->∃v,e=.r v
def Ú (P:pG)(f:fI)(args:Array Vl)(w0:M):CW:=((tR P f args .normal,[ö]),w0)
def Ď.B (h:Ď P f args w0 Post) t:∃n v fr w',Post (.r v) w'/\yc P n (vD (tR P f args .normal) [ö] (À w0 t))=.next (vD fr [ö] w')/\fr.leaving P w' (.r v):=by
 obtain⟨e,w',fr,E,O,-,G⟩:=h.j t _;obtain⟨v,rfl⟩:=h.l e w' E;obtain⟨n,I⟩:=O;exact⟨n,v,fr,w',E,I,G⟩
def Ea{f f'}{c E:lF}{w w':M}(h:vD f c w=vD f' E w'):f=f'/\c=E/\w=w':=by
 unfold vD at h;simp_all
def XJ (e:Es P Fb Gb)(Z:P.globals.size<=L)(h:Ď P f args w0 Post)(k:Lj P Fb Gb L (Ú P f args w0)):Acc (λy x=>Ez P x y) (Ú P f args w0):=by
 refine ż λhna=>?_
 let nxt:∀x:{x:CW // ¬Acc (λy x=>Ez P x y) x},∃y:{x:CW // ¬Acc (λy x=>Ez P x y) x},Ez P x.1 y.1:=λ⟨x,hx⟩=>by
  refine ż λhno=>hx ⟨x,λy hy=>ż λhna=>hno ⟨⟨y,hna⟩,hy⟩⟩
 let c:Nat->{x:CW // ¬Acc (λy x=>Ez P x y) x}:=λn=>Nat.rec ⟨Ú P f args w0,hna⟩ (λ_ x=>(nxt x).choose) n
 let x:=λn=>(nxt (c n)).choose_spec
 let hok:∀n,Lj P Fb Gb L (c n).1:=λn=>by
  induction n with
  |zero=>exact k
  |succ n ih=>exact T9 e Z ih (x n)
 let y:=λn=>(x n).2
 have⟨T,hT⟩:=Pw (λn=>(c n).1.2.drawn) (λn=>(LP e Z (hok n) (x n).1 (y n).choose_spec).2.1) (λn=>(y n).choose);obtain⟨n,v,fr,w',-,hn,v⟩:=h.B T;have:=(Rs (c:=λn=>(c n).1) (T:=T) e Z k n λk _=>⟨x k,(LP e Z (hok k) (x k).1 (y k).choose_spec).2.2 T (hT k)⟩).2;let e:yc P n (vD (tR P f ..) [ö] (À w0 T))=.next (vD _ _ (À _ T)):=this;rw[hn]at e;obtain⟨e1,c,-⟩:=Ea (ũ e);exact(x n).1 ⟨e1▸v.1,c.symm⟩
end
end
section
variable {P:tP}{Fb Gb:Nat->Bool}{L:Nat}{f:FuncId}{args:Array Value}{w0:tz}{Post:Gu->tz->Prop}
def í (P:pG)(E x:CW):=∃(n:Nat)(c:Nat->CW),c 0=E/\c n=x/\∀k,k<n->Ez P (c k) (c (k+1))
def í.I x:í P x x:=⟨0,λ_=>x,J,J,λ_ E=>absurd E (İ _)⟩
def í.e{E x y}(h:í P E x)(I:Ez P x y):í P E y:=by
 obtain⟨n,c,G,rfl,O⟩:=h;refine⟨n+1,λk=>if k<=n then c k else y,oy G,by dsimp only;rw[Ä N],λk U=>?_⟩;by_cases e:k<n
 .
  dsimp only
  rw[Æ N,Æ N];exact O k e
 obtain rfl:k=n:=N;dsimp only
 rw[Æ N,Ä N];exact I
def í.y (V:Es P Fb Gb)(U:P.globals.size<=L){E x}(h:í P E x)(I:Lj P Fb Gb L E):Lj P Fb Gb L x:=by
 obtain⟨n,c,rfl,rfl,O⟩:=h;have:∀k,k<=n->Lj P Fb Gb L _:=λk Y=>by
  induction k with
  |zero=>exact I
  |succ k G=>exact T9 V U (G N) (O k N)
 exact this n lr
def í.a (U:Es P Fb Gb)(O:P.globals.size<=L){E x}(h:í P E x)(X:Lj P Fb Gb L E)(u:Nat->ya->Nat):∃(n:Nat)(T:Nat->ya->Nat),(∀j q,x.2.drawn<=j->T j q=u j q)/\yc P n (vD E.1.1 E.1.2 (À E.2 T))=.next (vD x.1.1 x.1.2 (À x.2 T))/\
   ∀m,m<n->∃y,¬DV y/\yc P m (vD E.1.1 E.1.2 (À E.2 T))=.next (vD y.1.1 y.1.2 (À y.2 T)):=by
 obtain⟨n,c,rfl,rfl,I⟩:=h;let Z:∀k,k<=n->Lj P Fb Gb L (c k):=λk G=>by
  induction k with
  |zero=>exact X
  |succ k h=>exact T9 U O (h N) (I k N)
 let V:∀k,∃t,k<n->(own P (c k).1.1 (c k).1.2).run P (À (c k).2 t)=.ok (c (k+1)).1 (c (k+1)).2:=λk=>by
  by_cases G:k<n
  have⟨t,h⟩:=(I k G).2;exact⟨t,λ_=>h⟩
  exact⟨u,λh=>absurd h G⟩
 have⟨T,h,j⟩:=Pp n (λk=>(c k).2.drawn) (λk G=>(LP U O (Z k N) (I k G).1 ((V k).choose_spec G)).2.1) (λk=>(V k).choose) u;let one:∀m,m<=n->yc P m (vD (c 0).1.1 (c 0).1.2 (À (c 0).2 T))=.next (vD (c m).1.1 (c m).1.2 (À (c m).2 T)):=λm Y=>
  (Rs (c:=c) (T:=T) U O X m λk G=>⟨I k N,(LP U O (Z k N) (I k N).1 ((V k).choose_spec N)).2.2 T (h k N)⟩).2
 exact⟨n,T,j,one n lr,λm Y=>⟨_,(I m Y).1,one m N⟩⟩
def dQ (w:M):∃o w',step P (vD ö [] w)=.ended o w':=⟨_,_,J⟩
def VG (w:M) E:∃o w',step P (vD (ö.raise E) [] w)=.ended o w':=⟨_,_,DG J⟩
def ry (U:Es P Fb Gb){fr c}{rest:lF}{w:M}(h:JO P Fb Gb fr)(V:fr.mode=.returning):(∃v w1,step P (vD fr (c::rest) w)=.next (vD (c.finish v) rest w1))\/∃o w1,step P (vD fr (c::rest) w)=.ended o w1:=by
 cases O:(own P fr (c::rest)).run P w with
 |ok a w1=>
  obtain⟨fn,G,-⟩:=U _ h.g;let E:=O;simp[own,V,G,ő]at E;cases I:(uK fn fr.tmps).run P w with
  |halt y a=>rw[I]at E;simp at E
  |ok v a=>
   rw[I]at E;simp[Λ,Ů,Ż]at E;let⟨rfl,rfl⟩:=E;exact .inl ⟨v,a,Xv U h O⟩
 |halt y w1=>
  obtain⟨fn,G,-⟩:=U _ h.g;simp[own,G]at O;cases I:(uK fn fr.tmps).run P w with
  |ok v a=>simp_all
  |halt z a=>
   right
   cases z<;>exact⟨_,_,DG (by simp only[tt,unwind,h.e,V,G,I,A5];rfl)⟩
def UN (Y:Es P Fb Gb){r c}:∀(cs)(cs')(fr)(E)(w),G5 P Fb Gb r [ö] c cs cs'->fr.mode=.panicking E->fr.defers=[]->(∃fn,P.funcs[fr.fn]? = some fn) ->
  ∀m V w',yc P m (vD fr cs w)=.next (vD V [ö] w')->V.mode≠.returning
 |[],_,_,_,_,O,_,_,_,_,_,_,_=>by simp[G5]at O
 |c::rest,cs',fr,E,w,O,g,r,⟨fn,o⟩,m,V,w',G=>by
  cases m with
  |zero=>
   obtain⟨e,-⟩:=Ea (ũ G);rw[<-e,g];exact λh=>nf h
  |succ m=>
   let e:step P (vD fr (c::rest) w)=.next (vD (c.raise E) rest w):=C6 (by simp[tt,unwind,Frame.catches,g,r,o]);simp[yc,e]at G;simp[G5]at O;obtain⟨e,-⟩|⟨f',V,-,I,r⟩:=O
   .
    obtain⟨rfl,rfl⟩:=sx e
    cases m with
    |zero=>
     obtain⟨-,e,-⟩:=Ea (ũ G);cases e
    |succ m=>
     have⟨o,e,U⟩:=VG (P:=P) w E;simp only[yc,U]at G;cases G
   let g:∃Z,(c.raise E).mode=.panicking Z/\(c.raise E).defers=[]/\(c.raise E).fn=c.fn:=by
    obtain h|h:=I.b
    exact⟨E,by simp[tw,h],by simp[tw,h,I.e],by simp[tw,h]⟩
    exact⟨E,by simp[tw,h],by simp[tw,h,I.e],by simp[tw,h]⟩
   have⟨Z,e,h,c⟩:=g;obtain⟨g,U,-⟩:=Y _ I.g;exact UN Y _ V _ _ w r e h ⟨g,c▸U⟩ m _ w' G
def pu (E:Es P Fb Gb)(Z:P.globals.size<=L)(h:Ď P f args w0 Post)(g:Lj P Fb Gb L (Ú P f args w0)){x}(e:í P (Ú P f args w0) x)(L:¬DV x) u:¬∃z w1,(own P x.1.1 x.1.2).run P (À x.2 u)=.halt z w1/\JQ z:=by
 rintro⟨z,w1,j,j⟩;let j:=e.y E Z g;have⟨n,T,Q,hrun,k⟩:=e.a E Z g u;obtain⟨m,v,S,w',-,I,q⟩:=h.B T;let r9:m<=n->False:=λe=>by
  obtain O|R:=nR m n
  have⟨y,z,g⟩:=k m O;let e:=I.symm.trans g;obtain⟨V,U,-⟩:=Ea (ũ e);exact z ⟨V▸q.1,U.symm⟩
  obtain rfl:m=n:=N;let e:=I.symm.trans hrun;obtain⟨V,U,-⟩:=Ea (ũ e);exact L ⟨V▸q.1,U.symm⟩
 let W:∀X,step P (vD x.1.1 x.1.2 (À x.2 T))=X->n<m->∃k,m=n+(k+1)/\(match X with|.next m'=>yc P k m'|e=>e)=.next (vD S [ö] w'):=λX g O=>by
  refine⟨m-n-1,N,?_⟩;let e:m=n+((m-n-1)+1):=N;rw[e,runN_add]at I;rw[show yc P n (vD (tR P f args .normal) [ö] (À w0 T))=_ from hrun]at I;simp[yc,g]at I;exact I
 obtain⟨e,I,k,e⟩|⟨y,z,-,-⟩:=l7 E Z j L T
 .
  obtain O|R:=nR n m
  .
   obtain⟨g,f,h⟩|⟨o,f,f,n⟩:=wH (main:=sy) E (UV j) k e
   .
    let f:=C6 (by
     show(tt P sy (G x.1.1 x.1.2) (À x.2 T)).bare=_
     rw[h];rfl)
    obtain⟨k,-,m⟩:=W _ f O;obtain⟨r,e,e,cs',w',t,e,e,Y,o,e⟩:=j;let f:∃e,(x.1.1.raise [{v:=g,recovered:=ss}]).mode=.panicking e/\(x.1.1.raise [{v:=g,recovered:=ss}]).defers=[]/\(x.1.1.raise [{v:=g,recovered:=ss}]).fn=x.1.1.fn:=by
     obtain h|h:=Y.b
     exact⟨_,by simp[tw,h];rfl,by simp[tw,h,Y.e],by simp[tw,h]⟩
     exact⟨_,by simp[tw,h];rfl,by simp[tw,h,Y.e],by simp[tw,h]⟩
    have⟨e,V,U,h⟩:=f;obtain⟨g,f,-⟩:=E _ Y.g;exact UN E x.1.2 cs' _ e I o V U ⟨g,h▸f⟩ k S _ m q.1
   let f:=DG (by
    show(tt P sy (G x.1.1 x.1.2) (À x.2 T)).bare=_
    rw[n];rfl)
   obtain⟨k,-,m⟩:=W _ f O;cases m
  exact r9 R
 have:=(LP E Z j L z).2.2 u λj q e _=>(Q j q e).symm
 simp_all
def sH (I:Es P Fb Gb)(k:P.globals.size<=L)(h:Ď P f args w0 Post)(O:Lj P Fb Gb L (Ú P f args w0)){x}(e:í P (Ú P f args w0) x)(o:DV x):∃v T,Post (.r v) (À x.2 T)/\x.1.1.leaving P (À x.2 T) (.r v):=by
 let ap:=e.y I k O;have⟨n,T,aB,hrun,G⟩:=e.a I k O λ_ _=>0
 have⟨m,v,fr,w',ak,E,Y⟩:=h.B T;obtain⟨⟨aw,aC⟩,h⟩:=x;have⟨V,Z⟩:=o;dsimp only at V Z hrun⊢
 subst Z;obtain e|rfl|ax:=θ m n
 have⟨y,o,k⟩:=G m e;let e:=E.symm.trans k;obtain⟨aq,k,-⟩:=Ea (ũ e);cases o ⟨aq▸Y.1,k.symm⟩
 let e:=E.symm.trans hrun;obtain⟨rfl,-,rfl⟩:=Ea (ũ e);exact⟨v,T,ak,Y⟩
 exfalso
 let e:m=n+((m-n-1)+1):=N;rw[e,runN_add]at E;rw[show yc P n (vD (tR P f args .normal) [ö] (À w0 T))=_ from hrun]at E;obtain⟨am,w2,G⟩|⟨o,w2,G⟩:=ry (P:=P) (c:=ö) (rest:=[]) (w:=À h T) I (UV ap) V
 .
  simp[yc,G]at E;rw[show ö.finish am=ö from J]at E;cases U:m-n-1 with
  |zero=>
   rw[U]at E;obtain⟨-,e,-⟩:=Ea (ũ E);cases e
  |succ k=>
   rw[U]at E;simp[yc]at E;cases E
 simp only[yc,G]at E;cases E
end
variable {r:Ô}{fr:vh}{cs O:lF}{w:M}
section
variable {P:tP}{Fb Gb:Nat->Bool}{L:Nat}{f:FuncId}{args:Array Value}{w0:tz}{Post:Gu->tz->Prop}
structure FC (P:pG)(Fb Gb:Nat->Bool)(L:Nat)(x0:CW)(base:lF)(x:CW)(r:Ô)(fr:vh)(cs:lF)(w:M):Prop where
 e:í P x0 x
 d:∀g,Gb g=sy->r.rel g g
 a:Da P Fb Gb r x.1.1 fr
 h:G5 P Fb Gb r [ö] base x.1.2 cs
 b:∃t t',WR (Ė Fb) L r (À x.2 t) (À w t')
def FC.y{O x E}(h:FC P Fb Gb L O E x r fr cs w):Lj P Fb Gb L x:=by
 have⟨t,G,I⟩:=h.b;exact⟨r,E,fr,cs,w,t,G,h.d,h.a,h.h,I⟩
def FC.k{G x w1}(h:FC P Fb Gb L G O x r fr cs w)(o:w.heap.size<=w1.heap.size)(Z:∀a b,r.rel a b->w1.heap[b]? = w.heap[b]?):FC P Fb Gb L G O x r fr cs w1:=by
 have⟨t,a,E⟩:=h.b;refine⟨h.e,h.d,h.a,h.h,t,λj q=>t (j-w1.drawn+x.2.drawn) q,⟨λa b I=>?_,E.u,E.d,E.g,E.h,rX E.i o,λj q=>?_⟩⟩
 have⟨o,o',V,U,Y⟩:=E.e a b I;exact⟨o,o',V,(Z a b I).trans U,Y⟩
 show t (x.2.drawn+j) q=t (w1.drawn+j-w1.drawn+x.2.drawn) q
 rw[jA,ks]
def FC.u (O:Es P Fb Gb)(g:P.globals.size<=L)(X:Ď P f args w0 Post)(Z:Lj P Fb Gb L (Ú P f args w0)){x Y}(h:FC P Fb Gb L (Ú P f args w0) Y x r fr cs w)(U:¬DV x) main:∃(y:CW)(E:Ô)(V:vh)(a:lF)(w1:M)(evs:Array Event),tt P main (G fr cs) w=.go (G V a) w1 (seen P fr.fn evs)/\Ez P x y/\FC P Fb Gb L (Ú P f args w0) Y y E V a w1/\ĩ L r E w w1/\∀e∈evs,jU L E e:=by
 obtain⟨t,a,a⟩:=h.b;let y:=a.x;obtain⟨z,w1,I,L⟩|⟨a,w1,E,b,f,evs,I,G,w,r,V,e,t,Y⟩:=nc O h.d g h.a h.h U _ _ y
 cases pu O g X Z h.e U _ ⟨z,w1,I,L⟩
 let Z:Ez P x (a,w1):=⟨U,_,I⟩
 refine⟨(a,w1),E,b.1,b.2,f,evs,?_,Z,⟨h.e.e Z,λg a=>e.t _ _ (h.d g a),r.1,r.2,w1.tape,f.tape,V⟩,e,t⟩;rw[tK O (⟨h.a.fn▸h.a.g,h.a.todo▸h.a.a,h.a.j,h.a.m▸h.a.b,h.a.p,h.a.q⟩) G];rw[w];simp
def FC.q (q:Es P Fb Gb)(j:P.globals.size<=L)(u:Ď P f args w0 Post)(b:Lj P Fb Gb L (Ú P f args w0)){x}(h:FC P Fb Gb L (Ú P f args w0) O x r fr cs w)(U:DV x):cs=O/\fr.mode=.returning/\fr.defers=[]/\fr.kind=.normal/\∃(v v':Vl)(T:Nat->ya->Nat)(fn:Func)(G:Ô)(w1:M)(evs:Array Event),Post (.r v) (À x.2 T)/\P.funcs[fr.fn]? = some fn/\(uK fn fr.tmps).run P w=.ok v' w1/\
   (∀es,(uK fn fr.tmps).events P w es=es++evs)/\VR (Ė Fb) G v v'/\(∃t Y,WR (Ė Fb) L G (À x.2 t) (À w1 Y))/\ĩ L r G w w1/\∀e∈evs,jU L G e:=by
 let a:cs=O:=by
  have:=h.h;rw[U.2]at this;simp only[G5]at this;obtain⟨-,E⟩|⟨f',e,-,I,-⟩:=this
  exact E
  exact absurd (I.a (.code (.refuse "")) (by simp[ö])) (by simp[Gh,ß])
 refine⟨a,h.a.m.trans U.1,h.a.j,h.a.p,?_⟩;have⟨v,T,r,a⟩:=sH q j u b h.e U;obtain⟨-,-,-,fn,w,f⟩:=a;have⟨t,Y,Z⟩:=h.b;let e:∀u,(uK fn x.1.1.tmps).run P (À x.2 u)=.ok v (À x.2 u):=λu=>by
  obtain⟨z,w1,E,-⟩|⟨a,w1,G,b,V,evs,E,-,-,-,-,-,-,a⟩:=Nw (P:=P) (fn:=fn) h.a.h _ _ (Z.l T)
  rw[f]at E;cases E
  rw[f]at E;cases E
  exact a.2.2 u λj q E I=>absurd (Nat.lt_of_le_of_lt E I) (ų _)
 obtain⟨z,w1,E,-⟩|⟨a,w1,G,b,V,evs,E,I,t,a,j,q,f,-⟩:=Nw (P:=P) (fn:=fn) h.a.h _ _ Z.x
 rw[e]at E;cases E
 rw[e]at E;cases E
 exact⟨v,b,T,fn,G,V,evs,r,h.a.fn▸w,I,t,a,⟨_,V.tape,j⟩,q,f⟩
end
open Extern.Rtype Extern.ReflectliteValue
def fV:lN:=[19,20,67,17,42,43,35,109,116,117,110,118,34,60,52,61,87,88,89,90,91,92,63,64,65,66,68,137,146,147,148,62,107,99,127,128,129,130,131,132,108,111,112,113,114,115,119,120,121,159,160,161,153,154,155,156,157,138,139,140,141,142,143,144,145,149,150,151,152,158,163,164,165,166,162,167,168,169,170,171,172,192,207,208,209]
def Z6:lN:=[96,97,98,100,133,134,186,187,194,197,199,200]
def JF (f:Nat):=fV.contains f ||Z6.contains f
def E9 (g:Nat):=g==10 ||g==9 ||[3,1,0,4,5,6,7,8,2].contains g
def jd (P:pG)(k:Code->Bool)(f:Nat):Bool:=match P.funcs[f]? with
 |some fn=>(match fn.body with
  |some c=>!(fn.name== "runtime.NumGoroutine") && k c
  |none=>ss)
 |none=>ss
def mR{P k}{l:lN}(h:l.all (jd P k)=sy) {f}(E:l.contains f=sy):∃fn,P.funcs[f]? = some fn/\(fn.name== "runtime.NumGoroutine")=ss/\∃c,fn.body=some c/\k c=true:=by
 let h:=pd.1 h f (sx E);unfold jd at h;split at h
 .
  split at h
  .
   rename_i fn f _ c k
   rw[Ŝ]at h;exact⟨fn,f,sx h.1,c,k,h.2⟩
  cases h
 cases h
def qH:fV.all (jd sr (ß sr JF E9))=true:=td
def l9 (Q:(Array Vl ->Sem Vl) ->Prop)(f:Nat):=∃fn,sr.funcs[f]? = some fn/\(fn.name== "runtime.NumGoroutine")=ss/\((fn.body=none/\Extern.findNext fn=none/\∃x,Extern.find fn=some x/\Q x)\/∀a,Gm sr (callFunc f a))
def Kr{Q:(Array Vl ->Sem Vl) ->Prop}{f} fn{x}(q:Q x)(E:Extern.find fn=some x:=by kernel_rfl)(X:Extern.findNext fn=none:=by kernel_rfl)(Y:sr.funcs[f]? = some fn:=by kernel_rfl)(W:(fn.name== "runtime.NumGoroutine")=false:=by decide+kernel)(Z:fn.body=none:=by kernel_rfl):l9 Q f:=
 ⟨fn,Y,W,.inl ⟨Z,X,x,E,q⟩⟩
def bE (a:Array Vl)(w:M):(callFunc 186 a).run sr w=.halt (.unsupported (.extern Tryz.f186.name)) w:=kr
def lp{Q}(O:Q (λargs=>unpack (args.getD 0 (.tuple #[]))))(Y:Q (methodAny (te "reflectlite.Value.Type" 0) (λt _ _ _=>tx t)))(w:Q (sR (te "reflectlite.Value.IsNil" 0) isNil))(X:Q tv)(U:Q (sR (te "reflectlite.Value.Elem" 0) tB))(a:Q uJ)(I:Q (uW (λt=>do pure (.int .u8 (<-kind t)))))(V:Q (sR (pure (.int .u8 0)) (λ_ _ _ k=>pure (.int .u8 (Int.ofNat k)))))(Z:Q (tf "AssignableTo" uv))(G:Q (tc vj))(h:Q (tf "Implements" vu)) {f}(E:Z6.contains f=sy):l9 Q f:=by
 let key:∀f∈Z6,l9 Q f:=by
  simp only[Z6,List.forall_mem_cons];exact⟨Kr Tryz.f96 O,Kr Tryz.f97 Y,Kr Tryz.f98 w,Kr Tryz.f100 X,Kr Tryz.f133 U,Kr Tryz.f134 a,⟨Tryz.f186,by kernel_rfl,td,.inr λa w=>⟨_,w,bE a w,sk⟩⟩,Kr Tryz.f187 I,Kr Tryz.f194 V,Kr Tryz.f197 Z,Kr Tryz.f199 G,Kr Tryz.f200 h,λ_ h=>nf h⟩
 exact key f (sx E)
def QY:Es sr JF E9:=λf V=>by
 obtain h|h:=ł _ _▸V
 have⟨f,E,O,I⟩:=mR qH h;exact⟨f,E,O,.inl I⟩
 obtain⟨f,E,O,⟨I,Z,x,V,Y⟩|I⟩:=lp (Q:=λx=>∀L,YW sr (Ė JF) L x) (λ_=>ib) (λ_=>wX) (λ_=>pR) (λ_=>(by
  refine QG (λl G=>?_) λr u v U h=>?_
  .
   match l,G with
   |[],_=>exact AV (h:=.stuck _) sk
   |[_],G=>cases G J
   |_::_::_,_=>exact AV (h:=.stuck _) sk
  .
   have E:=h.p;cases u<;>simp[Br]at E<;>first|exact Ah|skip
   case nilIface=>subst E;exact Ad (VR.plain (n:=0) J)
   case iface t w=>obtain⟨w',rfl,-⟩:=E;exact PV U t)) (λ_=>wO) (λ_=>yI) (λ_=>(by
  refine QG (λl G=>?_) λr u v U h=>?_
  .
   match l,G with
   |[],_=>exact AV (h:=.stuck _) sk
   |[_],G=>cases G J
   |_::_::_,_=>exact AV (h:=.stuck _) sk
  apply Ac (MI U h);rintro s _ t k rfl;refine Ac (D9 (FI _ t)) λk _ _ _ _=>?_
  apply Ac (D9 (I1 t));rintro k _ k _ rfl;exact Ad (VR.int ..))) (λ_=>(JA (λ_=>Ad (VR.int ..)) λ_ _ _ _ _ _ _ _=>Ad (VR.int ..))) (λ_=>Rk "AssignableTo" K6) (λ_=>Yp) (λ_=>Rk "Implements" LG) h
 exact⟨f,E,O,.inr (.inl ⟨I,J,Z,x,V,Y⟩)⟩
 exact⟨f,E,O,.inr (.inr I)⟩
open Go.RowKit
def kH low E(a h:Vl)(p:Int->Bool)(w0 w:M)(G:zW w0 w)(b:0<=low)(m:low<=E)(b:E<=1099511627777)
  (b:∀(n)(W:M),low<=n->n<E->zW w0 W->Ë 103 #[.q n,a,h] W λe w'=>e=.r (.bool (p n))/\zW W w'):
  Calls sr 102 #[.q low,.q E,.func (.func 103) #[] #[a,h]] w λe w'=>∃r,e=.r (.q r)/\low<=r/\r<=E/\(r=E\/p r=sy)/\(r=low\/p (r-1)=ss)/\zW w0 w':=by
 have n:=Io b;clear b;go_in
 go_wp21;go_loopw[0,1] (λl h e=>∃a b:Int,l=.q a/\h=.q b/\low<=a/\a<=b/\b<=E/\(b=E\/p b=sy)/\(a=low\/p (a-1)=ss)/\zW w0 e)(λl h _=>(intOf h-intOf l).toNat)
 case atStart=>exact⟨low,E,J,J,Ā _,m,Ā _,.inl J,.inl J,G⟩
 case round=>
  obtain⟨a,b,rfl,rfl,w,e,r,Z,V,U⟩:=hrel;have G:=qZ Z V U;clear Z V U;by_cases e:a<b
  .
   have⟨m,e⟩:=ex (a+(b-a)/2);have E:a<=m:=N;have h:m<b:=N;have l:=Io e;clear e;cases Y:p m with
   |true=>
    have O:=Io Y;clear Y;go_wp21;rw[l.o];apply(n.o m _ N N G.o.2.2).mono
    rintro e p⟨rfl,I⟩;rw[O.o];have h:=Io (G.o.2.2.tr I);clear I;go_wp2
    go_roundw
    case rel=>exact⟨a,m,J,J,w,E,N,.inr O.o,G.o.2.1,h.o⟩
    case measure=>simp[intOf];omega
   |false=>
    have O:=Io Y;clear Y;go_wp21;rw[l.o];apply(n.o m _ N N G.o.2.2).mono
    rintro e p⟨rfl,I⟩;rw[O.o];have h:=Io (G.o.2.2.tr I);clear I;go_wp2
    go_roundw
    case rel=>exact⟨m+1,b,J,J,N,N,r,G.o.1,.inr (rj (show m+1-1=m by omega) O.o),h.o⟩
    case measure=>simp[intOf];omega
  go_wp2
  go_ret;have⟨Z,V,U⟩:=G.o;have e:a=b:=N;subst e;exact⟨a,J,w,r,Z,V,U⟩
end Go.Proofs.YtaoikkhlnhfkfaaGreatDoor
