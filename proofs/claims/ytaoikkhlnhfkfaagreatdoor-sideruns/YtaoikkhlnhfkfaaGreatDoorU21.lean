import Derived.Test.YtaoikkhlnhfkfaaGreatDoorU00
import Derived.Test.YtaoikkhlnhfkfaaGreatDoorU20
import Derived.Test.YtaoikkhlnhfkfaaGreatDoorU07
import Derived.Conc.DeferLaws
import Derived.Conc.Listed
import Derived.Conc.WgGenN3
import Derived.Conc.WalkWords
set_option maxRecDepth 100000
set_option linter.defProp false
set_option linter.unusedSimpArgs false
set_option linter.unusedVariables false
namespace Go.Proofs.YtaoikkhlnhfkfaaGreatDoor
open Go renaming World->tz,Frame->vh,Event->zs,stepG->tt,Program->tP,yielded->wE,execOp->vf,Func->zJ,undef->yf,Sem->xZ,choose->wP
open Option renaming some->A,none->sA
open Proofs.Tryz renaming prog->sr,f54->A0,f37->At
open Region renaming wanted->tn
open Bool renaming true->sy,false->ss
open Frame renaming enter->tR
open Nat renaming reduceAdd->xM
open List renaming range->tW
open List.range renaming loop->wb
open Sem renaming run->tj,events->ux,runT->wi
open World renaming cell?->sY
def aM (f:Nat):=[33,57,58,59,61,102,103,104,105,106,107,135,136].contains f
def CY (g:Nat):=[3,1,0,4,5,6,7,8,2].contains g
def Errs9.u{w w':M}{ad}(h:Errs9 w ad)(E:∀a,w'.cell? a=w.cell? a):Errs9 w' ad:=
 ⟨(E _).trans h.g,(E _).trans h.e,(E _).trans h.a,(E _).trans h.k,(E _).trans h.l,(E _).trans h.b,(E _).trans h.p,(E _).trans h.q,(E _).trans h.r,(E _).trans h.i⟩
def Ep (g:Nat):=g==9 ||CY g
section
variable {F:Nat->Prop}{L:Nat}{r:Ô}{w w':tz}
def VR.h{ty:tI}{a}{v:Vl}(h:VR F r (.f ty (.p (A a))) v):∃a',v=.f ty (.p (A a'))/\AR r a a':=by
 obtain⟨u,rfl,G⟩:=h.p;obtain⟨o,rfl,E⟩:=G.p;cases o with
 |none=>exact E.elim
 |some a'=>exact⟨a',J,E⟩
def AR.D{a b c}(h:AR r a b)(Y:AR r a c):b=c:=by
 obtain⟨E,E,E⟩:=b;obtain⟨E,Z,E⟩:=c;let⟨U,O,V⟩:=h;let⟨E,G,I⟩:=Y;dsimp only at U O V E G I
 subst O V G I;rw[r.fn _ _ _ U E]
def MX (r:Ô):=∀g,g∈[3,1,0,4,5,6,7,8,2]->r.rel g g
def YN (V:WR F L r w w')(G:MX r){ad O}(E:Errs9 w ad)(I:Errs9 w' O) k(Y:k<9):AR r (ad k) (O k):=by
 let one:∀(g:Nat)(a a':Addr),r.rel g g->w.cell? (C g 0)=A (.f 255 (.p (A a)))->w'.cell? (C g 0)=A (.f 255 (.p (A a')))->AR r a a':=λg a a' b X Z=>by
  obtain⟨v,U,v⟩:=V.E (a:=(C g 0)) (a':=(C g 0)) ⟨b,J,J⟩ X;rw[Z]at U;cases U
  let⟨b,a,Z⟩:=v.h;cases a
  exact Z
 match k,Y with
 |0,_=>exact one _ _ _ (G _ sm) E.e I.e
 |1,_=>exact one _ _ _ (G _ sm) E.a I.a
 |2,_=>exact one _ _ _ (G _ sm) E.k I.k
 |3,_=>exact one _ _ _ (G _ sm) E.l I.l
 |4,_=>exact one _ _ _ (G _ sm) E.b I.b
 |5,_=>exact one _ _ _ (G _ sm) E.p I.p
 |6,_=>exact one _ _ _ (G _ sm) E.q I.q
 |7,_=>exact one _ _ _ (G _ sm) E.r I.r
 |8,_=>exact one _ _ _ (G _ sm) E.i I.i
def Dm.e (O:WR F L r w w')(ai:MX r){G}(I:Errs9 w' G){Z V:Vl}{c a}(h:Dm w Z c a)(ab:VR F r Z V):Dm w' V c a:=by
 obtain⟨rfl,rfl,rfl⟩|⟨b,W,k,E,rfl,⟨rfl,rfl⟩|⟨d,rfl,y,T⟩⟩:=h
 exact .inl ⟨ab.p,J,J⟩
 obtain⟨b,rfl,Y⟩:=ab.h;rw[Y.D (YN O ai W I k E)];exact SC I k E
 obtain⟨b,rfl,Y⟩:=ab.h;let⟨X,o,s⟩:=b;let⟨U,b,o⟩:=Y;dsimp only at U b o
 subst b o;obtain⟨x,x,s⟩:=O.E (a:=(C d 0)) (a':=(C X 0)) ⟨U,J,J⟩ y;let⟨y,b,o⟩:=O.E (a:=(C d 1)) (a':=(C X 1)) ⟨U,J,J⟩ T;have d:=s.p;subst d;obtain⟨d,rfl,d⟩:=o.h;rw[d.D (YN O ai W I k E)]at b;exact FZ I k E a X x b
def Bo.e (O:WR F L r w w')(U:MX r){G}(Y:Errs9 w' G){Z V:Vl}{c p}(h:Bo w Z c p)(E:VR F r Z V):Bo w' V c p:=by
 refine⟨h.code.e O U Y E,λI=>?_,λI=>?_⟩
 have e:=h.a I;subst e;exact E.p
 obtain⟨e,v,rfl⟩:=h.b I;obtain⟨u,rfl,-⟩:=E.p;exact⟨_,_,J⟩
end
section
variable {F:Nat->Prop}{L:Nat}{r:Ô}{w w':tz}
def VR.j{x y v:Vl}(h:VR F r (.t #[x,y]) v):∃x' E,v=.t #[x',E]/\VR F r x x'/\VR F r y E:=by
 obtain⟨b,rfl,O⟩:=h.p;obtain⟨x',E,rfl,G,I⟩:=O.j;exact⟨x',E,J,G,I⟩
end
open Go.Conc
def Dm.u{w w':M}{Z:Vl}{c a}(h:Dm w Z c a)(E:∀a,w'.cell? a=w.cell? a):Dm w' Z c a:=by
 obtain h|⟨X,I,k,G,e,h|⟨Y,U,O,V⟩⟩:=h
 exact .inl h
 exact .inr ⟨X,I.u E,k,G,e,.inl h⟩
 exact .inr ⟨X,I.u E,k,G,e,.inr ⟨Y,U,(E _).trans O,(E _).trans V⟩⟩
open Go.RowKit
def EZ (n wks:Int)(ad:Nat->Addr)(w:M)(e:Ending)(w':M):=w'=w/\((Bl n wks=3/\e=.r (.f 255 (.p (A (ad 2)))))\/(Bl n wks=2/\e=.r (.f 255 (.p (A (ad 1)))))\/(Bl n wks=0/\e=.returned .n))
def QW n wks(w:M) ad(V:Errs9 w ad):Calls sr 16 #[.q n,.q wks] w (EZ n wks ad w):=by
 let O:=V.a;let U:=V.k;let e:∀e w',Hid (EZ n wks ad w e w')->EZ n wks ad w e w':=λ_ _ h=>h.out
 by_cases G:wks<1
 .
  let E:Hid (EZ n wks ad w (.r (.f 255 (.p (A (ad 2))))) w):=⟨J,.inl ⟨by simp[Bl,G],J⟩⟩
  let Z:=ď G;clear O;go_in
  go_wp2
  go_ret;exact E.o
 by_cases I:16<wks
 .
  let E:Hid (EZ n wks ad w (.r (.f 255 (.p (A (ad 2))))) w):=⟨J,.inl ⟨by simp[Bl,G,I],J⟩⟩
  clear O;go_in
  go_wp2
  go_ret;exact E.o
 by_cases Y:100<n
 .
  let E:Hid (EZ n wks ad w (.r (.f 255 (.p (A (ad 1))))) w):=⟨J,.inr (.inl ⟨by simp[Bl,G,I,Y],J⟩)⟩
  clear U;go_in
  go_wp2
  go_ret;exact E.o
 let E:Hid (EZ n wks ad w (.returned .n) w):=⟨J,.inr (.inr ⟨by simp[Bl,G,I,Y],J⟩)⟩
 clear O U;go_in
 go_wp2
 go_ret;exact E.o
open Go.Conc
variable {b:vh}{a:Act}{cs:lF}{ops:aO}{i:Nat}{rest:lN}{o:Oper}
def Å (P:pG)(main:Bool)(F:M->Prop)(Ev:zs->Prop):Nat->gR->gR->Prop
 |0,g,g'=>g=g'
 |n+1,g,E=>g.status=.running/\∃g' es,(∀e∈es,Ev e)/\(∀w,F w->tt P main g w=.go g' w es)/\Å P main F Ev n g' E
section
variable {P:tP}{main:Bool}{F:tz->Prop}{Ev:zs->Prop}{n m:Nat}{g g' g'':Goroutine}
def Å.I g:Å P main F Ev 0 g g:=rfl
def Å.c (E:g.status=.running)(h:∀w,tt P main g w=.go g' w)(k:Å P main F Ev n g' g''):Å P main F Ev (n+1) g g'':=⟨E,g',#[],sm,λw _=>h w,k⟩
def Å.j{es}(E:g.status=.running)(G:∀e∈es,Ev e)(h:∀w,F w->tt P main g w=.go g' w es)(k:Å P main F Ev n g' g''):Å P main F Ev (n+1) g g'':=⟨E,g',es,G,h,k⟩
def Å.h:∀{n}{g},Å P main F Ev n g g'->Å P main F Ev m g' g''->Å P main F Ev (n+m) g g''
 |0,_,h,k=>by
  cases h
  rw[Ă];exact k
 |n+1,_,⟨I,x,Z,G,E,h⟩,k=>by
  rw[Nat.add_right_comm];exact⟨I,x,Z,G,E,h.h k⟩
def Å.value{k:lM}(v:Vl)(O:ops[i]? = A o)(E:tn o (wE ops a.tmps)=sy)(I:b.kind≠.early)
  (Y:∀w,(vf a.eval o).run P w=.ok (.value v) w)(V:∀w,(vf a.eval o).events P w #[]= #[])
  (U:Å P main F Ev n (G (b.at (a.put o.dst v) (.inRegion ops rest::k)) cs) g''):Å P main F Ev (n+1) (G (b.at a (.inRegion ops (i::rest)::k)) cs) g'':=
 c J (λw=>by rw[stepG_value O E I (Y w)];unfold listed;rw[V w,seen_none]) U
def Å.load{k:lM}{ad}(v:Vl)(U:ops[i]? = A o)(I:tn o (wE ops a.tmps)=sy)(O:b.kind≠.early)
  (Z:∀w,F w->(vf a.eval o).run P w=.ok (.value v) w)(Y:∀w,F w->(vf a.eval o).events P w #[]= #[⟨.cell ad,ss,ss⟩])(ab:Ev ⟨.cell ad,ss,ss⟩)
  (V:Å P main F Ev n (G (b.at (a.put o.dst v) (.inRegion ops rest::k)) cs) g''):Å P main F Ev (n+1) (G (b.at a (.inRegion ops (i::rest)::k)) cs) g'':=by
 by_cases X:(P.funcs[b.fn]?).any (·.norace)=sy
 refine .j (es:=#[]) J sm (λw E=>?_) V;rw[stepG_value U I O (Z w E)];unfold listed;rw[Y w E];simp[seen,X]
 refine .j (es:=#[⟨.cell ad,ss,ss⟩]) J (λe h=>?_) (λw E=>?_) V
 rw[mn]at h;subst h;exact ab
 rw[stepG_value U I O (Z w E)];unfold listed;rw[Y w E];simp[seen,X]
end
open Go.Conc Go.RowKit Go.Conc.Lib Go.ConcR.Gen
section
variable {P:tP}{main:Bool}{F:tz->Prop}{Ev:zs->Prop}{g g':Goroutine}
def Å.k{n E}(h:Å P main F Ev n g' E)(G:g.status=.running:=by rfl)(hw:∀w,tt P main g w=.go g' w:=by first|exact λ_=>stepG_seq|exact λ_=>stepG_region_end|exact λ_=>stepG_region|exact λ_=>stepG_skip|exact λ_=>stepG_ret'|exact λ_=>stepG_block|exact λ_=>stepG_inBlock|exact λ_=>stepG_inLoop):Å P main F Ev (n+1) g E:=.c G hw h
section
variable {b:vh}{a:Act}{k:List Item}{cs:List vh}{ops:Array Oper}{i:Nat}{rest:List Nat}{o:Oper}
def Å.v{v:Vl}{n E}(h:Å P main F Ev n (G (b.at (a.put o.dst v) (.inRegion ops rest::k)) cs) E)(I:ops[i]? = A o:=by rfl)(hw:tn o (wE ops a.tmps)=true:=by rfl)(hk:b.kind≠.early:=by decide)(hr:∀w,(vf a.eval o).run P w=.ok (.value v) w:=by (intro _;go_simp<;>rfl))(he:∀w,(vf a.eval o).events P w #[]= #[]:=by (intro _;simp[go_sem])):Å P main F Ev (n+1) (G (b.at a (.inRegion ops (i::rest)::k)) cs) E:=.value v I hw hk hr he h
end
end
abbrev _root_.Go.Proofs.Tryz.link:Go.Conc.Lib.WgLink:={add:=36,done:=38,wait:=40,relMerge:=69,disable:=70,enable:=71,inBubble:=72,associate:=73,fatal:=74,uOr:=75,uAdd:=76,raceRead:=77,uLoad:=78,uStore:=79,disassociate:=80,semrelease:=81,acquire:=82,isAssociated:=83,uCas:=84,raceWrite:=85,semacquire:=86,orU64:=122,addU64:=123,loadU64:=124,storeU64:=125,casU64:=126,tWgP:=140,tUP:=142,tAssoc:=143,tWg:=98,tAU:=95,tU64:=93,tUint:=147,tU32:=96,tPU32:=148,tPAU:=197,tPU64:=199,tNoCopy:=90,tANoCopy:=91,tAlign64:=92}
def _root_.Go.Proofs.Tryz.wgLib:Go.Conc.Lib.WgLib sr Tryz.link:=
 ⟨Tryz.func36,Tryz.func38,Tryz.func40,Tryz.func69,Tryz.func70,Tryz.func71,Tryz.func72,Tryz.func73,Tryz.func74,Tryz.func75,Tryz.func76,Tryz.func77,Tryz.func78,Tryz.func79,Tryz.func80,Tryz.func81,Tryz.func82,Tryz.func83,Tryz.func84,Tryz.func85,Tryz.func86,Tryz.func122,Tryz.func123,Tryz.func124,Tryz.func125,Tryz.func126,Tryz.underlying140,Tryz.runUnderlying140,Tryz.sizeOf140,Tryz.isAgg140,Tryz.zeroValue140,Tryz.underlying142,Tryz.runUnderlying142,Tryz.sizeOf142,Tryz.isAgg142,Tryz.zeroValue142,Tryz.underlying143,Tryz.runUnderlying143,Tryz.sizeOf143,Tryz.isAgg143,Tryz.zeroValue143,Tryz.underlying98,Tryz.runUnderlying98,Tryz.sizeOf98,Tryz.isAgg98,Tryz.zeroValue98,Tryz.underlying95,Tryz.runUnderlying95,Tryz.sizeOf95,Tryz.isAgg95,Tryz.zeroValue95,Tryz.underlying93,Tryz.runUnderlying93,Tryz.sizeOf93,Tryz.isAgg93,Tryz.zeroValue93,Tryz.underlying147,Tryz.runUnderlying147,Tryz.sizeOf147,Tryz.isAgg147,Tryz.zeroValue147,Tryz.underlying96,Tryz.runUnderlying96,Tryz.sizeOf96,Tryz.isAgg96,Tryz.zeroValue96,Tryz.underlying148,Tryz.runUnderlying148,Tryz.sizeOf148,Tryz.isAgg148,Tryz.zeroValue148,Tryz.underlying197,Tryz.runUnderlying197,Tryz.sizeOf197,Tryz.isAgg197,Tryz.zeroValue197,Tryz.underlying199,Tryz.runUnderlying199,Tryz.sizeOf199,Tryz.isAgg199,Tryz.zeroValue199,Tryz.underlying0,Tryz.runUnderlying0,Tryz.sizeOf0,Tryz.isAgg0,Tryz.zeroValue0,Tryz.underlying3,Tryz.runUnderlying3,Tryz.sizeOf3,Tryz.isAgg3,Tryz.zeroValue3,Tryz.underlying4,Tryz.runUnderlying4,Tryz.sizeOf4,Tryz.isAgg4,Tryz.zeroValue4,Tryz.underlying9,Tryz.runUnderlying9,Tryz.sizeOf9,Tryz.isAgg9,Tryz.zeroValue9,Tryz.underlying20,Tryz.runUnderlying20,Tryz.sizeOf20,Tryz.isAgg20,Tryz.zeroValue20,Tryz.underlying21,Tryz.runUnderlying21,Tryz.sizeOf21,Tryz.isAgg21,Tryz.zeroValue21,(by kernel_rfl),(by kernel_rfl)⟩
open Go.RowKit
def Ak:Code->Code
 |.seq _ b=>b
 |_=>.skip
def A7:Code->Code
 |.seq a _=>a
 |_=>.skip
def CR:Code->Code
 |.block _ c=>c
 |.loop c=>c
 |_=>.skip
def Gc:Code->aO
 |.region _ ops _=>ops
 |_=>#[]
def È (f:zJ):=f.body.getD .skip
abbrev ŝ:Bool->Nat
 |false=>54
 |true=>37
abbrev Ň:Bool->Nat
 |false=>31
 |true=>18
abbrev Ş:Bool->Nat
 |false=>55
 |true=>39
abbrev mi:Bool->Nat
 |false=>56
 |true=>41
abbrev š:Bool->Nat
 |false=>32
 |true=>19
def ò (P:pG)(q:Bool):=P.funcs[ŝ q]?.getD default
def đ (P:pG)(q:Bool):=P.funcs[Ň q]?.getD default
def Ņ (P:pG)(q:Bool):=P.funcs[Ş q]?.getD default
abbrev Č:Bool->Nat
 |false=>128
 |true=>101
abbrev tY:Bool->Nat
 |false=>129
 |true=>102
abbrev mQ:Bool->Nat
 |false=>126
 |true=>88
abbrev zA:Bool->Vl
 |false=>.q 0
 |true=>.slice sA 0 0
def Oi:Bool->Vl->Prop
 |false,x=>∃d:Int,x=.q d
 |true,x=>∃a n c,x=.slice a n c
def Vr:ò sr ss=Tryz.f54:=by
 unfold ò;rw[show sr.funcs[ŝ ss]? = _ from Tryz.func54];rfl
def UX:ò sr sy=Tryz.f37:=by
 unfold ò;rw[show sr.funcs[ŝ sy]? = _ from Tryz.func37];rfl
def OU:đ sr ss=Tryz.f31:=by
 unfold đ;rw[show sr.funcs[Ň ss]? = _ from Tryz.func31];rfl
def OT:đ sr sy=Tryz.f18:=by
 unfold đ;rw[show sr.funcs[Ň sy]? = _ from Tryz.func18];rfl
def Rl:Ņ sr ss=Tryz.f55:=by
 unfold Ņ;rw[show sr.funcs[Ş ss]? = _ from Tryz.func55];rfl
def Re:Ņ sr sy=Tryz.f39:=by
 unfold Ņ;rw[show sr.funcs[Ş sy]? = _ from Tryz.func39];rfl
def zP:∀q,sr.funcs[Ş q]? = A (Ņ sr q)
 |false=>Rl▸Tryz.func55
 |true=>Re▸Tryz.func39
def nw:∀q,(sr.info? (Č q)).map (λi=>(i.zero,i.size,i.bytes))=A (A (.agg #[.q 0,zA q,.n]),3,cond q 48 32)
 |false=>kr
 |true=>kr
def n3:∀q,sr.underlying (tY q)=A (.slice (Č q))
 |false=>kr
 |true=>kr
def Xt:∀q w,(Go.sizeOf (Č q)).run sr w=.ok 3 w
 |false=>Tryz.sizeOf128
 |true=>Tryz.sizeOf101
def zT:∀q w,(isAgg (Č q)).run sr w=.ok sy w
 |false=>Tryz.isAgg128
 |true=>Tryz.isAgg101
def zN:∀q w,(isAgg (mQ q)).run sr w=.ok ss w
 |false=>Tryz.isAgg126
 |true=>Tryz.isAgg88
open Go.Conc Go.RowKit Go.Conc.Lib Go.ConcR.Gen
def II (f:zJ):=CR (CR (Ak (Ak (È f))))
def Ń (q:Bool):=baseD (ŝ q)
def EK (P:pG):={(default:vh)with fn:=P.funcs.size,defers:=[],mode:=.panicking [goexitEntry]}
def LD (q:Bool)(E G ba br:Nat):Deferred:={target:=.fn (.func (ŝ q)) #[.pp E 0,.pp G 0,.pp ba 0,.pp br 0],args:=#[]}
def zy q E I ba br(w:M):tt sr ss (born sr (LD q E I ba br)) w=
  .go (G ((Ń q).at ⟨#[.pp E 0,.pp I 0,.pp ba 0,.pp br 0,uu,uu,uu,uu,uu,uu,uu,uu,uu,uu,uu,uu,uu,uu,uu,uu,uu,uu],[]⟩ [.code (È (ò sr q))]) [EK sr]) w #[]:=by
 cases q
 all_goals
  simp[born,LD,tt,unwind,callDeferred,invoke,callFunc,ŝ,Tryz.func54,Tryz.func37,ŝ,Vr,UX,A0,At,seen,GStep.after,G,tR,Frame.at,Ń,baseD,EK,È]
def uN{q}{F:tz->Prop}{Ev wg bn ba br cn}(hF:∀w,F w->w.cell? ⟨bn,0,sA⟩=A (.chan (A cn)))(hE:Ev ⟨.cell ⟨bn,0,sA⟩,ss,ss⟩):Å sr ss F Ev 13 (born sr (LD q wg bn ba br)) (G ((Ń q).at ⟨#[.pointer (A ⟨wg,0,sA⟩),.pointer (A ⟨bn,0,sA⟩),.pointer (A ⟨ba,0,sA⟩),.pointer (A ⟨br,0,sA⟩),yf,yf,yf,.chan (A cn),yf,yf,yf,yf,yf,yf,yf,yf,yf,yf,yf,yf,yf,yf],[dcall 38 #[.pointer (A ⟨wg,0,sA⟩)]]⟩
   [.inRegion (Gc (A7 (II (ò sr q)))) [0,1],.code (Ak (II (ò sr q))),.inLoop (II (ò sr q)),.inBlock 0]) [EK sr]):=by
 cases q
 all_goals
  apply Å.c J (zy _ wg bn ba br)
  simp[È,II,CR,Ak,A7,Gc,ŝ,Vr,UX,A0,At,é]
  refine Å.k ?_;try walk_nrm
  refine Å.k ?_;try simp[Ŷ,Ċ,Ġ,xM,Ă,tW,wb];try walk_nrm
  apply Å.c J (λ_=>(stepG_defer J J dc J));try walk_nrm
  refine Å.k ?_;try walk_nrm
  refine Å.k ?_;try walk_nrm
  refine Å.k ?_;try simp[Ŷ,Ċ,Ġ,xM,Ă,tW,wb];try walk_nrm
  refine Å.load (ad:=⟨bn,0,sA⟩) (.chan (A cn)) J J dc (λw h=>?_) (λw h=>?_) hE ?_
  .
   let Z:=hF w h
   go_simp
  .
   let Z:=hF w h
   simp[go_sem, *]
  walk_nrm
  refine Å.k ?_;try walk_nrm
  refine Å.k ?_;try walk_nrm
  apply Å.c J (λ_=>stepG_loop);try walk_nrm
  refine Å.k ?_;try walk_nrm
  refine Å.k ?_;try simp[Ŷ,Ċ,Ġ,xM,Ă,tW,wb];try walk_nrm
  exact Å.I _
abbrev Ca (G E i:Nat):Array Vl:=#[.q i,.pp G 0,.pp E 0]
open Go.Conc Go.RowKit Go.Conc.Lib Go.ConcR.Gen
def Å.enter{P:pG}{main F Ev n E}{b:vh}{a}{k:lM}{cs:lF}{ops:aO}{i}{rest:lN}{o}(f:fI)(args:Array Vl)(U:ops[i]? = A o)(I:tn o (wE ops a.tmps)=sy)(O:b.kind≠.early)
  (Z:∀w,(vf a.eval o).run P w=.ok (.enter f args) w)(Y:∀w,(vf a.eval o).events P w #[]= #[])
  (V:Å P main F Ev n (G (tR P f args .normal) (b.at a (.inRegion ops (i::rest)::k)::cs)) E):Å P main F Ev (n+1) (G (b.at a (.inRegion ops (i::rest)::k)) cs) E:=
 c J (λw=>by rw[stepG_enter U I O (Z w)];unfold listed;rw[Y w,seen_none]) V
def KQ (E:Nat):=[dcall 38 #[.pp E 0]]
def Ŕ (f:zJ):lM:=[.inLoop (II f),.inBlock 0]
def Iu (f:zJ):=Gc (A7 (II f))
def aR (f:zJ):=CR (Ak (Ak (II f)))
def JS (f:zJ):=Gc (A7 (Ak (aR f)))
def Ow (f:zJ):=Ak (Ak (aR f))
def JN (f:zJ):=Gc (Ow f)
section
variable {q:Bool}{F:tz->Prop}{Ev:zs->Prop}{wg bn ba br cn cr bl bp i:Nat}{t4 t5 t6 t8 t9 t10 t11 t12 t13 t14 t15 t16 t17 t18 t19 t20 t21:Value}
def rV (hF:∀w,F w->w.cell? ⟨ba,0,sA⟩=A (.func (.func (š q)) #[] #[.pointer (A ⟨bl,0,sA⟩),.pointer (A ⟨bp,0,sA⟩)]))(hE:Ev ⟨.cell ⟨ba,0,sA⟩,ss,ss⟩):Å sr ss F Ev 16 (G ((Ń q).at ⟨#[.pointer (A ⟨wg,0,sA⟩),.pointer (A ⟨bn,0,sA⟩),.pointer (A ⟨ba,0,sA⟩),.pointer (A ⟨br,0,sA⟩),t4,t5,t6,.chan (A cn),.tuple #[.int .i64 i,.bool sy],t9,t10,t11,t12,t13,t14,t15,t16,t17,t18,t19,t20,t21],KQ wg⟩
    (.inRegion (Iu (ò sr q)) [1]::.code (Ak (II (ò sr q)))::Ŕ (ò sr q))) [EK sr])
   (G (tR sr (š q) (Ca bl bp i) .normal) [(Ń q).at ⟨#[.pointer (A ⟨wg,0,sA⟩),.pointer (A ⟨bn,0,sA⟩),.pointer (A ⟨ba,0,sA⟩),.pointer (A ⟨br,0,sA⟩),.int .i64 i,t5,t6,.chan (A cn),.tuple #[.int .i64 i,.bool sy],.bool sy,.int .i64 i,t11,.func (.func (š q)) #[] #[.pointer (A ⟨bl,0,sA⟩),.pointer (A ⟨bp,0,sA⟩)],.int .i64 i,t14,t15,t16,t17,t18,t19,t20,t21],KQ wg⟩
    (.inRegion (JS (ò sr q)) [2,3,4,5,6,7]::.code (Ow (ò sr q))::.inBlock 1::Ŕ (ò sr q)),EK sr]):=by
 obtain⟨Z,hfn⟩:∃Z,Z=š q:=⟨_,J⟩
 rw[<-hfn]at hF⊢
 cases q
 all_goals
  simp[È,II,CR,Ak,A7,Gc,Iu,JS,Ow,aR,Ŕ,ŝ,Vr,UX,A0,At,é]
  apply Å.value (.bool sy) J J (by decide) (λw=>by go_simp) (λw=>by simp[go_sem]);try walk_nrm
  refine Å.k ?_;try walk_nrm
  refine Å.k ?_;try walk_nrm
  apply Å.c J (λ_=>stepG_cond (t:=sy) J);try walk_nrm
  simp[ô]
  refine Å.k ?_;try walk_nrm
  refine Å.k ?_;try walk_nrm
  refine Å.k ?_;try walk_nrm
  refine Å.k ?_;try simp[Ŷ,Ċ,Ġ,xM,Ă,tW,wb];try walk_nrm
  apply Å.value (.int .i64 i) J J (by decide) (λw=>by go_simp) (λw=>by simp[go_sem]);try walk_nrm
  apply Å.value (.int .i64 i) J J (by decide) (λw=>by go_simp) (λw=>by simp[go_sem]);try walk_nrm
  refine Å.k ?_;try walk_nrm
  refine Å.k ?_;try walk_nrm
  refine Å.k ?_;try simp[Ŷ,Ċ,Ġ,xM,Ă,tW,wb];try walk_nrm
  refine Å.load (ad:=⟨ba,0,sA⟩) (.func (.func Z) #[] #[.pointer (A ⟨bl,0,sA⟩),.pointer (A ⟨bp,0,sA⟩)]) J J (by decide) (λw h=>?_) (λw h=>?_) hE ?_
  .
   let t:=hF w h
   go_simp
  .
   let t:=hF w h
   simp[go_sem, *]
  try walk_nrm
  apply Å.value (.int .i64 i) J J (by decide) (λw=>by go_simp) (λw=>by simp[go_sem]);try walk_nrm
  refine Å.enter Z (Ca bl bp i) J J (by decide) (λw=>?_) (λw=>?_) ?_
  .
   subst hfn
   go_simp
  .
   subst hfn
   simp[go_sem,callFunc,Tryz.func32,Tryz.f32,Tryz.func19,Tryz.f19]
  try walk_nrm
  exact Å.I _
def yC{d y:Value}(hd:Oi q d)(hy:y=.nilIface\/∃t v,y=.iface t v)(hF:∀w,F w->w.cell? ⟨br,0,sA⟩=A (.chan (A cr)))(hE:Ev ⟨.cell ⟨br,0,sA⟩,ss,ss⟩):Å sr ss F Ev 12 (G ((Ń q).at ⟨#[.pointer (A ⟨wg,0,sA⟩),.pointer (A ⟨bn,0,sA⟩),.pointer (A ⟨ba,0,sA⟩),.pointer (A ⟨br,0,sA⟩),.int .i64 i,t5,t6,.chan (A cn),t8,t9,t10,t11,t12,t13,.tuple #[d,y],t15,t16,t17,t18,t19,t20,t21],KQ wg⟩
    (.inRegion (JS (ò sr q)) [3,4,5,6,7]::.code (Ow (ò sr q))::.inBlock 1::Ŕ (ò sr q))) [EK sr])
  (G ((Ń q).at ⟨#[.pointer (A ⟨wg,0,sA⟩),.pointer (A ⟨bn,0,sA⟩),.pointer (A ⟨ba,0,sA⟩),.pointer (A ⟨br,0,sA⟩),.int .i64 i,d,y,.chan (A cn),t8,t9,t10,.tuple #[d,y],t12,t13,.tuple #[d,y],d,y,.chan (A cr),.int .i64 i,d,y,.agg #[.int .i64 i,d,y]],KQ wg⟩
    (.inRegion (JN (ò sr q)) [5]::.inBlock 1::Ŕ (ò sr q))) [EK sr]):=by
 cases q
 all_goals
  first|obtain⟨D,rfl⟩:=hd|obtain⟨r8,se,sd,rfl⟩:=hd
  obtain rfl|⟨t,v,rfl⟩:=hy
  .
   simp only[È,II,CR,Ak,A7,Gc,Iu,JS,Ow,JN,aR,Ŕ,ŝ,Vr,UX,A0,At,é]
   refine Å.v ?_;try walk_nrm
   refine Å.v ?_;try walk_nrm
   refine Å.v ?_;try walk_nrm
   refine Å.v ?_;try walk_nrm
   refine Å.v ?_;try walk_nrm
   refine Å.k ?_;try walk_nrm
   refine Å.k ?_;try simp only[Ŷ,Ċ,Ġ,xM,Ă,tW,wb];try walk_nrm
   refine Å.load (ad:=⟨br,0,sA⟩) (.chan (A cr)) J J dc (λw h=>?_) (λw h=>?_) hE ?_
   .
    let r8:=hF w h
    go_simp
   .
    let r8:=hF w h
    simp[go_sem, *]
   try walk_nrm
   refine Å.value (.int .i64 i) J J dc (λw=>by go_simp) (λw=>by simp[go_sem]) ?_;try walk_nrm
   refine Å.v ?_;try walk_nrm
   refine Å.v ?_;try walk_nrm
   refine Å.v ?_;try walk_nrm
   exact Å.I _
  simp only[È,II,CR,Ak,A7,Gc,Iu,JS,Ow,JN,aR,Ŕ,ŝ,Vr,UX,A0,At,é]
  refine Å.v ?_;try walk_nrm
  refine Å.v ?_;try walk_nrm
  refine Å.v ?_;try walk_nrm
  refine Å.v ?_;try walk_nrm
  refine Å.v ?_;try walk_nrm
  refine Å.k ?_;try walk_nrm
  refine Å.k ?_;try simp only[Ŷ,Ċ,Ġ,xM,Ă,tW,wb];try walk_nrm
  refine Å.load (ad:=⟨br,0,sA⟩) (.chan (A cr)) J J dc (λw h=>?_) (λw h=>?_) hE ?_
  .
   let r8:=hF w h
   go_simp
  .
   let r8:=hF w h
   simp[go_sem, *]
  try walk_nrm
  apply Å.value (.int .i64 i) J J dc (λw=>by go_simp) (λw=>by simp[go_sem]);try walk_nrm
  refine Å.v ?_;try walk_nrm
  refine Å.v ?_;try walk_nrm
  refine Å.v ?_;try walk_nrm
  exact Å.I _
def yn:Å sr ss F Ev 5 (G ((Ń q).at ⟨#[.pointer (A ⟨wg,0,sA⟩),.pointer (A ⟨bn,0,sA⟩),.pointer (A ⟨ba,0,sA⟩),.pointer (A ⟨br,0,sA⟩),t4,t5,t6,.chan (A cn),t8,t9,t10,t11,t12,t13,t14,t15,t16,t17,t18,t19,t20,t21],KQ wg⟩
    (.inRegion (JN (ò sr q)) []::.inBlock 1::Ŕ (ò sr q))) [EK sr])
   (G ((Ń q).at ⟨#[.pointer (A ⟨wg,0,sA⟩),.pointer (A ⟨bn,0,sA⟩),.pointer (A ⟨ba,0,sA⟩),.pointer (A ⟨br,0,sA⟩),t4,t5,t6,.chan (A cn),t8,t9,t10,t11,t12,t13,t14,t15,t16,t17,t18,t19,t20,t21],KQ wg⟩
    (.inRegion (Iu (ò sr q)) [0,1]::.code (Ak (II (ò sr q)))::Ŕ (ò sr q))) [EK sr]):=by
 cases q
 all_goals
  simp only[È,II,CR,Ak,A7,Gc,Iu,JS,Ow,JN,aR,Ŕ,ŝ,Vr,UX,A0,At,é]
  refine Å.k ?_;try walk_nrm
  refine Å.k ?_;try walk_nrm
  refine Å.k ?_;try walk_nrm
  refine Å.k ?_;try walk_nrm
  refine Å.k ?_;try simp only[Ŷ,tW]
  exact Å.I _
def sj:Å sr ss F Ev 6 (G ((Ń q).at ⟨#[.pointer (A ⟨wg,0,sA⟩),.pointer (A ⟨bn,0,sA⟩),.pointer (A ⟨ba,0,sA⟩),.pointer (A ⟨br,0,sA⟩),t4,t5,t6,.chan (A cn),.tuple #[.int .i64 0,.bool ss],t9,t10,t11,t12,t13,t14,t15,t16,t17,t18,t19,t20,t21],KQ wg⟩
    (.inRegion (Iu (ò sr q)) [1]::.code (Ak (II (ò sr q)))::Ŕ (ò sr q))) [EK sr])
   (G {(Ń q).at ⟨#[.pointer (A ⟨wg,0,sA⟩),.pointer (A ⟨bn,0,sA⟩),.pointer (A ⟨ba,0,sA⟩),.pointer (A ⟨br,0,sA⟩),t4,t5,t6,.chan (A cn),.tuple #[.int .i64 0,.bool ss],.bool ss,t10,t11,t12,t13,t14,t15,t16,t17,t18,t19,t20,t21],KQ wg⟩ []with mode:=.returning} [EK sr]):=by
 cases q
 all_goals
  simp only[È,II,CR,Ak,A7,Gc,Iu,JS,Ow,JN,aR,Ŕ,ŝ,Vr,UX,A0,At,é]
  refine Å.value (.bool ss) J J dc (λw=>by go_simp) (λw=>by simp[go_sem]) ?_;try walk_nrm
  refine Å.k ?_;try walk_nrm
  refine Å.k ?_;try walk_nrm
  refine Å.c J (λ_=>stepG_cond (t:=ss) J) ?_;try walk_nrm
  simp only[Ĭ]
  apply Å.c J (λ_=>stepG_exit J);apply Å.c J (λ_=>stepG_end);exact Å.I _
end
open Go.Conc Go.RowKit Go.Conc.Lib Go.ConcR.Gen
structure ű where
 (a d h e b cr g i:Nat)
structure φ where
 (r q s u t k j l m p h i g b d e a:Vl)
structure Φ (q:Bool)(v:ű)(w:M):Prop where
 d:w.cell? (C v.d 0)=A (.chan (A v.b))
 h:w.cell? (C v.h 0)=A (.func (.func (š q)) #[] #[.pp v.g 0,.pp v.i 0])
 e:w.cell? (C v.e 0)=A (.chan (A v.cr))
def Γ (v:ű)(e:zs):=∃b,(b=v.d\/b=v.h\/b=v.e)/\e=⟨.cell (C b 0),ss,ss⟩
def JG (q:Bool)(P:pG)(v:ű)(t:φ):gR:=G ((Ń q).at ⟨#[.pp v.a 0,.pp v.d 0,.pp v.h 0,.pp v.e 0,t.r,t.q,t.s,.chan (A v.b),t.u,t.t,t.k,t.j,t.l,t.m,t.p,t.h,t.i,t.g,t.b,t.d,t.e,t.a],KQ v.a⟩ (.inRegion (Iu (ò P q)) [0,1]::.code (Ak (II (ò P q)))::Ŕ (ò P q))) [EK P]
def gU (q:Bool)(P:pG)(v:ű)(t:φ)(x:Vl)(ok:Bool):gR:=G ((Ń q).at ⟨#[.pp v.a 0,.pp v.d 0,.pp v.h 0,.pp v.e 0,t.r,t.q,t.s,.chan (A v.b),.t #[x,.bool ok],t.t,t.k,t.j,t.l,t.m,t.p,t.h,t.i,t.g,t.b,t.d,t.e,t.a],KQ v.a⟩ (.inRegion (Iu (ò P q)) [1]::.code (Ak (II (ò P q)))::Ŕ (ò P q))) [EK P]
def Nv (q:Bool)(P:pG)(v:ű)(t:φ)(i:Nat):=(Ń q).at ⟨#[.pp v.a 0,.pp v.d 0,.pp v.h 0,.pp v.e 0,.q i,t.q,t.s,.chan (A v.b),t.u,t.t,t.k,t.j,t.l,t.m,t.p,t.h,t.i,t.g,t.b,t.d,t.e,t.a],KQ v.a⟩ (.inRegion (JS (ò P q)) [2,3,4,5,6,7]::.code (Ow (ò P q))::.inBlock 1::Ŕ (ò P q))
def tC (q:Bool)(P:pG)(v:ű)(t:φ)(i:Nat)(x y:Vl):gR:=G ((Ń q).at ⟨#[.pp v.a 0,.pp v.d 0,.pp v.h 0,.pp v.e 0,.q i,t.q,t.s,.chan (A v.b),t.u,t.t,t.k,t.j,t.l,t.m,.t #[x,y],t.h,t.i,t.g,t.b,t.d,t.e,t.a],KQ v.a⟩ (.inRegion (JS (ò P q)) [3,4,5,6,7]::.code (Ow (ò P q))::.inBlock 1::Ŕ (ò P q))) [EK P]
def NJ (q:Bool)(P:pG)(v:ű)(t:φ)(x:Vl):gR:=G ((Ń q).at ⟨#[.pp v.a 0,.pp v.d 0,.pp v.h 0,.pp v.e 0,t.r,t.q,t.s,.chan (A v.b),t.u,t.t,t.k,t.j,t.l,t.m,t.p,t.h,t.i,.chan (A v.cr),t.b,t.d,t.e,x],KQ v.a⟩ (.inRegion (JN (ò P q)) [5]::.inBlock 1::Ŕ (ò P q))) [EK P]
def xe (q:Bool)(P:pG)(v:ű)(t:φ):gR:=G ((Ń q).at ⟨#[.pp v.a 0,.pp v.d 0,.pp v.h 0,.pp v.e 0,t.r,t.q,t.s,.chan (A v.b),t.u,t.t,t.k,t.j,t.l,t.m,t.p,t.h,t.i,t.g,t.b,t.d,t.e,t.a],KQ v.a⟩ (.inRegion (JN (ò P q)) []::.inBlock 1::Ŕ (ò P q))) [EK P]
def uy (q:Bool)(P:pG)(v:ű)(t:φ):gR:=G {(Ń q).at ⟨#[.pp v.a 0,.pp v.d 0,.pp v.h 0,.pp v.e 0,t.r,t.q,t.s,.chan (A v.b),t.u,t.t,t.k,t.j,t.l,t.m,t.p,t.h,t.i,t.g,t.b,t.d,t.e,t.a],KQ v.a⟩ []with mode:=.returning} [EK P]
section
variable {q:Bool}{v:ű}{t:φ}
def Γ.l{b}(h:b=v.d\/b=v.h\/b=v.e):Γ v ⟨.cell (C b 0),ss,ss⟩:=⟨b,h,J⟩
def yQ:∃t,Å sr ss (Φ q v) (Γ v) 13 (born sr (LD q v.a v.d v.h v.e)) (JG q sr v t):=
 ⟨⟨_,_,_,_,_,_,_,_,_,_,_,_,_,_,_,_,_⟩,uN (F:=Φ q v) (Ev:=Γ v) (λ_ h=>h.d) (.l (.inl J))⟩
def ui (i:Nat):∃E,Å sr ss (Φ q v) (Γ v) 16 (gU q sr v t (.q i) sy) (G (tR sr (š q) (Ca v.g v.i i) .normal) [Nv q sr v E i,EK sr]):=
 ⟨⟨t.r,_,_,.t #[.int _ i,.bool _],.bool _,.int _ i,_,.func (.func _) _ #[.p (A ⟨_,0,_⟩),.p (A ⟨_,0,_⟩)],.int _ i,_,_,_,_,_,_,_,_⟩,rV (F:=Φ q v) (Ev:=Γ v) (λ_ h=>h.h) (.l (.inr (.inl J)))⟩
def xH{i d y}(E:Oi q d)(I:y=.n\/∃t v,y=.f t v):∃G,Å sr ss (Φ q v) (Γ v) 12 (tC q sr v t i d y) (NJ q sr v G (.agg #[.q i,d,y])):=
 ⟨⟨.int _ i,d,y,_,_,_,.t _,_,_,.t _,d,y,t.g,.int _ i,d,y,t.a⟩,yC (F:=Φ q v) (Ev:=Γ v) E I (λ_ h=>h.e) (.l (.inr (.inr J)))⟩
def yM:Å sr ss (Φ q v) (Γ v) 5 (xe q sr v t) (JG q sr v t):=yn
def sG:∃E,Å sr ss (Φ q v) (Γ v) 6 (gU q sr v t (.q 0) ss) (uy q sr v E):=
 ⟨⟨_,_,_,.t _,_,_,_,_,_,_,_,_,_,_,_,_,_⟩,sj⟩
def bB (g:gR){cs k}{x:Vl}{ok}(h:{g with status:=.running,offers:=sA}=JG q sr v t):g.finishComm sr cs (.recv sy) k x ok=gU q sr v t x ok:=by
 cases q
 all_goals
  have e:g.finishComm sr cs (.recv sy) k x ok=({g with status:=.running,offers:=sA}).finishComm sr cs _ k x ok:=rfl;rw[e,h];rfl
def vk (g:gR){cs k}{x y:Vl}{ok}(h:{g with status:=.running,offers:=sA}=NJ q sr v t x):∃E,g.finishComm sr cs .send k y ok=xe q sr v E:=by
 cases q
 all_goals
  have e:g.finishComm sr cs .send k y ok=({g with status:=.running,offers:=sA}).finishComm sr cs _ k y ok:=rfl;rw[e,h];exact⟨{t with g:=.chan _,a:=x},J⟩
end
def rh (o o':Obj):=(∃c e,o=.pending c e/\o'=.coro sA)\/∃a u,o=.view a u/\o'=.view ⟨0,0,A 0⟩ u
structure DY (H:Nat->Prop)(v w:M):Prop where
 h:w.heap.size=v.heap.size
 m:∀b,¬H b->(w.heap[b]? = v.heap[b]?/\(∀c e,v.heap[b]?≠A (.pending c e))/\∀a u,v.heap[b]?≠A (.view a u))\/∃o o',w.heap[b]? = A o/\v.heap[b]? = A o'/\rh o o'
 d:∀b,H b->∃c e,w.heap[b]? = A (.c c e (0,0))/\v.heap[b]? = A (.c #[] e (0,0))
 p:∀j q,w.tape (w.drawn+j) q=v.tape (v.drawn+j) q
 x:w.os=v.os
 i:w.output=v.output
structure ć (H:Nat->Prop)(w w':M):Prop where
 h:w.heap.size<=w'.heap.size
 d:∀b,H b->w'.heap[b]? = w.heap[b]?
 p:w'.tape=w.tape
 e:w.drawn<=w'.drawn
 x:w'.os=w.os
 i:w'.output=w.output
 a:∀(b:Nat) o,w.heap[b]? = A o->(∀c t fz,o≠.c c t fz)->w'.heap[b]? = A o
def ć.I H w:ć H w w:=⟨lr,λ_ _=>J,J,lr,J,J,λ_ _ h _=>h⟩
def ć.G{H a b c}(h:ć H a b)(k:ć H b c):ć H a c:=
 ⟨rX h.h k.h,λx E=>(k.d x E).trans (h.d x E),k.p.trans h.p,rX h.e k.e,k.x.trans h.x,k.i.trans h.i,λb o I G=>k.a b o (h.a b o I G) G⟩
def Qx (H:Nat->Prop)(n:Nat)(e:zs):=(∀a,e.loc=.cell a->¬H a.block/\a.block<n)/\(∀r,e.loc=.obj r->¬H r/\r<n)/\e.loc≠.output/\(∀m,e.loc=.mark m->m=.noRoom\/∃f,m=.extern f)
def Qx.l{H n m}(h:n<=m){e}(x:Qx H n e):Qx H m e:=
 ⟨λa E=>⟨(x.1 a E).1,rZ (x.1 a E).2 h⟩,λr G=>⟨(x.2.1 r G).1,rZ (x.2.1 r G).2 h⟩,x.2.2⟩
def r5{α}(P:pG)(H:Nat->Prop)(m:xZ α)(v w:M):=(∃h v',m.run P v=.halt h v'/\JQ h)\/∃a v' w' u,m.run P v=.ok a v'/\m.run P w=.ok a w'/\DY H v' w'/\ć H w w'/\
 (∀es,m.events P w es=es++u)/\(∀e∈u,Qx H w'.heap.size e)/\OV P m v a v'
def AB{α}(P:pG)(H:Nat->Prop)(m:xZ α):=∀v w,DY H v w->r5 P H m v w
section
variable {α β:Type}{P:tP}{H:Nat->Prop}{v w:tz}
def Ab a:AB P H (pure a:xZ α):=λv w h=>
 .inr ⟨a,v,w,#[],J,J,h,ć.I _ _,λh=>sm,sm,J,lr,λ_ _=>J⟩
def Bb x(E:JQ x:=by trivial):AB P H (Sem.halt x:xZ α):=λv _ _=>.inl ⟨x,v,J,E⟩
def Af m:AB P H (stuck m:xZ α):=λv _ _=>.inl ⟨_,v,J,sk⟩
def MC{s}{f:α->xZ β}(h:AB P H s)(k:∀a,(∃w w',s.run P w=.ok a w')->AB P H (f a)):AB P H (s >>= f):=λv w Z=>by
 obtain⟨x,I,G,E⟩|⟨a,I,S,R,V,G,F,D,K,X,Q⟩:=h v w Z
 exact .inl ⟨x,I,oy G,E⟩
 obtain⟨x,U,O,E⟩|⟨b,U,r9,r7,se,O,Z,Y,W,L,T⟩:=k a ⟨v,I,V⟩ I S F
 exact .inl ⟨x,U,by simp[V,O],E⟩
 refine .inr ⟨b,U,r9,R++r7,by simp[V,se],by simp[G,O],Z,D.G Y,λb=>by simp[G,K,W],λx E=>?_,Q.d T⟩;obtain E|E:=ο.1 E
 exact(X x E).l Y.h
 exact L x E
def Aa{s}{f:α->xZ β}(h:AB P H s)(k:∀a,AB P H (f a)):=MC h λa _=>k a
def BH{f:pG->xZ α}(h:AB P H (f P)):AB P H (program >>= f):=λv w E=>h v w E
def Aw{c} [Decidable c] {s t:xZ α}(h:AB P H s)(k:AB P H t):AB P H (if c then s else t):=by
 split
 exact h
 exact k
def DZ q:AB P H (wP q):=λv w E=>by
 by_cases G:q.forced=sy
 exact .inr ⟨0,v,w,#[],by simp only[wP,tj,G,ô],by simp only[wP,tj,G,ô],E,ć.I _ _,λI=>by simp[wP,ux,wi,G],sm,J,lr,λt _=>by simp only[wP,tj,G,ô]⟩
 refine .inr ⟨_,{v with drawn:=v.drawn+1},{w with drawn:=w.drawn+1},#[],by simp only[wP,tj,G];rfl,by
  have:=E.p 0 q;simp only[kt]at this;simp only[wP,tj,G,this];rfl,⟨E.h,E.m,E.d,λj q=>by have:=E.p (1+j) q;simpa[lq] using this,E.x,E.i⟩,⟨lr,λ_ _=>J,J,œ _,J,J,λ_ _ h _=>h⟩,λI=>by simp[wP,ux,wi,G],sm,J,œ _,λt I=>?_⟩
 simp only[wP,tj,G];show Result.ok (q.cut (t v.drawn q)) _=_
 rw[I _ q lr (ō _)];rfl
def vI{m}(h:m=.noRoom\/∃f,m=.extern f):AB P H (mark m):=λv w a=>by
 refine .inr ⟨(),v,w,#[⟨.mark m,ss,sy⟩],J,J,a,ć.I _ _,λa=>by simp[mark,ux,wi],λx a=>?_,J,lr,λ_ _=>J⟩;simp at a
 subst a;exact⟨λa a=>(nf a),λr a=>(nf a),sm,λk a=>by cases a;exact h⟩
def DY.E (G:DY H v w){a}{x:Vl}(h:v.cell? a=A x):w.cell? a=A x/\¬H a.block/\w.heap[a.block]? = v.heap[a.block]?:=by
 have O:¬H a.block:=λU=>by
  obtain⟨c,e,Y,E⟩:=G.d _ U;simp[sY,E]at h
 obtain⟨I,-⟩|⟨o,o',-,E,V⟩:=G.m _ O
 exact⟨by unfold sY at h⊢;rw[I];exact h,O,I⟩
 obtain⟨c,e,-,rfl⟩|⟨b,u,-,rfl⟩:=V<;>simp[sY,E]at h
def DY.s (I:DY H v w) a:w.frozen? a=v.frozen? a:=by
 unfold World.frozen?;by_cases O:H a.block
 obtain⟨c,e,G,E⟩:=I.d _ O;rw[G,E]
 obtain⟨V,-⟩|⟨o,o',G,E,U⟩:=I.m _ O
 rw[V]
 obtain⟨c,e,rfl,rfl⟩|⟨b,u,rfl,rfl⟩:=U<;>rw[G,E]
def DY.K (I:DY H v w){x}(ab:¬H x) o(Y:(∀c e,o≠.pending c e)/\∀a u,o≠.view a u) G w1(U:G.heap=v.heap.setIfInBounds x o)(V:w1.heap=w.heap.setIfInBounds x o)
  (aa:∀j q,w1.tape (w1.drawn+j) q=G.tape (G.drawn+j) q)(ac:w1.os=G.os)(Z:w1.output=G.output):DY H G w1:=by
 refine⟨by rw[U,V];simpa using I.h,λb O=>?_,λb O=>?_,aa,ac,Z⟩
 .
  rw[U,V];by_cases h:x=b
  .
   subst h;refine .inl ⟨by simp[n1,I.h],λc e E=>?_,λc e E=>?_⟩
   all_goals
    rw[n1,Æ J]at E;split at E
    first|exact Y.1 c e (Ö E)|exact Y.2 c e (Ö E)
    cases E
  rw[û h,û h];exact I.m b O
 have h:x≠b:=λh=>ab (h▸O)
 rw[U,V,û h,û h];exact I.d b O
def Yg{x}(O:¬H x) o(V:∃c t I,w.heap[x]? = A (.c c t I)) w1(G:w1.heap=w.heap.setIfInBounds x o)(t:w1.tape=w.tape)(d:w1.drawn=w.drawn)(os:w1.os=w.os)(p:w1.output=w.output):ć H w w1:=
 ⟨oj G,λb E=>by
  have h:x≠b:=λh=>O (h▸E)
  rw[G,û h],t,N,os,p,λb o E U=>by
  have h:x≠b:=λh=>sL
  simp_all⟩
def eF{w:M}{a}{x:Vl}(h:w.cell? a=A x)(y:Vl):∃o,((∀c e,o≠.pending c e)/\∀a u,o≠.view a u)/\(∀w':M,w'.heap[a.block]? = w.heap[a.block]?->(w'.setCell a y).heap=w'.heap.setIfInBounds a.block o):=by
 unfold sY at h;cases O:w.heap[a.block]? with
 |none=>rw[O]at h;cases h
 |some o=>
  rw[O]at h;cases o<;>simp only at h<;>first|(cases h;done)|skip
  rename_i c e j
  split at h
  cases h
  rename_i O
  refine⟨.c (c.setIfInBounds a.off y) e j,⟨λ_ _ E=>(nf E),λ_ _ E=>(nf E)⟩,λw' I=>?_⟩;simp only[World.setCell];apply Array.ext_getElem?;intro j;by_cases G:a.block=j
  subst G;have U:=(ω.1 I).1;rw[π,ş U];simp[I,O]
  rw[π,Ä G,û G]
end
end Go.Proofs.YtaoikkhlnhfkfaaGreatDoor
