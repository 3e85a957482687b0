import Derived.Test.YtaoikkhlnhfkfaaGreatDoorU00
import Derived.Test.YtaoikkhlnhfkfaaGreatDoorU40
import Derived.Deep.RegionHeld3
import Derived.Test.YtaoikkhlnhfkfaaGreatDoorU13
set_option maxHeartbeats 4000000
set_option maxRecDepth 100000
set_option linter.defProp false
set_option linter.unusedSimpArgs false
set_option linter.unusedVariables false
namespace Go.Proofs.YtaoikkhlnhfkfaaGreatDoor
open Go renaming maxLen->s7,Ending->Gu,Addr->xr,Calls->s8,madeCells->sC
open Option renaming none->sA,some->A
open Proofs.Tryz renaming prog->sr,underlying29->vE
open RowKit renaming Hid->sE
open List renaming getD->AD,length_filter_le->G'
open Go.RowKit
structure CS (w:M)(ca:oA)(ccap:Nat)(cs:List lI)(na:oA)(ncap:Nat)(ns:lZ):Prop where
 a:EW w ca cs
 e:cs.length<=ccap
 h:ccap<=s7
 j:Bc w na ns
 i:ns.length<=ncap
 k:ncap<=s7
 b:na=sA->ns=[]/\ncap=0
 l:WQ cs ns
def CS.d{w w':M}{I Z cs E U G}(h:CS w I Z cs E U G)(O:zW w w'):CS w' I Z cs E U G:=⟨h.a.d O,h.e,h.h,h.j.d O,h.i,h.k,h.b,h.l⟩
structure CU (w:M)(pa:oA)(pcap:Nat)(ps:List Pk):Prop where
 h:AL w pa ps
 b:ps.length<=pcap
 max:pcap<=s7
 a:pa=sA->ps=[]/\pcap=0
def CU.d{w w':M}{E Z ps}(h:CU w E Z ps)(G:zW w w'):CU w' E Z ps:=⟨h.h.d G,h.b,h.max,h.a⟩
structure JI (w:M)(la:oA)(lcap:Nat)(l:List Sn):Prop where
 j:F8 w la l
 b:l.length<=lcap
 max:lcap<=s7
 a:la=sA->l=[]/\lcap=0
def M0 (c p:Int)(w:M)(e:Gu)(w':M):=∃O I U G E,e=.r (.t #[.s O 0 I,.s U 0 G,E])/\Bo w' E c p/\zW w w'
def Uk (cs:List lI)(k:Nat)(per:Int)(U:lZ)(ps:List Pk)(w:M)(e:Gu)(w':M):=∃I G O E qs l,e=.r (.t #[.s I qs.length G,.s O l.length E,.n])/\CU w' I G qs/\JI w' O E l/\JU (Bf cs) k per U ps qs l/\zW w w'
structure rF:Prop where
 a:∀(ca:oA)(ccap:Nat)(cs:List lI)(kb:bA)(per:Int)(na:oA)(ncap:Nat)(ns:lZ)(w:M)(ad:Nat->xr)(c p:Int),Errs9 w ad->CS w ca ccap cs na ncap ns->GV cs (Ê kb.toList) per ns c p ->
  Ë 17 #[.agg #[.s ca cs.length ccap,.st kb,.q per,.s na ns.length ncap]] w λe w'=>∃E,e=.r E/\Bo w' E c p/\zW w w'
 b:∀(ca:oA)(ccap:Nat)(cs:List lI)(kb:bA)(per:Int)(na:oA)(ncap:Nat)(ns:lZ)(pa:oA)(pcap:Nat)(ps:List Pk)(w:M)(ad:Nat->xr)(c p:Int),Errs9 w ad->CS w ca ccap cs na ncap ns->CU w pa pcap ps->XR cs (Ê kb.toList) per ns ps c p->0<c ->
  Ë 20 #[.agg #[.s ca cs.length ccap,.st kb,.q per,.s na ns.length ncap],.s pa ps.length pcap] w λe w'=>M0 c p w e w'
 g:∀(ca:oA)(ccap:Nat)(cs:List lI)(kb:bA)(per:Int)(na:oA)(ncap:Nat)(ns:lZ)(pa:oA)(pcap:Nat)(ps:List Pk)(w:M)(ad:Nat->xr),Errs9 w ad->CS w ca ccap cs na ncap ns->CU w pa pcap ps->M5 cs (Ê kb.toList) per ns->Ar ps->(∀i,¬Bz (Bf cs) ps i) ->
  Ë 20 #[.agg #[.s ca cs.length ccap,.st kb,.q per,.s na ns.length ncap],.s pa ps.length pcap] w λe w'=>Uk cs (Ê kb.toList) per ns ps w e w'
def JV (k:Nat)(per:Int)(E:lZ)(c:Int):=(¬(1<=per/\per<=1000)/\c=2)\/(1<=per/\per<=1000/\∃d:Nat,Fh k E d/\c=d)
def Ja (k:Nat)(per:Int)(O:lZ)(ps:List Pk)(c:Int)(w:M)(e:Gu)(w':M):=∃G n I E,e=.r (.t #[.s G n I,E])/\Bo w' E c (-1)/\zW w w'/\(c=0->∃l,n=l.length/\JI w' G I l/\CX k per ps O l)
def Eu{k per I ps c}{w:M}(U:0<c){e}{w':M}(h:∃ty v,e=.r (.t #[.sn,.f ty v])/\(Bo w' (.f ty v) c (-1)/\zW w w')):Ja k per I ps c w e w':=by
 obtain⟨ty,v,rfl,G,E⟩:=h;exact⟨sA,0,0,_,J,G,E,λO=>N⟩
def KW{k per}{E:lZ}{ps}{w w':M}{v:Vl}{l}(G:Dz w' w.heap.size v l)(I:CX k per ps E l)(Z:zW w w'):Ja k per E ps 0 w (.r (.t #[v,.n])) w':=by
 obtain⟨a,cap,rfl,U,O,Y,-,V⟩:=G.open;exact⟨a,l.length,cap,.n,J,Oy w',Z,λ_=>⟨l,J,⟨Y,U,O,V⟩,I⟩⟩
section
variable (pa:Option xr)(pcap:Nat)(ps:List Pk)(per:Int)(na:Option xr)(ncap:Nat)(ns:List Int)(w:World)(ad:Nat->xr)
def QQ{per ps}(E:Ar ps)(h:¬(1<=per/\per<=1000)):FO ps per 2 (-1):=.inr (.inl ⟨E,N,J,J⟩)
def xh (O:Errs9 w ad)(E:CU w pa pcap ps)(Y:Bc w na ns)(I:Ar ps) c(l:JV 2 per ns c):Ë 65 #[.s pa ps.length pcap,.q per,.s na ns.length ncap] w λe w'=>Ja 2 per ns ps c w e w':=by
 obtain⟨h,rfl⟩|⟨V,U,d,G,rfl⟩:=l
 . exact(dY pa pcap ps per na ns.length ncap w ad O E.h E.b E.max 2 (-1) (QQ I h) N).mono λ_ _ h=>Eu N h
 obtain⟨h,-⟩|⟨-,G⟩|⟨h,-⟩|⟨h,-⟩|⟨h,-⟩:=G
 . omega
 .
  obtain rfl|c:=Ģ d
  .
   apply(jK pa pcap ps per na ncap ns w E.h Y I V U G.y).mono
   rintro e w'⟨v,rfl,l,h,l,e,Z⟩;exact KW h (.inr (.inl ⟨J,l,e⟩)) Z
  exact(cO pa pcap ps per na ncap ns w ad O E.h Y I V U d G c).mono λ_ _ h=>Eu N h
 all_goals omega
def yG (O:Errs9 w ad)(E:CU w pa pcap ps)(Y:Bc w na ns)(I:Ar ps) c(l:JV 3 per ns c):Ë 66 #[.s pa ps.length pcap,.q per,.s na ns.length ncap] w λe w'=>Ja 3 per ns ps c w e w':=by
 obtain⟨h,rfl⟩|⟨V,U,d,G,rfl⟩:=l
 . exact(bR pa pcap ps per na ns.length ncap w ad O E.h E.b E.max 2 (-1) (QQ I h) N).mono λ_ _ h=>Eu N h
 obtain⟨h,-⟩|⟨h,-⟩|⟨-,G⟩|⟨h,-⟩|⟨h,-⟩:=G
 . omega
 . omega
 .
  obtain rfl|c:=Ģ d
  .
   apply(mf pa pcap ps per na ncap ns w E.h Y I V U G.y).mono
   rintro e w'⟨v,rfl,l,h,l,e,Z⟩;exact KW h (.inr (.inr (.inl ⟨J,l,e⟩))) Z
  exact(fZ pa pcap ps per na ncap ns w ad O E.h Y I V U d G c).mono λ_ _ h=>Eu N h
 all_goals omega
def oW (O:Errs9 w ad)(E:CU w pa pcap ps)(Y:Bc w na ns)(I:Ar ps) c(l:JV 4 per ns c):Ë 67 #[.s pa ps.length pcap,.q per,.s na ns.length ncap] w λe w'=>Ja 4 per ns ps c w e w':=by
 obtain⟨h,rfl⟩|⟨V,U,d,G,rfl⟩:=l
 . exact(Zf pa pcap ps per na ns.length ncap w ad O E.h E.b E.max 2 (-1) (QQ I h) N).mono λ_ _ h=>Eu N h
 obtain⟨h,-⟩|⟨h,-⟩|⟨h,-⟩|⟨-,G⟩|⟨h,-⟩:=G
 . omega
 . omega
 . omega
 .
  obtain rfl|c:=Ģ d
  .
   apply(eX pa pcap ps per na ncap ns w E.h Y I V U G.y).mono
   rintro e w'⟨v,rfl,l,e,h,Z⟩;exact KW e (.inr (.inr (.inr (.inl ⟨J,h⟩)))) Z
  exact(Yw pa pcap ps per na ncap ns w ad O E.h Y I V U d G c).mono λ_ _ h=>Eu N h
 all_goals omega
def wh (O:Errs9 w ad)(E:CU w pa pcap ps)(Y:Bc w na ns)(I:Ar ps) c(f:JV 5 per ns c):Ë 68 #[.s pa ps.length pcap,.q per,.s na ns.length ncap] w λe w'=>Ja 5 per ns ps c w e w':=by
 obtain⟨h,rfl⟩|⟨V,U,d,G,rfl⟩:=f
 . exact(SE (R:=λc v w'=>Bo w' (.f c v) 2 (-1)/\zW w w') pa _ pcap per na _ ncap w (WL pa pcap ps per na ns.length ncap w ad O E.h E.b E.max 2 (-1) (QQ I h) N)).mono λ_ _ h=>Eu N h
 obtain⟨h,-⟩|⟨h,-⟩|⟨h,-⟩|⟨h,-⟩|⟨-,G⟩:=G
 . omega
 . omega
 . omega
 . omega
 obtain rfl|h:=Ģ d
 .
  apply(iM pa pcap ps per na ncap ns w E.h Y I V U G.y).mono
  rintro e w'⟨v,rfl,g,c,l,f,c,e,Z,-⟩;exact KW c (.inr (.inr (.inr (.inr ⟨J,_,e⟩)))) Z
 exact(SE (R:=λc v w'=>Bo w' (.f c v) d (-1)/\zW w w') pa _ pcap per na _ ncap w (Xm pa pcap ps per na ncap ns w ad O E.h Y I V U d G h)).mono λ_ _ h=>Eu N h
def Tryz.L' (args:Array Vl)(W:M):Sem.run sr (callFunc 64 args) W=.ok (.enter 64 args) W:=kr
def tJ X(W:Errs9 w ad)(a2:w.cell? (C X 0)=A (.func (.func 64) #[] #[]))(V:CU w pa pcap ps)(I:Ar ps) c(Z:JV 1 per ns c):s8 sr 108 #[.s pa ps.length pcap,.q per,.s na ns.length ncap,.pp X 0] w λe w'=>Ja 1 per ns ps c w e w':=by
 have a3:=Tryz.L';have T:=Io W;have r:=Io I;obtain⟨h,rfl⟩|⟨S,r,d,X,rfl⟩:=Z
 .
  have U:=Io (eH (R:=λty v w'=>Bo w' _ 2 ((-1))/\Below _ w w') pa _ _ _ w (IC pa _ ps _ 2 ((-1)) w ad W V.h V.b V.max ((QQ I h)) (N)));clear W V I h;go_in
  go_wp2_with fail;apply U.o.mono
  rintro e c⟨ty,v,rfl,O,G⟩;have aI:=qY O G;clear O G;go_wp2
  go_ret2;exact Eu N ⟨ty,v,J,aI.o⟩
 have U:sE (s8 sr 64 #[.s pa ps.length pcap,.q per] w λe w'=>∃v,e=.r (.t #[v,.n])/\Dz w' w.z v (Cs per ps ps.length)/\zW w w'):=by
  apply Io;have c:=V.h;have h:=qY c I;have U:=Io (DW pa pcap ps per w c I S r);clear c I;go_in
  go_wp2_with fail;apply U.o.mono
  rintro e c⟨rfl,E⟩;have Y:=Io E;clear E;go_wp2_with fail;apply(eG c).mono
  rintro e w2⟨rfl,e,E⟩;have ax:=Io E;have aN:=Io e;have aC:=Io ((h.o.1.d Y.o).d E);let aG:=Io ((h.o.1.d Y.o).i);clear E e;go_wp2_with fail;apply(bz pa pcap ps per c.z w2 aC.o h.o.2 S r aG.o aN.o).mono
  rintro e w3⟨v,rfl,c,E⟩;have r:=qY (BA c (rX Y.o.size ax.o.size)) (Y.o.trans ((ax.o.mono Y.o.size).trans (E.mono Y.o.size)));clear c E;go_wp2
  go_ret2;exact⟨v,J,r.o⟩
 have aW:(d=3/\ns≠[])\/(d=0/\ns=[]):=by
  obtain⟨-,X⟩|⟨h,-⟩|⟨h,-⟩|⟨h,-⟩|⟨h,-⟩:=X
  . exact X
  all_goals omega
 let⟨r,Z⟩:=ex ns.length;have w:=Io Z;rw[Z];clear W V I X Z;obtain⟨rfl,c⟩|⟨rfl,h⟩:=aW
 .
  have aL:(0:Int)<(r:Int):=by have:=k9.2 c;have:=w.o;omega
  clear c;go_in
  go_wp2_with fail;apply U.o.mono
  rintro e c⟨v,rfl,O,G⟩;have d:=Io G;have a1:=(T.o.d G).k;clear O G;go_wp2
  go_quiet (fail);go_wp2
  go_ret2;let c:=ì d.o nq;exact⟨sA,0,0,_,J,CJ (T.o.d c) 2 N,c,λaE=>absurd aE dc⟩
 have aL:¬(0:Int)<(r:Int):=by have:=w.o;rw[h]at this;simp at this;omega
 have a0:=Io h;clear h;go_in
 go_wp2_with fail;apply U.o.mono
 rintro e c⟨v,rfl,O,G⟩;have d:=qY O G;clear O G;go_wp2
 go_ret2;exact KW d.o.1 (.inl ⟨J,J⟩) d.o.2
end
structure Uq (w:M)(k:Nat)(F:Nat)(bd:Array Vl):Prop where
 call:∀args W,Sem.run sr (callFunc F args) W=.ok (.enter F args) W
 v:∀(pa:oA)(pcap:Nat)(ps:List Pk)(per:Int)(na:oA)(ncap:Nat)(ns:lZ)(W:M)(ad:Nat->xr)(c:Int),zW w W->Errs9 W ad->CU W pa pcap ps->Bc W na ns->Ar ps->JV k per ns c->Ë F (#[.s pa ps.length pcap,.q per,.s na ns.length ncap]++bd) W λe w'=>Ja k per ns ps c W e w'
def pY{w:M}{se X}(h:QP w se X){k}(c:1<=k)(c:k<=5):∃F c,E8 X k=.func (.func F) #[] c/\Uq w k F c:=by
 rcases(show k=1\/k=2\/k=3\/k=4\/k=5 by omega)with rfl|rfl|rfl|rfl|rfl
 . exact⟨_,_,J,λargs W=>kr,λZ I k per E O F W w c se V G _ U Y=>tJ Z I k per E O F W w X V (jf se h.box) G U c Y⟩
 . exact⟨_,_,J,λargs W=>kr,λZ I k per E O F W w c _ V G h U Y=>xh Z I k per E O F W w V G h U c Y⟩
 . exact⟨_,_,J,λargs W=>kr,λZ I k per E O F W w c _ V G h U Y=>yG Z I k per E O F W w V G h U c Y⟩
 . exact⟨_,_,J,λargs W=>kr,λZ I k per E O F W w c _ V G h U Y=>oW Z I k per E O F W w V G h U c Y⟩
 exact⟨_,_,J,λargs W=>kr,λZ I k per E O F W w c _ V G h U Y=>wh Z I k per E O F W w V G h U c Y⟩
def PH (I:bA)(k:Nat)(b:Bool)(w:M)(e:Gu)(w':M):=∃se E,e=.r (.map (A se))/\zW w w'/\(Instr.lookup 84 (.map (A se)) (.st I) true).run sr w'=.ok (.t #[E,.bool b]) w'/\(Instr.lookup 84 (.map (A se)) (.st I) false).run sr w'=.ok E w'/\(1<=k->∃F G,E=.func (.func F) #[] G/\Uq w' k F G)
def Ut E k(I:Ê E.toList=k) b(O:decide (k≠0)=b)(w:M):Ë 35 #[] w λe w'=>PH E k b w e w':=by
 subst O;apply(kg w).mono
 rintro e w'⟨se,X,rfl,G,O⟩;exact⟨se,E8 X k,J,O,G.d E I true,G.d E I false,λU=>pY G U (by rw[<-I];exact IX _)⟩
section
variable (ca:Option xr)(m ccap:Nat)(kb:ByteArray)(per:Int)(na:Option xr)(r ncap:Nat)(w:World)
def L6 c p(Z:0<c)(h:∀W,zW w W->Ë 34 #[.s ca m ccap] W λe w'=>∃E,e=.r E/\Bo w' E c p/\zW W w'):s8 sr 17 #[.agg #[.s ca m ccap,.st kb,.q per,.s na r ncap]] w λe w'=>∃E,e=.r E/\Bo w' E c p/\zW w w':=by
 have G:zW w (w.alloc (.c #[.s ca m ccap,.st kb,.q per,.s na r ncap] 36)):=ba;have Y:=(show sE (Ë 34 #[.s ca m ccap] (w.alloc (.c #[.s ca m ccap,.st kb,.q per,.s na r ncap] 36)) λe w'=>∃E,e=.r E/\Bo w' E c p/\Below (w.alloc (.c #[.s ca m ccap,.st kb,.q per,.s na r ncap] 36)).z (w.alloc (.c #[.s ca m ccap,.st kb,.q per,.s na r ncap] 36)) w')from h _ G)
 have V:=Io G;clear h G;go_in
 go_wp2_with fail;apply Y.o.mono
 rintro e c⟨E,rfl,I,O⟩;obtain⟨c,v,rfl⟩:=I.b N;have U:=qY I (V.o.tr O);clear I O;go_wp2
 go_ret;exact⟨_,J,U.o⟩
def Uh (E:lZ)(O:E.length=r) ad(V:Errs9 w ad)(I:Bc w na E) k(G:Ê kb.toList=k) c(se:(k=0/\c=9)\/(1<=k/\JV k per E c))(h:∀W,zW w W->Ë 34 #[.s ca m ccap] W λe w'=>e=.returned .n/\zW W w'):s8 sr 17 #[.agg #[.s ca m ccap,.st kb,.q per,.s na r ncap]] w λe w'=>∃Z,e=.r Z/\Bo w' Z c (-1)/\zW w w':=by
 have e:zW w (w.alloc (.c #[.s ca m ccap,.st kb,.q per,.s na r ncap] 36)):=ba;have F:=EA w (.s ca m ccap) kb per (.s na r ncap) 36;have a4:=(show sE (qW 34 #[.s ca m ccap] (w.alloc (.c #[.s ca m ccap,.st kb,.q per,.s na r ncap] 36)) .n)from h _ e)
 have a0:=Io F;have a9:=Io e;have n:=Io V;have a8:=Io I;have Z:=Io se;have X:=Io O;let⟨b,U⟩:=ex (decide (k≠0));have aL:=Io (Ut kb k G b U);have Y:=Io U;clear h e F V I se O G U;go_in
 go_wp2_with fail;apply a4.o.mono
 rintro e e⟨rfl,V⟩;have a1:=Io (a9.o.tr V);have I:=Io (a0.o.later V);have a6:=I.o.a;have h:sE (∀W,zW e W->W.cell? (C w.z 1)=A (.st kb)):=λW hW=>jf hW I.o.a
 have F:sE (zW e e.drew):=ì br 1;clear V;go_wp2_with fail;go_region_held3 (λw'=>w'.cell? (C w.z 1)=A (.st kb))
  (first|exact aB|exact h.o _ F.o)
  (first
  |(go_at_call 35;apply (aL.o _).mono;rintro e m⟨se,bj,rfl,w,bb,aI,e⟩;have O:=Io ((by exact F.o.tr w));have aB:=h.o m O.o;have aN:=Io e;clear w e aI))
 all_goals
  have G:=Io (a1.o.tr O.o);clear bb aB a6;cases b with
  |false=>
   have a2:k=0:=by have:=Y.o;simpa using this
   have b:c=9:=by
    obtain⟨-,h⟩|⟨h,-⟩:=Z.o
    . exact h
    omega
   have be:=(n.o.d G.o).i;clear a2;go_wp2
   go_ret;rw[b];exact⟨_,J,CJ (n.o.d G.o) 8 N,G.o⟩
  |true=>
   have b:1<=k:=by have:=Y.o;simp at this;omega
   obtain⟨F,a5,rfl,Y⟩:=aN.o b;have w:JV k per E c:=by
    obtain⟨h,-⟩|⟨-,h⟩:=Z.o
    . omega
    exact h
   have bf:=Y.call;have bg:=jf O.o I.o.k;have bk:=jf O.o I.o.l;have bc:sE (Ë F (#[.sn,.q per,.s na r ncap]++a5) m λe w'=>Ja k per E [] c m e w'):=by
    have:=Y.v sA 0 [] per na ncap E m ad c br (n.o.d G.o) ⟨.inl J,lr,by simp[s7],λ_=>⟨J,J⟩⟩ (a8.o.d G.o) Ku w;rwa[X.o]at this
   clear Y w b;go_wp2_with fail;apply bc.o.mono
   rintro e w3⟨bh,n,bd,Z,rfl,c,b,-⟩;have aW:=qY c (G.o.tr b);clear c b;go_wp2
   go_ret;exact⟨_,J,aW.o⟩
def J3 G E cs(I:bA) per O U Y(w:M) ad c p(Z:Errs9 w ad)(R:CS w G E cs O U Y)(h:GV cs (Ê I.toList) per Y c p):Ë 17 #[.agg #[.s G cs.length E,.st I,.q per,.s O Y.length U]] w λe w'=>∃T,e=.r T/\Bo w' T c p/\zW w w':=by
 obtain⟨V,rfl,rfl⟩|⟨V,i,T,rfl,S⟩|⟨V,S,rfl,Q⟩:=h
 . exact L6 G _ E I per O _ U w 3 (-1) N λW e=>Qk G cs.length E W ad (Z.d e) V
 .
  have P:i<=8:=by
   obtain⟨e,p,X,-⟩:=T;have:=Ap X;omega
  have h:0<c:=by obtain⟨e,p,-,-,-,e⟩:=T;exact e
  exact L6 G _ E I per O _ U w c i h λW e=>Ob G E cs W ad (Z.d e) (R.a.d e) V i P S c i (.inr ⟨T,J⟩)
 refine Uh G _ E I per O _ U w Y J ad Z R.j (Ê I.toList) J c ?_ λW e=>(Ob G E cs W ad (Z.d e) (R.a.d e) V 8 lr S 0 (-1) (.inl ⟨J,J,J⟩)).mono ?_
 .
  obtain h|⟨X,-,c⟩:=Q
  . exact .inl h
  exact .inr ⟨X,c⟩
 rintro e w'⟨T,rfl,c,e⟩;rw[c.a J];exact⟨J,e⟩
end
def O9 (G:oA) E ps(w:M)(U:AL w G ps)(X:ps.length<=1000)(V:G=sA->ps=[]/\E=0):s8 sr 88 #[.s G ps.length E] w λe w'=>∃v,e=.r v/\CF w' w.heap.size v ps/\zW w w':=by
 cases G with
 |none=>
  let⟨rfl,rfl⟩:=V J;have Y:=λO=>Go.Lib.run_eql_slice_nil (P:=sr) O 29 68 sA 0 0 0 0 vE
  go_in
  go_wp2
  go_ret;exact⟨_,J,Ĉ _ _ _ _,br⟩
 |some e=>
  have I:zW w (w.alloc (.c #[] 68)):=ba;have h:=Io (U.d I);have Z:sE (CF (w.alloc (.c #[] 68)) w.z (.sl w.z 0 0 0) []):=World.ownsRow_lit w #[] 0 lr (by simp[s7]) sm;have v:=Io I;have Y:=λO=>Go.Lib.run_eql_slice_nil (P:=sr) O 29 68 (A e) ps.length E 0 0 vE
  clear U I V;go_in
  go_wp2_with (at_builtin;refine BC _ J _ _ J w.z (.sl w.z 0 0 0) [] ps (A e) ps.length E J J J Z.o h.o (nofun) (by simpa using X) sm ?_;rintro v' e⟨h,e⟩)
  go_ret;exact⟨_,J,by simpa using h,v.o.trans e⟩
def tZ t(w:M):s8 sr 52 #[.n,.f 121 (.p (A t))] w λE w'=>E=.r (.bool false)/\w'=w:=by
 go_in
 go_wp2
 go_ret;exact⟨J,J⟩
def Yb (n:Nat)(V:n<=1000)(w':M):(Instr.makeSlice 29 (.q n) (.q n)).run sr w'=.ok (.sl w'.heap.size 0 n n) (w'.alloc (.c (sC #[.q 0,.q 0,.q 0] (n*3)) 68)):=by
 let⟨E,U,I,O,G⟩:=ó Tryz.l;have:=Ŭ (P:=sr) w' 29 68 E (.agg #[.int _ 0,.int _ 0,.int _ 0]) vE U I .i64 .i64 n n N N (by rw[G];omega) N;simpa[O,Value.cells]using this
def MU (xs:Nat->Pk):Nat->Pk
 |0=>⟨0,0,0⟩
 |i+1=>xs i
def Ĩ (L:lN)(i k:Nat):=if k<i then L.getD k 0+1 else 0
def tV L{i z}(h:L[i]? = A z):(λk=>if k=i then z+1 else Ĩ L i k)=Ĩ L (i+1):=by
 funext k
 unfold Ĩ;by_cases e:k=i
 . simp_all
 by_cases e':k<i
 . rw[Ä e,Æ e',Æ N]
 rw[Ä e,Ä e',Ä N]
def ve xs L(w:M) n:Hz (w.alloc (.c (sC #[.q 0,.q 0,.q 0] (n*3)) 68)) w.heap.size 0 n (MU xs) (Ĩ L 0):=by
 have key:∀j,j<n*3->(w.alloc (.c (sC #[.q 0,.q 0,.q 0] (n*3)) 68)).cell? (C w.z j)=A (.q 0):=λj I=>by
  rw[Ŏ _ _ _ _ J];exact (by
    rw[ÿ (by rw[lv];exact I)];simp only[sC,Array.getElem_map,Array.getElem_range];have:j%3=0\/j%3=1\/j%3=2:=N;have e:(#[Value.int .i64 0,.q 0,.q 0]).size=3:=rfl;rw[e];obtain E|E|E:=this<;>rw[E]<;>rfl)
 refine⟨sm,λi G=>?_,λi G=>?_,λi G=>?_,λj=>sm⟩
 . exact key _ N
 . exact key _ N
 exact key _ N
def KZ (n:Nat)(xs:Nat->Pk)(out:List Pk)(z:Nat):=if z<n then xs z else out.getD (z-n) ⟨0,0,0⟩
def þ (n:Nat)(L:lN)
 |0=>λk=>k
 |i+1=>λk=>if k=L.getD i 0 then n+i else þ n L i k
def dD n L{k}:∀i,i<=L.length->k ∉ L->þ n L i k=k
 |0,_,_=>J
 |i+1,G,E=>by
  have e:L[i]? = A L[i]:=ë _;simp[þ]
  rw[Ä (λh=>E (by simp_all))];exact dD n L i N E
def mq n{L}(I:L.Pairwise (·<·)){r k}(E:L[r]? = A k):∀i,i<=L.length->r<i->þ n L i k=n+r
 |0,_,h=>absurd h (İ _)
 |i+1,V,h=>by
  have e:L[i]? = A L[i]:=ë N;have O:L[r]'(Ap E)=k:=Ö ((ë (Ap E)).symm.trans E);simp only[þ,AD,e,é];obtain G|G:=nR r i
  . have U:=ŷ.1 I r i (Ap E) N G;rw[Ä N];exact mq n I E i N G
  obtain rfl:r=i:=N;rw[O,Æ J]
def TT (b off n:Nat)(xs:Nat->Pk)(ps:List Pk)(f:Nat)(ls:lI)(w:M)(e:Gu)(w':M):=
 Ç (λk=>k=b) w w'/\((∃s E,shape ls (Bv ps f n)=A s/\e=.r (.q (n:Int))/\Hz w' b off n E (λi=>i)/\(∀(r i:Nat),(A9 ps f n)[r]? = A i ->s.p[r]? = A (E i))/\(∀i,i<n ->i ∉ A9 ps f n ->E i=xs i))\/
  (∃(r i:Nat)(p:Pk)(s:Sh),(A9 ps f n)[r]? = A i/\(Bv ps f n)[r]? = A p/\shape ls ((Bv ps f n).take r)=A s/\Dn s p=sA/\e=.r (.q (i:Int))/\Hz w' b off n xs (λi=>i)))
def WP (la:oA) lcap(ls:lI) b off n pcap xs ps(f:Nat) w ad(z:Errs9 w ad)(q:Cr w la ls)(u:Bq ls)(h:Hz w b off n xs (λi=>i))(hps:ps.length=n)(ho:Ar ps)
  (hnum:∀i,i<n->((xs i).b==(f:Int))=(Aj ps i==f))(hown:∀(r i:Nat),(A9 ps f n)[r]? = A i->(Bv ps f n)[r]? = A (xs i)):
  Calls sr 89 #[.s la ls.length lcap,.s (A ⟨b,off,sA⟩) n pcap,.int .i64 f] w λe w'=>TT b off n xs ps f ls w e w':=by
 have c:n<=300:=by rw[<-hps];exact ho.j
 have hlenL:(A9 ps f n).length<=n:=by unfold A9;exact rX (G' _ _) (by simp)
 have hown2:=Fz ho f ps.length lr;have hok:=(Sd ho f ps.length lr).1;rw[hps]at hown2 hok;have HNu:=(show sE (s8 sr 129 #[.s (A ⟨b,off,sA⟩) n pcap,.int .i64 (f:Int)] w λe w'=>∃v,e=.r v/\w'.ownsRow w.heap.size 3 1 v (A9 ps f n).length (É (Au (A9 ps f n)))/\zW w w') from (by
   have HR:sE (Hz w b off n xs (λi=>i)):=h;have e:sE (∀i,i<n->((xs i).b==(f:Int))=(Aj ps i==f)):=hnum;clear h hnum;show s8 _ _ _ _ _;go_in
   go_wp2_with fail;go_loopg[5,10] n (λgk i iv wr=>∃k:Nat,iv=.int .i64 k/\k<=n/\n-k<=gk/\sE (ă wr w.heap.size (.s sA 0 0) i [] (Au (A9 ps f k))/\zW w wr))
   case atStart=>exact⟨0,J,uD _,lr,gW _ _,br⟩
   case round=>
    obtain⟨k,rfl,hkn,hgk,H⟩:=hrel;by_cases hlt:k<n
    .
     have hltz:(k:Int)<(n:Int):=by omega
     have HRr:=HR.o.later H.o.2;have c0:wr.cell? ⟨b,off+k*3,sA⟩=A (.int .i64 (xs k).b):=HRr.e k hlt;have c1:wr.cell? ⟨b,off+k*3+1,sA⟩=A (.int .i64 (xs k).h):=HRr.a k hlt;have c2:wr.cell? ⟨b,off+k*3+2,sA⟩=A (.int .i64 (xs k).a):=HRr.k k hlt;have hfk:=e.o k hlt;let⟨x0,hx0⟩:=ex ((xs k).b);let⟨x1,hx1⟩:=ex ((xs k).h);let⟨x2,hx2⟩:=ex ((xs k).a);rw[hx0]at c0 hfk;rw[hx1]at c1;rw[hx2]at c2;have HLen:sE ((A9 ps f k).length<=k):=by show(A9 ps f k).length<=k;unfold A9;exact rX (G' _ _) (by simp)
     clear HRr hx0 hx1 hx2;by_cases hfl:Aj ps k=f
     .
      have c:(x0==(f:Int))=true:=by rw[hfk];simpa using hfl
      have HS:sE (A9 ps f (k+1)=A9 ps f k++[k]):=by show _=_;rw[MG,Æ hfl]
      clear hfk hfl;have hb1:zW wr (wr.alloc (.c #[.int .i64 x0,.int .i64 x1,.int .i64 x2] 68)):=ba;have hb2:zW wr ((wr.alloc (.c #[.int .i64 x0,.int .i64 x1,.int .i64 x2] 68)).alloc (.c #[.int .i64 k] 3)):=hb1.alloc hb1.size _;have HV:sE (ă ((wr.alloc (.c #[.int .i64 x0,.int .i64 x1,.int .i64 x2] 68)).alloc (.c #[.int .i64 k] 3)) w.heap.size (.s sA 0 0) u5 [] (Au (A9 ps f k))/\zW w ((wr.alloc (.c #[.int .i64 x0,.int .i64 x1,.int .i64 x2] 68)).alloc (.c #[.int .i64 k] 3))/\((wr.alloc (.c #[.int .i64 x0,.int .i64 x1,.int .i64 x2] 68)).alloc (.c #[.int .i64 k] 3)).cell? ⟨wr.heap.size+1,0,sA⟩=A (.int .i64 k)):=⟨H.o.1.later hb2,H.o.2.tr hb2,by simp⟩
      clear hb1 hb2 H;go_wp2_with (at_builtin;apply Ng _ rfl _ _ rfl w.heap.size (.s sA 0 0) u5 [] (Au (A9 ps f k)) (k:Int) ⟨wr.heap.size+1,0,sA⟩ rfl rfl HV.o.1 HV.o.2.2 (by have:=HLen.o;simp[Au];omega) HV.o.2.1.size;rintro d e⟨hbo7,hb7⟩;have i:sE (ă e w.heap.size (.s sA 0 0) d [] (Au (A9 ps f (k+1)))/\zW w e):=⟨by rw[HS.o,SQ];exact hbo7,HV.o.2.1.trans hb7⟩;clear hbo7 hb7)
      go_roundg (n-(k+1))
      case measure=>omega
      case rel=>exact⟨k+1,by go_num,hlt,lr,i⟩
     have c:(x0==(f:Int))=false:=by rw[hfk];simpa using hfl
     have HS:sE (A9 ps f (k+1)=A9 ps f k):=by show _=_;rw[MG,Ä hfl]
     have hb1:zW wr (wr.alloc (.c #[.int .i64 x0,.int .i64 x1,.int .i64 x2] 68)):=ba;have HV:sE (ă (wr.alloc (.c #[.int .i64 x0,.int .i64 x1,.int .i64 x2] 68)) w.heap.size (.s sA 0 0) u5 [] (Au (A9 ps f (k+1)))/\zW w (wr.alloc (.c #[.int .i64 x0,.int .i64 x1,.int .i64 x2] 68))):=by
      refine⟨?_,H.o.2.tr hb1⟩;rw[HS.o];exact H.o.1.later hb1
     clear hfk hfl hb1 H;go_wp2
     go_roundg (n-(k+1))
     case measure=>omega
     case rel=>exact⟨k+1,by go_num,hlt,lr,HV⟩
    have hltz:¬(k:Int)<(n:Int):=by omega
    obtain rfl:k=n:=by omega
    go_wp2
    go_ret;refine⟨_,J,?_,H.o.2⟩;have:=H.o.1.j;rwa[show (Au (A9 ps f k)).length=(A9 ps f k).length by simp[Au]]at this))
 have y:sE (Errs9 w ad):=z;have R:sE (Cr w la ls/\Bq ls):=⟨q,u⟩
 have HR:sE (Hz w b off n xs (λi=>i)):=h;have S:sE (Ar (Bv ps f n)):=hok;have HOw:sE (∀(r i:Nat),(A9 ps f n)[r]? = A i->(Bv ps f n)[r]? = A (xs i)):=hown;have HOl:sE ((Bv ps f n).length=(A9 ps f n).length):=hown2.1;have HIn:sE (∀i,i∈A9 ps f n->i<n):=λi hi=>(OE.1 hi).1
 have HPw:sE ((A9 ps f n).Pairwise (·<·)):=Yc f n;let⟨L,i⟩:=ex (A9 ps f n);let⟨own,e⟩:=ex (Bv ps f n);have HEq:sE (A9 ps f n=L/\Bv ps f n=own):=⟨i,e⟩
 rw[i]at HNu HOw HOl HIn HPw hlenL;rw[e]at S HOw HOl;clear z q u h hps ho hnum hown hown2 hok i e;let⟨m,e⟩:=ex L.length;have HM:sE (L.length=m):=e;rw[e]at HNu hlenL;have hmk:=Yb m (by omega);clear e;go_in
 go_wp2_with fail;apply HNu.o.mono
 rintro e w1⟨v,rfl,hrow,hb1⟩;have hal:(Au L).length=m:=by rw[<-HM.o];simp[Au]
 rw[<-hal]at hrow;obtain⟨h,ncap,rfl,hnc,hnm,hln,hnB⟩:=Ml hrow;have HnB:sE (∀ad,h=A ad->b≠ad.block):=λad' hna=>by subst hna;have c:=(AC hrow J).1;have c:=HR.o.G;omega
 rw[hal]at hnc⊢;have HB1:sE (zW w w1):=hb1;have HLn:sE (Bc w1 h (Au L)):=hln;have HR1:sE (Hz w1 b off n xs (λi=>i)):=HR.o.later hb1;clear hrow hb1 hln hal hnm;have hb2:zW w1 (w1.alloc (.c (sC #[.int .i64 0,.int .i64 0,.int .i64 0] (m*3)) 68)):=ba;have hrm:=ve xs L w1 m;let⟨W2,hW2⟩:=ex (w1.alloc (.c (sC #[.int .i64 0,.int .i64 0,.int .i64 0] (m*3)) 68));have HW2:sE (w1.alloc (.c (sC #[.int .i64 0,.int .i64 0,.int .i64 0] (m*3)) 68)=W2):=hW2;rw[hW2]at hb2 hrm;let⟨O,hOO⟩:=ex w1.heap.size;have HOO:sE (w1.heap.size=O):=hOO;rw[hOO]at hrm;have HB2:sE (zW w1 W2):=hb2;have HF0:sE (Hz W2 O 0 m (MU xs) (Ĩ L 0)):=hrm;have hbO:b≠O:=by rw[<-HOO.o];have:=HR1.o.G;omega
 clear hb2 hrm hW2 hOO;go_wp2_with fail;rw[HW2.o,HOO.o];clear hmk HW2;go_wp2_with fail;go_loopg[24] m (λgk iv wr=>∃k:Nat,iv=.int .i64 k/\k<=m/\m-k<=gk/\sE (Hz wr O 0 m (MU xs) (Ĩ L k)/\Ç (λz=>z=O) W2 wr))
 case atStart=>exact⟨0,J,uD _,lr,HF0.o,Ç.I _ _⟩
 case round=>
  clear HF0;obtain⟨k,rfl,hkm,hgk,H⟩:=hrel;have HbO:sE (∀{g o:Nat}{u:Value},w1.cell? ⟨g,o,sA⟩=A u->wr.cell? ⟨g,o,sA⟩=A u):=λ{g o u} hu=>by
   have hu2:=jf HB2.o hu;rw[H.o.2.E (p:=⟨g,o,sA⟩) (BZ hu2) (by show ¬g=O;rw[<-HOO.o];have:=BZ hu;simp at this;omega)];exact hu2
  by_cases hlt:k<m
  .
   have hltz:(k:Int)<(m:Int):=by omega
   obtain⟨z,hz,-⟩:=Ao L k (by rw[HM.o];exact hlt);have hzn:z<n:=HIn.o z (ĵ hz);have hznz:(z:Int)<(n:Int):=by omega
   obtain⟨nb,noff,rfl,-,hnc2⟩:=HLn.o.h (by simp[Au];have:=HM.o;omega);have cn:=HbO.o (hnc2 k (z:Int) (by simp[Au,hz]));have p0:wr.cell? ⟨b,off+z*3,sA⟩=A (.int .i64 (xs z).b):=HbO.o (HR1.o.e z hzn);have p1:wr.cell? ⟨b,off+z*3+1,sA⟩=A (.int .i64 (xs z).h):=HbO.o (HR1.o.a z hzn);have p2:wr.cell? ⟨b,off+z*3+2,sA⟩=A (.int .i64 (xs z).a):=HbO.o (HR1.o.k z hzn);have g:=H.o.1.e k hlt;have i:=H.o.1.a k hlt;have j:=H.o.1.k k hlt;rw[Ă]at g i j;have f0:=H.o.1.d (k*3);have f1:=H.o.1.d (k*3+1);have r8:=H.o.1.d (k*3+2);have H2:∃V,sE (Eh wr O (k*3) (xs z)=V)/\sE (Hz V O 0 m (MU xs) (Ĩ L (k+1))/\Ç (λz=>z=O) W2 V):=⟨_,J,by
    have:=H.o.1.K hlt (z+1);rw[Ă]at this;have e:=tV L hz;rw[e]at this;exact this,Rn H.o.2 J _ _⟩
   let⟨V,HV,HVS⟩:=H2;unfold Eh at HV;generalize (xs z).b=c at p0 HV;generalize (xs z).h=c at p1 HV;generalize (xs z).a=c at p2 HV;generalize (MU xs (Ĩ L k k)).b=t at g;generalize (MU xs (Ĩ L k k)).h=l at i;generalize (MU xs (Ĩ L k k)).a=d at j;clear hnc2 H HbO hz;go_wp2_with fail;rw[HV.o];clear HV p0 p1 p2 g i j f0 f1 r8 cn;go_wp2
   go_roundg (m-(k+1))
   case measure=>omega
   case rel=>exact⟨k+1,by go_num,hlt,lr,HVS⟩
  have hltz:¬(k:Int)<(m:Int):=by omega
  obtain rfl:k=m:=by omega
  have HLO:sE (AL wr (A ⟨O,0,sA⟩) own):=by
   refine .inr ⟨O,0,J,H.o.1.G,λi p hi=>?_⟩;have him:i<k:=by have:=Ap hi;rw[HOl.o,HM.o]at this;exact this
   obtain⟨z,hz,-⟩:=Ao L i (by rw[HM.o];exact him);have e1:=HOw.o i z hz;rw[hi]at e1;have e2:MU xs (Ĩ L k i)=p:=by
    unfold Ĩ;rw[Æ him];simp[AD,hz,MU,Ö e1]
   have c0:=H.o.1.e i him;have c1:=H.o.1.a i him;have c2:=H.o.1.k i him;rw[e2]at c0 c1 c2;exact⟨c0,c1,c2⟩
  have HBw:sE (zW w wr):=have h12:=HB1.o.tr HB2.o;h12.trans (H.o.2.d h12.size λz hz=>by rw[hz,<-HOO.o];exact HB1.o.size)
  have HLn2:sE (Bc wr h (Au L)):=by
   obtain h|⟨nb,noff,rfl,e,d⟩:=HLn.o
   . exact .inl h
   exact .inr ⟨nb,noff,J,rZ e (rX HB2.o.size H.o.2.h),λi x hi=>HbO.o (d i x hi)⟩
  have HRw:sE (Hz wr b off n xs (λi=>i)):=by
   refine⟨rZ HR1.o.G (rX HB2.o.size H.o.2.h),λi hi=>HbO.o (HR1.o.e i hi),λi hi=>HbO.o (HR1.o.a i hi),λi hi=>HbO.o (HR1.o.k i hi),λj=>?_⟩;rw[H.o.2.s (p:=⟨b,j,sA⟩) (rZ HR1.o.G HB2.o.size) hbO,ko (w:=w1) (HB2.o.block b HR1.o.G)];exact HR1.o.d j
  have HSh:=(show sE (Ë 130 #[.s la ls.length lcap,.s (A ⟨O,0,sA⟩) k k] wr λe w'=>Ui ls own ad wr e w') from by
   have:=Xu la lcap ls (A ⟨O,0,sA⟩) k own wr ad (y.o.d HBw.o).s (R.o.1.d HBw.o) R.o.2 HLO.o S.o;rwa[HOl.o,HM.o]at this)
  clear HbO H HLO HLn HR1 HB2 HB1;go_wp2_with fail;apply HSh.o.mono
  rintro e w3⟨hb3,⟨s,D,hs,rfl,e,hlD⟩|⟨j,p,s,F,O,hs,hst,rfl,hF0,hF1⟩⟩
  .
   rw[HOl.o.trans HM.o];have hb4:zW w3 (w3.alloc (.c #[.p sA] 119)):=ba;have hb34:=hb3.tr hb4;have HB4:sE (zW wr (w3.alloc (.c #[.p sA] 119))):=hb34;have HlD:sE (AL (w3.alloc (.c #[.p sA] 119)) (A ⟨D,0,sA⟩) s.p):=hlD.d hb4;have HDb:sE (b≠D):=by show b≠D;have:=HRw.o.G;omega
   have HS:sE (shape ls own=A s/\s.p.length=k):=⟨hs,by rw[(I4 R.o.2 _ s S.o hs).len,HOl.o,HM.o]⟩
   have HAs:sE (∀W,Ë 52 #[.n,.f 121 (.p (A ⟨w3.heap.size,0,sA⟩))] W λg w'=>g=.r (.bool false)/\w'=W):=λW=>tZ _ W
   clear hb3 hb4 hb34 hlD e hs HSh;go_wp2_with fail;apply(HAs.o _).mono
   rintro e w5⟨rfl,rfl⟩;let⟨j,hW4⟩:=ex (w3.alloc (.c #[.p sA] 119));rw[hW4]at HB4 HlD⊢;let⟨c,hfa⟩:=ex w3.heap.size;rw[hfa];clear hW4 hfa HAs;obtain⟨c,hW0⟩:∃W,W=wr:=⟨_,J⟩
   subst hW0;obtain⟨c,hgO⟩:∃z,z=gk:=⟨_,J⟩
   subst hgO;go_wp2_with fail;go_loopg[55] k (λgk2 iv wr=>∃q:Nat,iv=.int .i64 q/\q<=k/\k-q<=gk2/\sE (Hz wr b off n (KZ n xs s.p) (þ n L q)/\Ç (λz=>z=b) j wr))
   case atStart=>
    refine⟨0,J,uD _,lr,?_,Ç.I _ _⟩;have h4:=HRw.o.later HB4.o;have e:∀i,i<n->KZ n xs s.p (þ n L 0 i)=xs i:=λi hi=>by simp[KZ,þ,hi]
    exact⟨h4.G,λi hi=>by rw[e i hi];exact h4.e i hi,λi hi=>by rw[e i hi];exact h4.a i hi,λi hi=>by rw[e i hi];exact h4.k i hi,h4.d⟩
   case round=>
    obtain⟨q,rfl,hqk,hgk2,H⟩:=hrel;have HbO:sE (∀{g o:Nat}{u:Value},b≠g->j.cell? ⟨g,o,sA⟩=A u->wr.cell? ⟨g,o,sA⟩=A u):=λ{g o u} i hu=>by
     rw[H.o.2.E (p:=⟨g,o,sA⟩) (BZ hu) (λe=>i e.symm)];exact hu
    by_cases hlt:q<k
    .
     have hltz2:(q:Int)<(k:Int):=by omega
     obtain⟨z,hz,-⟩:=Ao L q (by rw[HM.o];exact hlt);have hzn:z<n:=HIn.o z (ĵ hz);have hznz:(z:Int)<(n:Int):=by omega
     obtain⟨o,ho',-⟩:=Ao s.p q (by rw[HS.o.2];exact hlt);obtain⟨nb,noff,rfl,-,hnc2⟩:=HLn2.o.h (by simp[Au];have:=HM.o;omega);have cn:=HbO.o (HnB.o _ J) (jf HB4.o (hnc2 q (z:Int) (by simp[Au,hz])));obtain⟨D',off',hD',-,hcl⟩:=HlD.o.h (by rw[HS.o.2];omega);injection hD' with hD'
     injection hD' with hD1 hD2
     subst hD1;subst hD2;let⟨d0,d1,d2⟩:=hcl q o ho';have d0:=HbO.o HDb.o d0;have d1:=HbO.o HDb.o d1;have d2:=HbO.o HDb.o d2;rw[Ă]at d0 d1 d2;let⟨o0,o1,o2⟩:=o;have hbx:zW wr (wr.alloc (.c #[.int .i64 o0,.int .i64 o1,.int .i64 o2] 68)):=ba;have HRx:=H.o.1.later hbx;have HBx:=H.o.2.G (.e hbx);have x0:(wr.alloc (.c #[.int .i64 o0,.int .i64 o1,.int .i64 o2] 68)).cell? ⟨wr.heap.size,0,sA⟩=A (.int .i64 o0):=by simp
     have x1:(wr.alloc (.c #[.int .i64 o0,.int .i64 o1,.int .i64 o2] 68)).cell? ⟨wr.heap.size,1,sA⟩=A (.int .i64 o1):=by simp
     have x2:(wr.alloc (.c #[.int .i64 o0,.int .i64 o1,.int .i64 o2] 68)).cell? ⟨wr.heap.size,2,sA⟩=A (.int .i64 o2):=by simp
     have cnx:=jf hbx cn;let⟨X,o⟩:=ex (wr.alloc (.c #[.int .i64 o0,.int .i64 o1,.int .i64 o2] 68));have r7:sE (wr.alloc (.c #[.int .i64 o0,.int .i64 o1,.int .i64 o2] 68)=X):=o;rw[o]at HRx HBx x0 x1 x2 cnx;have p0:=HRx.e z hzn;have p1:=HRx.a z hzn;have p2:=HRx.k z hzn;have f0:=HRx.d (off+z*3);have f1:=HRx.d (off+z*3+1);have r8:=HRx.d (off+z*3+2);have H2:∃V,sE ((Eh X b (off+z*3) ⟨o0,o1,o2⟩).drew=V)/\sE (Hz V b off n (KZ n xs s.p) (þ n L (q+1))/\Ç (λz=>z=b) j V):=⟨_,J,by
      have I:=HRx.K hzn (n+q);have e1:KZ n xs s.p (n+q)=⟨o0,o1,o2⟩:=by
       unfold KZ;rw[Ä (by omega),jA];simp[AD,ho']
      have e2:(λj=>if j=z then n+q else þ n L q j)=þ n L (q+1):=by
       funext j
       simp[þ,AD,hz]
      rw[e1,e2]at I;exact I.later (ì br 1),(Rn HBx J _ _).drew⟩
     let⟨V,HV,HVS⟩:=H2;unfold Eh at HV;generalize (KZ n xs s.p (þ n L q z)).b=t at p0;generalize (KZ n xs s.p (þ n L q z)).h=l at p1;generalize (KZ n xs s.p (þ n L q z)).a=d at p2;let⟨e,hxb⟩:=ex wr.heap.size;have HXB:sE (wr.heap.size=e):=hxb;rw[hxb]at x0 x1 x2;clear hnc2 hcl H HbO hz ho' HRx HBx hbx o hxb;go_wp2_with fail;rw[r7.o,HXB.o];clear d0 d1 d2 cn;go_wp2
     go_region;rw[HV.o];clear HV p0 p1 p2 f0 f1 r8 x0 x1 x2 cnx;go_wp2
     go_roundg (k-(q+1))
     case measure=>omega
     case rel=>exact⟨q+1,by go_num,hlt,lr,HVS⟩
    have hltz2:¬(q:Int)<(k:Int):=by omega
    obtain rfl:q=k:=by omega
    have HEnd:sE (TT b off n xs ps f ls w (.r (.int .i64 n)) wr):=by
     have hbt:Ç (λz=>z=b) w wr:=(Ç.e (HBw.o.tr HB4.o)).G H.o.2;refine⟨hbt,.inl ⟨s,λi=>KZ n xs s.p (þ n L q i),by rw[HEq.o.2];exact HS.o.1,J,⟨H.o.1.G,H.o.1.e,H.o.1.a,H.o.1.k,H.o.1.d⟩,λr i hr=>?_,λi hi hni=>?_⟩⟩
     .
      rw[HEq.o.1]at hr;have hrl:=Ap hr;rw[HM.o]at hrl;obtain⟨o,ho',-⟩:=Ao s.p r (by rw[HS.o.2];exact hrl);show s.p[r]? = A (KZ n xs s.p (þ n L q i))
      rw[mq n HPw.o hr q (by rw[HM.o];exact lr) hrl];unfold KZ;rw[Ä (by omega),jA];simp[AD,ho']
     rw[HEq.o.1]at hni;show KZ n xs s.p (þ n L q i)=xs i
     rw[dD n L q (by rw[HM.o];exact lr) hni];simp[KZ,hi]
    clear H HbO;go_wp2
    go_ret;exact HEnd.o
  have hb4:zW w3 (w3.alloc (.c #[.p sA] 119)):=ba;have hb34:=hb3.tr hb4;have hb04:zW w (w3.alloc (.c #[.p sA] 119)):=HBw.o.tr hb34;have HB4:sE (zW w3 (w3.alloc (.c #[.p sA] 119))/\zW wr w3):=⟨hb4,hb3⟩
  have hjk:j<k:=by have:=Ap O;rw[HOl.o,HM.o]at this;exact this
  obtain⟨z,hz,-⟩:=Ao L j (by rw[HM.o];exact hjk);obtain⟨nb,noff,rfl,-,hnc2⟩:=HLn2.o.h (by simp[Au];have:=HM.o;omega);have cn3:=jf hb3 (hnc2 j (z:Int) (by simp[Au,hz]));have HTy:sE ((w3.alloc (.c #[.p sA] 119)).cell? ⟨9,0,sA⟩=A (.f 207 (.agg #[.p (A ⟨10,33,sA⟩)]))):=(y.o.d hb04).g;have HSt:sE (own[j]? = A p/\shape ls (own.take j)=A s/\Dn s p=sA/\L[j]? = A z):=⟨O,hs,hst,hz⟩
  have hjz:(j:Int)<(k:Int):=by omega
  clear hb3 hb4 hb34 hb04 O hs hst hz hnc2 HSh hF1;go_wp2_with fail;apply(jP ⟨F,0,sA⟩ ⟨w3.heap.size,0,sA⟩ (.p sA) _ HTy.o (by simp) (by simp)).mono
  rintro e w5⟨rfl,hw5⟩;have hb5:zW w3 w5:=by
   rw[hw5];exact((((HB4.o.1.alloc (by simp) _).alloc (by simp;omega) _).alloc (by simp;omega) _).alloc (by simp;omega) _).setCell lr _
  have ht5:w5.cell? ⟨w3.heap.size,0,sA⟩=A (.p (A ⟨F,0,sA⟩)):=by
   rw[hw5];exact kJ w3 _ _ _ _ _
  have cn5:=jf hb5 cn3;have hF5:=jf hb5 hF0;have HEnd:sE (TT b off n xs ps f ls w (.r (.int .i64 z)) w5):=by
   have h35:=HB4.o.2.tr hb5;refine⟨.e (HBw.o.tr h35),.inr ⟨j,z,p,s,by rw[HEq.o.1];exact HSt.o.2.2.2,by rw[HEq.o.2];exact HSt.o.1,by rw[HEq.o.2];exact HSt.o.2.1,HSt.o.2.2.1,J,HRw.o.later h35⟩⟩
  let⟨c,hfa⟩:=ex w3.heap.size;rw[hfa]at ht5⊢;clear hw5 hb5 HTy cn3 hF0 hfa;go_wp2
  go_ret;exact HEnd.o
def eB (I:oA) G(E:Vl)(w:M):s8 sr 131 #[.s I 0 G,.q 0,E] w λe w'=>e=.r (.t #[])/\w'=w:=by
 have O:sE (∀W,s8 sr 156 #[.s I 0 G,.q 0,.q 0,E] W λe w'=>e=.r (.t #[])/\w'=W):=λW=>by
   go_in
   go_wp2_with fail;apply ū 1
   rw[Ř];go_wp2
   go_end0;exact⟨J,J⟩
 go_in
 go_wp2_with fail;apply ū 1
 rw[Ř];go_wp2_with fail;apply(O.o _).mono
 rintro e e⟨rfl,rfl⟩;go_wp2_with fail;apply ū 1
 rw[Ř];go_wp2
 go_end0;exact⟨J,J⟩
def Ty (I:oA) G(E:Vl)(w:M):s8 sr 90 #[.s I 0 G,E] w λe w'=>e=.r (.t #[])/\w'=w:=by
 have O:=Io (eB I G E);go_in
 go_wp2_with fail;apply(O.o _).mono
 rintro e e⟨rfl,rfl⟩;go_wp2
 go_end0;exact⟨J,J⟩
def Vg (G:oA) O(ls:lI)(j:oA) Y f(w:M) ad(p:Errs9 w ad)(Z:Cr w G ls)(V:Bq ls):s8 sr 89 #[.s G ls.length O,.s j 0 Y,.q f] w λe w'=>e=.r (.q 0)/\zW w w':=by
 have s:sE (∀W,s8 sr 129 #[.s j 0 Y,.q f] W λe w'=>e=.r (.sn)/\w'=W):=λW=>by
   go_in
   go_wp2_with fail;apply ū 1
   rw[Ř];go_wp2
   go_ret;exact⟨J,J⟩
 have e:=Yb 0 N;have E:zW w (w.alloc (.c (sC #[.q 0,.q 0,.q 0] (0*3)) 68)):=ba;have U:=Io E;have I:=Io (Xu G O ls (sa w.z 0) 0 [] _ ad (p.d E).s (Z.d E) V (.inl J) Ku);clear p Z V E;simp only[Int.ofNat_zero,Nat.zero_mul]at e U I;go_in
 go_wp2_with fail;apply(s.o _).mono
 rintro e w⟨rfl,rfl⟩;go_wp2_with fail;apply ū 1
 rw[Ř];go_wp2_with fail;apply I.o.mono
 rintro e f⟨e,⟨s,D,-,rfl,-,-⟩|⟨j,p,s,F,p,-⟩⟩
 .
  have s:sE (zW w (f.alloc (.c #[.p sA] 119))):=have j:=U.o.tr e;j.alloc j.size _
  have j:sE (∀W,Ë 52 #[.n,.f 121 (.pp f.z 0)] W λf w'=>f=.r (.bool false)/\w'=W):=λW=>tZ _ W
  clear e I;go_wp2_with fail;apply(j.o _).mono
  rintro e e⟨rfl,rfl⟩;go_wp2_with fail;apply ū 1
  rw[Ř];go_wp2
  go_ret;exact⟨J,s.o⟩
 simp at p
end Go.Proofs.YtaoikkhlnhfkfaaGreatDoor
