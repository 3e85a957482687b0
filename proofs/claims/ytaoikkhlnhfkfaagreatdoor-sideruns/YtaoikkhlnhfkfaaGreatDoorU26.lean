import Derived.Test.YtaoikkhlnhfkfaaGreatDoorU00
import Derived.Test.YtaoikkhlnhfkfaaGreatDoorU25
set_option linter.defProp false
set_option linter.unusedSimpArgs false
set_option linter.unusedVariables false
namespace Go.Proofs.YtaoikkhlnhfkfaaGreatDoor
open Go renaming Program->tP,Trace->A1,Goroutine->th,World->tz,Value->xn,stepG->tt,runT->Ly,ways->Lv,partners->xw
open Option renaming some->A,none->sA
open Conc renaming parked->wo,offersAt->xF,rcase->yw,offersAt_of_not_blocked->tU,crowd->uz,runT_crowd_go->wN,Deaf->Ax,mem_partners->Ex,stand_get->Fo,scase->F9,crowd_waits->Kt
open Bool renaming true->sy,false->ss
open ConcN renaming get_map_set->tM,get_map_set_same->tg,upd->xp,upd_same->s5,upd_ne->ts,sumTo->s4
open Iff renaming rfl->C1
open List renaming eq_nil_iff_forall_not_mem->Do
open Go.Conc
open Go.ConcN (sumTo upd sumTo_upd upd_ne upd_same sumTo_congr get_map_set get_map_set_same deafBehind_idle)
variable {g g':gR}{i:Nat}{sl:Option (Nat×Nat)}
section
variable {P:tP}{p:Ã P}
def Ã.y (p:Ã P)(gs:Array gR)(w:M)(a b:Nat)(I:Nat ->Option Vl)(E K:Nat ->Prop)(m:Nat):=∃G,gs[0]? = A G/\((∃k,m=k+1/\Ag P E p.p (p.I a b I E) k K G w)\/
 (m=0/\∃g',p.w a b I E K g' w/\b<p.n/\G=wo g' (p.m a) .select/\∀(j:Nat) g,0<j ->gs[j]? = A g ->xF g p.cr sy=[]/\(a<p.n ->xF g p.b ss=[])))
def Ã.E (p:Ã P)(I:Nat×(Nat->Nat×Option (Mv P)))(gs:Array gR)(w:M)(t:A1):=∃a b G E K D m,p.l gs w t a b G E K D/\p.y gs w a b G E K m/\I=(2*p.n-(a+b),λi=>if i=0 then(m,sA)else(D i).a)
def PE (G:p.r)(g:gR) a:xF (wo g (p.m a) .select) p.b sy=(if a<p.n then[0]else[])/\xF (wo g (p.m a) .select) p.b ss=[]/\xF (wo g (p.m a) .select) p.cr sy=[]/\xF (wo g (p.m a) .select) p.cr ss=[1]:=by
 let E:=G.ne;by_cases h:a<p.n
 simp[xF,wo,Ã.m,h,yw,E,ħ E]
 simp[xF,wo,Ã.m,h,yw,ħ E]
def oL (g:gR) a{w':M}(G:∃s tm,w'.heap[p.b]? = A (.chan 0 #[] ss s s tm))(E:∃s tm,w'.heap[p.cr]? = A (.chan 0 #[] ss s s tm))(x x':gR):woken P x x' w' (wo g (p.m a) .select)=wo g (p.m a) .select:=by
 let⟨s,tm,G⟩:=G;let⟨s',I,E⟩:=E;unfold woken;split
 .
  by_cases h:a<p.n
  simp[Goroutine.again,wo,Ã.m,h,yw,G,E]
  simp[Goroutine.again,wo,Ã.m,h,yw,E]
 rfl
def Ã.e (E:p.r){a b}{I:Nat->Option Vl}{G K}{w:M}(h:p.I a b I G K g w):g.status=.running:=by
 obtain⟨-,h⟩|⟨-,h⟩:=h
 exact(E.sel _ _ _ _ _ _ _ h).1
 exact E.shut _ _ _ _ _ h
variable {gs:Array th}{w w':tz}{t:A1}{a b:Nat}{dn:Nat->Option xn}{Fx K:Nat->Prop}{D:Nat->Wk P}{m:Nat}
def Ã.y.step (I:p.r)(G:p.y gs w a b dn Fx K m)(h:p.l gs w t a b dn Fx K D)(ab:Cz K w w')(ac:∃s tm,w'.heap[p.b]? = A (.chan 0 #[] ss s s tm))(Z:∃s tm,w'.heap[p.cr]? = A (.chan 0 #[] ss s s tm))
   (ap:0<i)  (V:g'.status≠.blocked):p.y ((gs.map (woken P g g' w')).setIfInBounds i g') w' a b dn Fx K m:=by
 obtain⟨y,U,⟨k,j,e⟩|⟨O,Y,E,z,rfl,X⟩⟩:=G
 refine⟨y,?_,.inl ⟨k,j,e.r ab⟩⟩;rw[tM _ _ _ _ N,U];simp[woken_run (e.h λ_ _ _=>Ã.e I)]
 refine⟨_,?_,.inr ⟨O,Y,I.sees _ _ _ _ _ _ _ _ E ab,z,J,λj y k E=>?_⟩⟩
 rw[tM _ _ _ _ N,U];simp[oL Y a ac Z]
 by_cases e:i=j
 .
  subst e;by_cases O:i<gs.size
  .
   rw[tg _ _ _ O]at E;cases E
   exact⟨tU V ..,λ_=>tU V ..⟩
  rw[Χ (sx O)]at E;cases E
 rw[tM _ _ _ _ e]at E;obtain⟨z,G,rfl⟩:=ė.1 E;rw[(h.sit j z k G).woken I ac Z];exact X j z k G
def RN{k x f f'}(E:i<k)(h:PM P (f' i) (f i))(G:∀j,j≠i->f' j=f j):KV (PM P) k (x,f') (x,f):=.inr ⟨J,i,E,h,G⟩
def Ã.E.worker (ab:0<i)(V:i<p.top){x'}(Z:PM P x'.a (D i).a){E:Array gR}{G}(Y:p.l E w' G a b dn Fx K (xp D i x'))(aa:p.y E w' a b dn Fx K m):∃O,KV (PM P) p.top O (2*p.n-(a+b),λi=>if i=0 then(m,sA)else(D i).a)/\p.E O E w' G:=by
 refine⟨_,?_,a,b,dn,Fx,K,xp D i x',m,Y,aa,J⟩;refine RN V ?_ λj U=>?_
 simp[Ä (show i≠0 by omega),s5];exact Z
 by_cases I:j=0
 simp[I]
 simp[Ä I,ts D _ U]
def DU i(fn:fI) pos:MemOp.ofEvents i fn pos #[]= #[]:=rfl
def Ã.l.walk (E:p.r)(h:p.l gs w t a b dn Fx K D)(ab:p.y gs w a b dn Fx K m){es x'}(ak:p.d<=i)(G:gs[i]? = A g)
  (Y:∀w,p.k w->tt P ss g w=.go g' w es)(ao:∀e∈es,p.H e)(ac:x'.b=(D i).b)(am:x'.d=(D i).d)(an:∀c,x'.e c↔(D i).e c)(aj:p.N6 x' i g' w 0)(hrun:g'.status≠.blocked)(ai:PM P x'.a (D i).a):
  ∃I w' ops,Ly P (uz gs w sl) i=(.next (uz I w' sl),ops)/\∃U,KV (PM P) p.top U (2*p.n-(a+b),λi=>if i=0 then(m,sA)else(D i).a)/\p.E U I w' (t++ops):=by
 let V:(i==0)=false:=by have:=E.pos;simp;omega
 let O:0<i:=oe E.pos
 refine⟨_,w,_,wN (P:=P) (sl:=sl) (i:=i) G (V▸Y w h.still),?_⟩;refine Ã.E.worker O (h.size▸AZ G) ai (h.stepW E ak G lr ⟨J,J⟩ (λ_ _ _=>rfl) ac am (r9:=λ_=>False) (λc=>oy (an c)) (λc r9=>r9.elim) (λe r9=>?_) aj ..) (ab.step E h (Cz.I K w) h.chn h.chr O hrun);let⟨O,Z,V⟩:=ao e r9;exact .inl ⟨O,Z,.inl V⟩
def Ã.l.call (O:p.r)(h:p.l gs w t a b dn Fx K D)(bq:p.y gs w a b dn Fx K m)(a0:p.d<=i)(aa:gs[i]? = A g)(bZ:p.No (D i) g w):∃ak w' ops,Ly P (uz gs w sl) i=(.next (uz ak w' sl),ops)/\∃am,KV (PM P) p.top am (2*p.n-(a+b),λi=>if i=0 then(m,sA)else(D i).a)/\p.E am ak w' (t++ops):=by
 obtain⟨x,W,c,Z,y,r,fr,cs,z,S,sd,F,rfl,T,Q⟩:=bZ;let b6:(i==0)=false:=by have:=O.pos;simp;omega
 let se:0<i:=oe O.pos
 let r8:=rX O.glob S.2;let q:=(O.begins (D i).d Z [] W S).y;let b9:Ax t i=0:=by
  obtain⟨E,-⟩|⟨-,E,-⟩:=h.sit i _ se aa
  omega
  exact E
 -- what a step of the call's does to the world
 let s:∀{V:Ô}{X:M}{evs u:Array Event}{x':Wk P}{g':gR},ĩ Z.heap.size r V w X ->(∀e∈evs,jU Z.heap.size V e) ->(∀e∈u,e∈evs) ->tt P ss (G fr cs) w=.go g' X u ->x'.b=(D i).b ->x'.d=(D i).d ->(∀e,x'.e e ↔ ∃a,Z.heap.size<= a/\V.rel a e) ->p.N6 x' i g' X 0 ->g'.status≠.blocked ->PM P x'.a (D i).a ->
   ∃ak w' ops,Ly P (uz gs w sl) i=(.next (uz ak w' sl),ops)/\∃am,KV (PM P) p.top am (2*p.n-(a+b),λi=>if i=0 then(m,sA)else(D i).a)/\p.E am ak w' (t++ops):=by
  intro V X evs u x' g' Y bl b5 R bt b2 v b3 hrun b7;let r:∀e,e<w.heap.size->¬(D i).e e->X.heap[e]? = w.heap[e]?:=λe I bf=>Y.d e I λa b4 U=>bf ((T e).2 ⟨a,b4,U⟩)
  let bp:Cz K w X:=⟨λe I=>r e (h.keeps.kl e I) λu=>(h.own i e u).1 I,Y.h,Y.x,Y.i⟩
  let B:=λe I=>r e (rZ I h.still.2) λu=>oe (h.own i e u).2.2
  refine⟨_,X,_,wN (P:=P) (sl:=sl) (i:=i) aa (b6▸R),?_⟩;refine Ã.E.worker se (h.size▸AZ aa) b7 (h.stepW O a0 aa Y.h ⟨Y.x,Y.i⟩ r bt b2 (r9:=λe=>w.heap.size<=e/\e<X.heap.size/\x'.e e) (λe=>?_) (λe I=>⟨I.1,I.2.1⟩) (λe I=>?_) b3 ..) (bq.step O h bp (B _ O.clow.1▸h.chn) (B _ O.clow.2▸h.chr) se hrun)
  .
   constructor
   .
    intro r;let⟨u,se,U⟩:=(v e).1 r;obtain E|⟨-,E,bj⟩:=Y.l u e U
    exact .inl ((T e).2 ⟨u,se,E⟩)
    exact .inr ⟨E,bj,r⟩
   rintro(r|r)
   let⟨u,se,U⟩:=(T e).1 r;exact(v e).2 ⟨u,se,Y.t _ _ U⟩
   exact r.2.2
  let bv:∀u e,V.rel u e->p.S e\/x'.e e:=λu e U=>by
   obtain r9|H:=nR u Z.heap.size
   .
    obtain E|⟨E,-⟩:=Y.l u e U
    exact .inl (Q u e E r9)
    omega
   exact .inr ((v e).2 ⟨u,H,U⟩)
  obtain⟨u,e',off,be,E,rfl⟩|⟨u,e',off,be,r,E,rfl⟩|⟨u,e',wr,r,E,rfl⟩|E|E:=bl e (b5 e I)
  exact .inl ⟨_,J,bv u e' E⟩
  exact .inr (.inl ⟨_,J,(v e').2 ⟨u,r,E⟩⟩)
  exact .inr (.inr (.inl ⟨_,_,J,(v e').2 ⟨u,r,E⟩⟩))
  exact .inr (.inr (.inr (.inl E)))
  exact .inr (.inr (.inr (.inr E)))
 by_cases R:DV y.1
 .
  let⟨bx,se,r,r7,v,v',T,fn,V,X,evs,Y,B,bn,bh,E,⟨b1,bk,bd⟩,L,bw⟩:=F.q O.fns r8 (O.ends _ _ W S) q R;subst bx;let b0:p.X (D i).d v':=⟨v,_,V,Y,E⟩
  let⟨X,g',b8,bs,bm⟩:=O.made _ c v' z W b0;refine s (x':=⟨1,(X+1,sA),λe=>∃a,Z.heap.size<=a/\V.rel a e,(D i).d⟩) L bw (λe I=>mem_seen I) (PO se r r7 B bn bh) x.symm J (λ_=>C1) (.inr ⟨a0,J,.inr (.inr (.inr (.inr (.inl ⟨J,W,X,g',v',J,bs,bm,?_⟩))))⟩) (by simp[G]) (.inl ?_)
  .
   refine⟨y.1.2,V,Z.heap.size,v,T,b1,bk,λu e U=>?_,Y,E,bd,λg aa=>L.t _ _ (F.d g aa)⟩;obtain r9|H:=nR u Z.heap.size
   .
    obtain E|⟨E,-⟩:=L.l u e U
    exact .inl (Q u e E r9)
    omega
   exact .inr ⟨u,H,U⟩
  rw[sd];show X+1<60
  omega
 let⟨v,V,bg,bK,X,evs,se,r,r7,Y,B⟩:=F.u O.fns r8 (O.ends _ _ W S) q R ss;refine s (x':=⟨1,(60,A ⟨v,y.2.inv r⟩),λe=>∃a,Z.heap.size<=a/\V.rel a e,(D i).d⟩) Y B (λe I=>mem_seen I) se x.symm J (λ_=>C1) (.inr ⟨a0,J,.inr (.inr (.inr (.inl ⟨J,W,c,Z,⟨v,y.2.inv r⟩,V,bg,bK,z,S,J,r7,J,λ_=>C1,λu e U r9=>?_⟩)))⟩) (by simp[G]) (.inr ⟨sd▸rfl,⟨v,y.2.inv r⟩,y,J,sd▸rfl,r⟩);obtain E|⟨E,-⟩:=Y.l u e U
 exact Q u e E r9
 omega
end
open Go.ConcN (sumTo upd sumTo_upd upd_ne upd_same sumTo_congr get_map_set get_map_set_same deafBehind_idle le_sumTo)
variable {c s r i j k I:Nat}{tm U:Bool}{g g' O:gR}{v:Vl}
section
variable {P:tP}{gs:Array th}{w:tz}{sl:Option (Nat×Nat)}
def J9 (z:Vl)(E:w.heap[c]? = A (.chan 0 #[] ss s r tm)):Lv w gs (yw c z)=(xw gs c sy).map λx=>.partner x.1 x.2:=by
 simp[Lv,yw,E]
 cases xw gs c _<;>simp
def Kb (v z:Vl)(E:w.heap[c]? = A (.chan 0 #[] ss s r tm)):Lv w gs ⟨.chan (A c),A v,z⟩=(xw gs c ss).map λx=>.partner x.1 x.2:=by
 simp[Lv,E]
 cases xw gs c _<;>simp
def KA (h:(j,k)∈xw (gs.setIfInBounds i ph) c U):∃x,j≠i/\gs[j]? = A x/\k∈xF x c U:=by
 let⟨x,I,E⟩:=Ex.1 h;obtain⟨-,rfl⟩|⟨O,G⟩:=getElem?_stand gs i j x I
 cases E
 exact⟨x,O,G,E⟩
def Ib (h:∀(j) x,j≠i->gs[j]? = A x->xF x c U=[]):xw (gs.setIfInBounds i ph) c U=[]:=by
 refine Do.2 λ⟨j,k⟩O=>?_
 let⟨x,I,G,E⟩:=KA O;rw[h j x I G]at E;cases E
def Uw{cases cs shape sh O cj}(ab:j≠i)(Z:gs[j]? = A (wo g' cs sh))(U:cs[I]? = A cj)(G:cj.send=A v)(V:O.send=sA):Ħ P gs i g cases shape k j I O w c 0 #[] ss s s tm sl=(.next (uz ((gs.setIfInBounds j (g'.finishComm P cs sh I uu ss)).setIfInBounds i (g.finishComm P cases shape k v sy)) (w.setChan c 0 #[] ss (s+1) (s+1) tm) sl),met j i g'.frame.fn g'.frame.place g.frame.fn g.frame.place c s 0):=by
 let E:=Fo (i:=i) ab Z;let W:=finishPartner_at P (gs.setIfInBounds i ph) E (cs:=cs) (sh:=sh) J I uu;let Y:(gs.setIfInBounds i ph).getD j default=wo g' cs sh:=sL
 let X:offeredValue (gs.setIfInBounds i ph) j I=v:=by simp[offeredValue,E,wo,U,G]
 simp[Ħ,V,W,Y,X,U,ţ,G,set_stand2,finishComm_parked];rfl
def U8{cases cs shape sh}{E cj:CommCase}(ab:j≠i)(V:gs[j]? = A (wo g' cs sh))(aa:cs[I]? = A cj)(Y:cj.send=sA)(G:E.send=A v):Ħ P gs i g cases shape k j I E w c 0 #[] ss s s tm sl=(.next (uz ((gs.setIfInBounds j (g'.finishComm P cs sh I v sy)).setIfInBounds i (g.finishComm P cases shape k uu ss)) (w.setChan c 0 #[] ss (s+1) (s+1) tm) sl),met i j g.frame.fn g.frame.place g'.frame.fn g'.frame.place c s 0):=by
 let U:=Fo (i:=i) ab V;let Z:=finishPartner_at P (gs.setIfInBounds i ph) U (cs:=cs) (sh:=sh) J I v;let O:(gs.setIfInBounds i ph).getD j default=wo g' cs sh:=sL
 simp[Ħ,G,Z,O,aa,ţ,Y,set_stand2,finishComm_parked];rfl
def Rh{x y:gR}(I:j≠i)(U:i<gs.size)(E:j<gs.size):((gs.setIfInBounds j y).setIfInBounds i x).size=gs.size/\((gs.setIfInBounds j y).setIfInBounds i x)[i]? = A x/\((gs.setIfInBounds j y).setIfInBounds i x)[j]? = A y/\∀k,k≠i->k≠j->((gs.setIfInBounds j y).setIfInBounds i x)[k]? = gs[k]?:=by
 refine⟨sm,?_,?_,λk O G=>?_⟩
 rw[ş (sx U)]
 rw[û (λe=>I e.symm),ş E]
 rw[û (λe=>O e.symm),û (λe=>G e.symm)]
end
section
variable {P:tP}{p:Ã P}{gs:Array th}{w w':tz}{t:A1}{a b:Nat}{dn:Nat->Option xn}{Fx K:Nat->Prop}{D:Nat->Wk P}{m:Nat}
def Ã.l.set (h:p.l gs w t a b dn Fx K D){x'}(aj:0<i)(O:i<gs.size)(ac:x'.b=(D i).b)(ai:x'.d=(D i).d)(Y:x'.e=(D i).e)(ak:p.N6 x' i g' w (Ax t i)):p.l (gs.setIfInBounds i g') w t a b dn Fx K (xp D i x'):=by
 let E:∀j,(xp D i x' j).e=(D j).e/\(xp D i x' j).b=(D j).b/\(xp D i x' j).d=(D j).d:=λj=>by
  by_cases e:j=i
  subst e;rw[s5];exact⟨Y,ac,ai⟩
  rw[ts D _ e];exact⟨J,J,J⟩
 refine⟨oy h.size,h.still,h.chn,h.chr,h.keeps,λj y X G=>?_,λj c V=>h.own j c (by rw[(E j).1]at V;exact V),λj k c I U=>h.one j k c (by rw[(E j).1]at I;exact I) (by rw[(E k).1]at U;exact U),(E 0).2.1▸h.zero,NH h.idle ⟨aj,h.size▸O⟩,h.above,?_,h.norel,λk Z=>?_,?_,h.an,h.res⟩
 .
  by_cases e:i=j
  .
   subst e;rw[ş O]at G;cases G
   rw[s5];exact ak
  rw[û e]at G;rw[ts D _ (ħ e)];exact h.sit j y X G
 .
  let e:p.h p.top (xp D i x')=p.h p.top D:=by
   have:(p.h p.top (xp D i x')).e=(p.h p.top D).e:=by
    funext j
    exact(E j).1
   let c:p.h p.top (xp D i x')={p.h p.top D with e:=(p.h p.top (xp D i x')).e}:=rfl;rw[c,this]
  rw[e];exact h.past
 .
  obtain I|⟨j,e,c,y,y⟩:=h.cover k Z
  exact .inl I
  exact .inr ⟨j,e,c,sL,sL⟩
 rw[<-h.count];simp_all
def Ã.l.ba (h:p.l gs w t a b dn Fx K D):b<=a:=oe h.count
def Sq{x' x f f'}(h:x'<x):KV (PM P) k (x',f') (x,f):=.inl h
def Ã.L.sees{E K}(h:p.L E K w)(G:w.heap.size<=w'.heap.size):p.L E K w':=⟨h.fk,h.sf,h.kc,λc I=>rZ (h.kl c I) G⟩
def Ã.E.handed (G:p.r)(h:p.l gs w t a b dn Fx K D)   (ak:p.w a b dn Fx K O w)(aB:b<p.n)(ax:p.d<= j)(ac:j<p.top)(al:(D j).b=0)(aw:∀c,¬(D j).e c)(ab:Ax t j=0)(am:p.N5 g)(I:a<p.n)
    (aC:w.heap[p.b]? = A (.chan 0 #[] ss s s tm)) {E:Array gR}(aj:E.size=gs.size)(ai:∀k,k≠0->k≠j->E[k]? = gs[k]?)
  (an:E[j]? = A (g.finishComm P #[yw p.b p.D] (.recv sy) 0 (.q a) sy))(aq:E[0]? = A (O.finishComm P (p.m a) .select (0:Nat) uu ss))(f0:fI) Y(aa:fI) Z d:
  ∃U,KV (PM P) p.top U (2*p.n-(a+b),λi=>if i=0 then(m,sA)else(D i).a)/\p.E U E ((w.at d).setChan p.b 0 #[] ss (s+1) (s+1) tm) (t++met 0 j f0 Y aa Z p.b s 0):=by
 let⟨x,W⟩:=h.handed G ax ac al aw ab am I aC aj ai an f0 Y aa Z d;let V:=(I9 K w d).G (Rm K (w.at d) h.keeps.kc.1 0 #[] ss (s+1) (s+1) tm);let⟨x,X⟩:=G.handed a b dn Fx K O _ (G.sees _ _ _ _ _ _ _ _ ak V) (h.keeps.sees V.2) I aB;refine⟨_,Sq ?_,_,b,dn,Fx,K,_,_,W,⟨_,aq,.inl ⟨x,J,X⟩⟩,J⟩;omega
def Ã.E.took (G:p.r)(h:p.l gs w t a b dn Fx K D)    (ap:p.w a b dn Fx K O w)(aG:b<p.n)(aE:p.d<= j)(ak:j<p.top)(aq:(D j).b=1)(ac:(D j).d<p.n)(U:p.B (D j).d v (λc=>p.S c\/(D j).e c) w)(aj:Ax t j=0)(av:p.v (p.i (D j).d v) g)
    (I:w.heap[p.cr]? = A (.chan 0 #[] ss s s tm)) {E:Array gR}(ao:E.size=gs.size)(al:∀k,k≠0->k≠j->E[k]? = gs[k]?)
  (aw:E[j]? = A (g.finishComm P #[F9 p.cr (p.i (D j).d v) p.zr] .send 0 uu ss))(aC:E[0]? = A (O.finishComm P (p.m a) .select (1:Nat) (p.i (D j).d v) sy))(f0:fI) aa(ai:fI) ab d:
  ∃V,KV (PM P) p.top V (2*p.n-(a+b),λi=>if i=0 then(m,sA)else(D i).a)/\p.E V E ((w.at d).setChan p.cr 0 #[] ss (s+1) (s+1) tm) (t++met j 0 ai ab f0 aa p.cr s 0):=by
 let⟨x,Y⟩:=h.took G aE ak aq ac U aj av I ao al aw f0 aa ai ab d;let X:=(I9 K w d).G (Rm K (w.at d) h.keeps.kc.2 0 #[] ss (s+1) (s+1) tm);let W:=G.more _ _ _ _ _ (D j).e _ _ (G.sees _ _ _ _ _ _ _ _ ap X) λc I=>(h.own j c I).1
 let⟨Z,X⟩:=G.took a b dn _ _ O _ (D j).d v W Y.keeps aG ac U.fine;refine⟨_,Sq ?_,a,b+1,_,_,_,xp D j x,Z+1,Y,⟨_,aC,.inl ⟨Z,J,X⟩⟩,J⟩;have:=h.an;omega
abbrev Ã.Q (p:Ã P)(gs:Array gR)(w:M)(t:A1)(sl:Option (Nat×Nat))(i a b m:Nat)(D:Nat->Wk P):Prop:=
 ∃G w' ops,Ly P (uz gs w sl) i=(.next (uz G w' sl),ops)/\∃E,KV (PM P) p.top E (2*p.n-(a+b),λi=>if i=0 then(m,sA)else(D i).a)/\p.E E G w' (t++ops)
def Ã.l.asks (O:p.r)(h:p.l gs w t a b dn Fx K D)(bd:p.y gs w a b dn Fx K m){sl}(aN:p.d<=i)(ao:gs[i]? = A g)(aB:Ax t i=0)(aI:(D i).b=0)(aW:∀c,¬(D i).e c)(a5:(D i).a.1=1)(av:p.N5 g):p.Q gs w t sl i a b m D:=by
 let aC:0<i:=oe O.pos
 let d:(i==0)=false:=so
 let Y:=AZ ao;let⟨s,H,U⟩:=h.chn;let aE:tt P (i==0) g w=.comm g #[yw p.b p.D] sy (.recv sy) w #[]:=d▸(O.recv g av).2 w
 let r7:=λj x al E=>((h.sit j x al E).offers O).1
 let⟨F,Z,ab⟩:=id bd;by_cases aq:a<p.n/\m=0
 .
  let⟨I,aa⟩:=aq;obtain⟨k,ap,-⟩|⟨-,V,ak,am,rfl,an⟩:=ab
  omega
  let aw:=(PE O V a).1;rw[Æ I]at aw;let a0:(0,0)∈xw (gs.setIfInBounds i ph) p.b true:=Ex.2 ⟨_,Fo N Z,oj aw⟩;obtain⟨k,ai,j,d,d,ap,T,hrun⟩:=NV (P:=P) (sl:=sl) ao aE (λai G=>by simp at G;subst G;exact made_recv _ U)
   ⟨_,by simp;rfl,by rw[J9 _ U];intro e;rw[mg]at e;rw[e]at a0;cases a0⟩ (λai G y aG=>by
    simp at G
    subst G;rw[J9 _ U]at aG;obtain⟨⟨ac,y⟩,-,rfl⟩:=Ő.1 aG;exact⟨ac,y,J⟩)
  obtain⟨rfl,rfl⟩:k=0/\yw p.b p.D=ai:=by
   obtain _|k:=k
   exact⟨J,sx ap⟩
   simp at ap
  rw[J9 _ U]at T;let⟨⟨ac,y⟩,E,e⟩:=Ő.1 T;simp[lP]at e;let⟨rfl,rfl⟩:=e;let⟨y,e,ax,aj⟩:=KA E;obtain rfl:ac=0:=by
   obtain e|e:=Ģ ac
   exact e
   rw[r7 ac y e ax]at aj;cases aj
  rw[Z]at ax;cases ax
  rw[aw,Đ]at aj;subst aj;let hrun:=hrun p.b 0 #[] ss s s H J U;rw[Uw N Z (cj:=⟨.chan (A p.b),A (.q a),p.z0⟩) (v:=.q a) (by simp[Ã.m,I]) J J]at hrun;let⟨k,s,E,e⟩:=Rh (gs:=gs) (i:=i) (j:=0) (x:=g.finishComm P #[yw p.b p.D] (.recv sy) (0:Nat) (.q a) sy) (y:=V.finishComm P (p.m a) .select (0:Nat) uu ss) N Y N;refine⟨_,_,_,hrun,?_⟩;rw[DU,kj];exact Ã.E.handed O h ak am aN (h.size▸Y) aI aW aB av I U k (λk j v=>e k v j) s E _ _ _ _ d
 have e:xw (gs.setIfInBounds i ph) p.b sy=[]:=Ib λj x al E=>by
  obtain rfl|s:=Ģ j
  .
   rw[Z]at E;cases E
   obtain⟨k,-,d⟩|⟨aa,V,ak,am,rfl,an⟩:=ab
   exact tU (oj (d.h λ_ _ _=>Ã.e O)) ..
   rw[(PE O V a).1,Ä λI=>aq ⟨I,aa⟩]
  exact r7 j x s E
 let hrun:=Kt (P:=P) (sl:=sl) ao aE λai G=>by
  simp at G
  subst G;exact ways_recv_none U e
 refine⟨_,w,_,hrun,?_⟩;rw[DU,kO];apply Ã.E.worker (D:=D) (i:=i) (x':={D i with a:=(0,sA)}) aC (h.size▸Y) (.inl (a5▸Nat.zero_lt_one)) (h.set aC Y J J J (.inr ⟨aN,aB,.inr (.inl ⟨aI,aW,g,av,J⟩)⟩))
 refine⟨F,by rw[û N];exact Z,?_⟩;obtain ab|⟨aa,V,ak,am,e,an⟩:=ab
 exact .inl ab
 refine .inr ⟨aa,V,ak,am,e,λj x al E=>?_⟩;by_cases e:i=j
 .
  subst e;rw[ş Y]at E;cases E
  exact⟨offersAt_parked_recv' ..,λI=>absurd ⟨I,aa⟩ aq⟩
 rw[û e]at E;exact an j x al E
def Ã.l.gives (O:p.r)(h:p.l gs w t a b dn Fx K D)(a7:p.y gs w a b dn Fx K m){sl}(aB:p.d<=i)(ac:gs[i]? = A g)(am:Ax t i=0)(av:(D i).b=1)(aI:(D i).d<p.n)(a0:(D i).a.1=1)(aj:p.v (p.i (D i).d v) g)(an:p.B (D i).d v (λc=>p.S c\/(D i).e c) w):p.Q gs w t sl i a b m D:=by
 let R:0<i:=oe O.pos
 let a5:(i==0)=false:=so
 let Y:=AZ ac;let⟨s,tm,I⟩:=h.chr;let e:tt P (i==0) g w=.comm g #[F9 p.cr (p.i (D i).d v) p.zr] sy .send w #[]:=a5▸(O.send _ g aj).2 w
 let T:=λj x d G=>((h.sit j x d G).offers O).2.1
 let⟨a2,U,d⟩:=id a7;obtain⟨k,X,y⟩|⟨bh,S,a8,bc,rfl,bf⟩:=d
 .
  let a1:xw (gs.setIfInBounds i ph) p.cr ss=[]:=Ib λj x d G=>by
   obtain rfl|bb:=Ģ j
   .
    rw[U]at G;cases G
    exact tU (oj (y.h λ_ _ _=>Ã.e O)) ..
   exact T j x bb G
  let hrun:=Kt (P:=P) (sl:=sl) ac e λZ E=>by
   simp at E
   subst E;exact ways_send_none I sm a1
  refine⟨_,w,_,hrun,?_⟩;rw[DU,kO];apply Ã.E.worker (D:=D) (i:=i) (x':={D i with a:=(0,sA)}) R (h.size▸Y) (.inl (a0▸Nat.zero_lt_one)) (h.set R Y J J J (.inr ⟨aB,am,.inr (.inr (.inr (.inr (.inr ⟨av,aI,g,v,aj,J,an⟩))))⟩))
  exact⟨a2,by rw[û N];exact U,.inl ⟨k,X,y⟩⟩
 let R:=(PE O S a).2.2.2;let y:(0,1)∈xw (gs.setIfInBounds i ph) p.cr false:=Ex.2 ⟨_,Fo N U,oj R⟩;let⟨k,Z,j,bj,d,X,W,hrun⟩:=NV (P:=P) (sl:=sl) ac e (λZ E=>by simp at E;subst E;exact made_send _ _ I)
  ⟨_,by simp;rfl,by unfold F9;rw[Kb _ _ I];intro e;rw[mg]at e;rw[e]at y;cases y⟩ (λZ E y e=>by
   simp at E
   subst E;unfold F9 at e;rw[Kb _ _ I]at e;obtain⟨⟨V,y⟩,-,rfl⟩:=Ő.1 e;exact⟨V,y,J⟩)
 obtain⟨rfl,rfl⟩:k=0/\F9 p.cr (p.i (D i).d v) p.zr=Z:=by
  obtain _|k:=k
  exact⟨J,sx X⟩
  simp at X
 unfold F9 at W;rw[Kb _ _ I]at W;let⟨⟨V,y⟩,G,e⟩:=Ő.1 W;simp[lP]at e;let⟨rfl,rfl⟩:=e;let⟨y,bg,E,k⟩:=KA G;obtain rfl:V=0:=by
  obtain e|e:=Ģ V
  exact e
  rw[T V y e E]at k;cases k
 rw[U]at E;cases E
 rw[R,Đ]at k;subst k;let hrun:=hrun p.cr 0 #[] ss s s tm J I;rw[U8 N U (cj:=yw p.cr p.z1) (v:=p.i (D i).d v) (by simp[Ã.m]) J J]at hrun;let⟨a3,be,a6,a9⟩:=Rh (gs:=gs) (i:=i) (j:=0) (x:=g.finishComm P #[F9 p.cr (p.i (D i).d v) p.zr] .send (0:Nat) uu ss) (y:=S.finishComm P (p.m a) .select (1:Nat) (p.i (D i).d v) sy) N Y N;refine⟨_,_,_,hrun,?_⟩;rw[DU,kj];exact Ã.E.took O h a8 bc aB (h.size▸Y) av aI an am aj I a3 (λk a4 aW=>a9 k aW a4) be a6 _ _ _ _ d
end
open Go.ConcN (sumTo upd sumTo_upd upd_ne upd_same sumTo_congr get_map_set get_map_set_same deafBehind_idle le_sumTo)
variable {sl:Option (Nat×Nat)}{g:gR}
section
variable {P:tP}{p:Ã P}{gs:Array th}{w w':tz}{t:A1}{a b:Nat}{dn:Nat->Option xn}{Fx K:Nat->Prop}{D:Nat->Wk P}{m:Nat}
def Ã.l.selects (V:p.r)(h:p.l gs w t a b dn Fx K D)(aE:gs[0]? = A g)(ap:p.w a b dn Fx K g w)(aW:b<p.n)(bc:0<m):p.Q gs w t sl 0 a b m D:=by
 let⟨s,tm,T⟩:=h.chn;let⟨s',a6,X⟩:=h.chr;let aB:=AZ aE;let a3:=(V.sel _ _ _ _ _ _ _ ap).2 w;let a2:∀G∈p.m a,illMade w G=false:=λG E=>by
  simp[Ã.m,ĺ,sV,ġ,ĝ]at E;obtain rfl|rfl:=E
  .
   by_cases O:a<p.n
   simp[illMade,O,T]
   simp[illMade,O]
  exact made_recv _ X
 let bd:∀G∈p.m a,∃c Z,Lv w (gs.setIfInBounds 0 ph) G=(xw (gs.setIfInBounds 0 ph) c Z).map (λx=>.partner x.1 x.2)\/Lv w (gs.setIfInBounds 0 ph) G=[]:=λG E=>by
  simp[Ã.m,ĺ,sV,ġ,ĝ]at E;obtain rfl|rfl:=E
  .
   by_cases O:a<p.n
   simp only[O,ô];exact⟨p.b,ss,.inl (Kb _ _ T)⟩
   simp only[O,ę];exact⟨0,ss,.inr J⟩
  exact⟨p.cr,sy,.inl (J9 _ X)⟩
 by_cases a1:∃G∈p.m a,Lv w (gs.setIfInBounds 0 ph) G≠[]
 .
  have⟨k,G,j,bg,d,S,R,hrun⟩:=NV (P:=P) (sl:=sl) aE a3 a2 a1 (λG E y Y=>by
   obtain⟨c,Z,e|e⟩:=bd G E
   rw[e]at Y;obtain⟨⟨I,c⟩,-,rfl⟩:=Ő.1 Y;exact⟨I,c,J⟩
   rw[e]at Y;cases Y)
  obtain _|_|k:=k
  .
   -- a number is handed out
   let E:(⟨if a<p.n then .chan (A p.b)else .chan sA,A (.q a),p.z0⟩:CommCase)=G:=by simpa[Ã.m]using S
   by_cases O:a<p.n
   .
    simp[O,ô]at E;subst E;rw[Kb _ _ T]at R;let⟨⟨I,c⟩,W,e⟩:=Ő.1 R;simp[lP]at e;let⟨rfl,rfl⟩:=e;let⟨y,Y,U,L⟩:=KA W;let k:=h.sit I y N U;obtain⟨rfl,r9,a5,a9,g',bf,rfl⟩:=(k.offers V).2.2.1 c L;let r7:Ax t I=0:=by
     obtain⟨q,-⟩|⟨-,q,-⟩:=k
     omega
     exact q
    let hrun:=hrun p.b 0 #[] ss s s tm J T;rw[U8 Y U (cj:=yw p.b p.D) (v:=.q a) sm J J]at hrun;let⟨se,s,aL,Q⟩:=Rh (gs:=gs) (i:=0) (j:=I) (x:=g.finishComm P (p.m a) .select (0:Nat) uu ss) (y:=g'.finishComm P #[yw p.b p.D] (.recv sy) (0:Nat) (.q a) sy) Y aB (AZ U);refine⟨_,_,_,hrun,?_⟩;rw[DU,kj];exact Ã.E.handed V h ap aW r9 (h.size▸AZ U) a5 a9 r7 bf O T se Q aL s _ _ _ _ d
   simp[O,ę]at E;subst E;cases R
  .
   -- an answer is taken in
   have E:yw p.cr p.z1=G:=by simpa[Ã.m]using S
   subst E;rw[J9 _ X]at R;let⟨⟨I,c⟩,W,e⟩:=Ő.1 R;simp[lP]at e;let⟨rfl,rfl⟩:=e;let⟨y,Y,U,L⟩:=KA W;let k:=h.sit I y N U;obtain⟨rfl,r9,a8,be,g',v,a7,rfl,bb⟩:=(k.offers V).2.2.2 c L;let r7:Ax t I=0:=by
    obtain⟨q,-⟩|⟨-,q,-⟩:=k
    omega
    exact q
   let hrun:=hrun p.cr 0 #[] ss s' s' a6 J X;rw[Uw Y U (cj:=F9 p.cr (p.i (D I).d v) p.zr) (v:=p.i (D I).d v) sm J J]at hrun;let⟨se,s,aL,Q⟩:=Rh (gs:=gs) (i:=0) (j:=I) (x:=g.finishComm P (p.m a) .select (1:Nat) (p.i (D I).d v) sy) (y:=g'.finishComm P #[F9 p.cr (p.i (D I).d v) p.zr] .send (0:Nat) uu ss) Y aB (AZ U);refine⟨_,_,_,hrun,?_⟩;rw[DU,kj];exact Ã.E.took V h ap aW r9 (h.size▸AZ U) a8 be bb r7 a7 X se Q aL s _ _ _ _ d
  simp[Ã.m]at S
 let aw:=λG E=>ż λa4=>a1 ⟨G,E,a4⟩
 let hrun:=Kt (P:=P) (sl:=sl) aE a3 λG E=>⟨a2 G E,aw G E⟩
 refine⟨_,w,_,hrun,?_⟩;rw[DU,kO];refine⟨_,RN (f':=λi=>if i=0 then (0,sA) else (D i).a) (i:=0) (oi V.pos V.top) ?_ λj c=>?_,a,b,dn,Fx,K,D,0,⟨oy h.size,h.still,h.chn,h.chr,h.keeps,λj y c Y=>by
    rw[û N]at Y;exact h.sit j y c Y,h.own,h.one,h.zero,h.idle,h.above,h.past,h.norel,h.cover,h.count,h.an,h.res⟩,⟨_,ş aB,.inr ⟨J,g,ap,aW,J,λj x c W=>?_⟩⟩,J⟩
 exact .inl (sx bc)
 simp[c]
 rw[û N]at W;let empty:∀{c:Nat}{Z:Bool},xw (gs.setIfInBounds 0 ph) c Z=[]->xF x c Z=[]:=λ{c Z} e=>by
  refine Do.2 λk S=>?_
  have:(j,k)∈xw (gs.setIfInBounds 0 ph) c Z:=Ex.2 ⟨x,Fo N W,S⟩;rw[e]at this;cases this
 refine⟨empty ?_,λO=>empty ?_⟩
 have:=aw (yw p.cr p.z1) (by simp[Ã.m]);rw[J9 _ X,mg]at this;exact this
 have:=aw ⟨.chan (A p.b),A (.q a),p.z0⟩ (by simp[Ã.m,O]);rw[Kb _ _ T,mg]at this;exact this
def Ã.l.other (E:p.r)(h:p.l gs w t a b dn Fx K D)(aj:p.y gs w a b dn Fx K m){i:Nat}(an:0<i)(U:gs[i]? = A g)(hrun:g.status=.running):p.Q gs w t sl i a b m D:=by
 let I:=AZ U;let e:(i==0)=false:=so
 obtain⟨O,X,Y,c⟩|⟨O,r9,V|V|V|V|V|V⟩:=h.sit i g an U
 .
  generalize u:(D i).a.1=q at c;cases q with
  |zero=>rw[c.1]at hrun;cases hrun
  |succ q=>
   obtain⟨v,_⟩|⟨_,g',R,G,T,c⟩:=c
   rw[v]at hrun;cases hrun
   refine⟨_,w,_,wN (P:=P) (sl:=sl) (i:=i) U (e▸T w),?_⟩;refine Ã.E.worker an (h.size▸I) (.inl (u▸ō q)) (h.stepL E an O U G c ..) (aj.step E h (Cz.I K w) h.chn h.chr an ?_);obtain e|e:=c.status<;>rw[e]<;>simp
 .
  let⟨X,Y,I,g',W,P,Z⟩:=V;cases I with
  |zero=>
   cases P
   exact h.asks E aj O U r9 X Y W Z
  |succ I=>
   obtain⟨-,Q,R,S,T,q⟩:=P;refine h.walk E aj (x':={D i with a:=(I+1,sA)}) O U T S J J (λ_=>C1) (.inr ⟨O,J,.inl ⟨X,Y,I,g',J,q,Z⟩⟩) ?_ (.inl (W▸ō _))
   rw[Ck q (E.recv _ Z).1];simp
 obtain⟨-,-,g',-,rfl⟩:=V;simp[wo]at hrun
 .
  obtain⟨X,Y,W,I,c,P,Z,-,Q,R,S,T,q⟩:=V;cases I with
  |zero=>
   cases q
   let e:=E.begins (D i).d w (c::p.Z) Y h.still;let q:=XJ E.fns (rX E.glob h.still.2) (E.ends _ _ Y h.still) e.y;refine h.walk E aj (x':={D i with a:=(60,A ⟨_,q⟩)}) O U T S J J (λ_=>C1) (.inr ⟨O,J,.inr (.inr (.inr (.inl ⟨X,Y,c,w,⟨_,q⟩,_,_,_,Z,h.still,J,e,J,λe=>?_,λu e c _=>?_⟩)))⟩) (by simp[G]) (.inl (by rw[P];show 60<0+61;omega))
   .
    constructor
    exact λq=>absurd q (W e)
    rintro⟨u,e,rfl,e⟩;have:=E.slow u (E.rs u e);have:=h.still.2;omega
   exact E.rs _ (c.1▸c.2)
  |succ I=>
   refine h.walk E aj (x':={D i with a:=(I+61,sA)}) O U T S J J (λ_=>C1) (.inr ⟨O,J,.inr (.inr (.inl ⟨X,Y,W,I,c,J,Z,q⟩))⟩) ?_ (.inl (by rw[P];show I+61<I+1+61;omega))
   rw[q.1];simp
 exact h.call E aj O U V
 .
  let⟨X,Y,I,g',v,W,P,Z,c⟩:=V;cases I with
  |zero=>
   cases P
   exact h.gives E aj O U r9 X Y W Z c
  |succ I=>
   obtain⟨-,Q,R,S,T,q⟩:=P;refine h.walk E aj (x':={D i with a:=(I+1,sA)}) O U T S J J (λ_=>C1) (.inr ⟨O,J,.inr (.inr (.inr (.inr (.inl ⟨X,Y,I,g',v,J,q,Z,c⟩))))⟩) ?_ (.inl (W▸ō _))
   rw[Ck q (E.send _ _ Z).1];simp
 obtain⟨-,-,g',v,-,rfl,-⟩:=V;simp[wo]at hrun
def Ã.l.runs (I:p.r)(av:0<p.n->p.d<p.top)(h:p.l gs w t a b dn Fx K D)(V:p.y gs w a b dn Fx K m):∃(i:Nat)(g:gR),gs[i]? = A g/\g.status=.running:=by
 obtain⟨e,j,⟨k,-,c⟩|⟨-,k,k,k,rfl,k⟩⟩:=V
 exact⟨0,e,j,c.h λ_ _ _=>Ã.e I⟩
 -- a worker that is not parked at a send,and that holds a number,or is not parked at all
 let W:∀(j:Nat) x,p.d<=j->gs[j]? = A x->x.status=.running\/(p.Y (D j) x/\¬a<p.n):=λj x X G=>by
  let c:0<j:=oe I.pos
  let v:=h.sit j x c G;let⟨e,r⟩:=k j x c G;obtain⟨q,-⟩|⟨-,c,E⟩:=v
  omega
  obtain E|E|E|E|E|E:=E
  obtain⟨-,-,j,g',-,Z,U⟩:=E;exact .inl (Ck Z (I.recv _ U).1)
  refine .inr ⟨E,λO=>?_⟩;obtain⟨-,-,g',-,rfl⟩:=E;have:=r O;rw[offersAt_parked_recv,Æ J]at this;cases this
  obtain⟨-,-,-,j,c,-,-,c⟩:=E;exact .inl c.1
  obtain⟨-,-,c,c,y,r,c,c,-,-,-,-,rfl,-⟩:=E;exact .inl J
  obtain⟨-,-,j,g',v,-,Z,U,-⟩:=E;exact .inl (Ck Z (I.send _ _ U).1)
  obtain⟨-,-,g',v,-,rfl,-⟩:=E;rw[offersAt_parked_send,Æ J]at e;cases e
 by_cases O:a<p.n
 .
  let c:=av N;obtain⟨x,G⟩:∃x,gs[p.d]? = A x:=⟨_,ÿ (h.size▸c)⟩
  obtain e|⟨-,e⟩:=W p.d x lr G
  exact⟨_,x,G,e⟩
  cases e O
 -- all numbers are out:somebody holds one
 let c:=h.count;let c:=h.an;let q:∃j,j<p.top/\(D j).b≠0:=ż λc=>by
  let V:∀k,k<=p.top->s4 k (λj=>(D j).b)=0:=λk=>by
   induction k with
   |zero=>intro _;rfl
   |succ k j=>
    intro e;have:(D k).b=0:=ż λe=>c ⟨k,N,e⟩
    simp only[s4];rw[j N,this]
  have:=V p.top lr;omega
 let⟨j,X,Y⟩:=q;obtain⟨x,G⟩:∃x,gs[j]? = A x:=⟨_,ÿ (h.size▸X)⟩
 let c:0<j:=by
  obtain e|e:=Ģ j
  subst e;cases Y h.zero
  exact e
 obtain⟨-,q,-⟩|⟨k,-⟩:=h.sit j x c G
 cases Y q
 obtain e|⟨e,-⟩:=W j x k G
 exact⟨_,x,G,e⟩
 cases Y e.1
def Ã.V (hp:p.r)(hw:0<p.n->p.d<p.top){Post:Vl->M->Prop}
  (hshut:∀gs w t sl dn Fx K D g,p.l gs w t p.n p.n dn Fx K D->gs[0]? = A g->p.O dn Fx K g w->∃gs' w' ops,Ly P (uz gs w sl) 0=(.next (uz gs' w' sl),ops)/\Cc P Post (uz gs' w' sl) (t++ops)) 
  (h:p.l gs w t a b dn Fx K D)(hz:p.y gs w a b dn Fx K m):Cc P Post (uz gs w sl) t:=by
 refine YL (tu (ze (P:=P)) p.top) p.E ?_ ?_ ?_ ?_ _ gs w sl t ⟨a,b,dn,Fx,K,D,m,h,hz,J⟩
 .
  rintro μ gs w t d⟨a,b,dn,Fx,K,D,m,h,hz,rfl⟩;refine⟨a,b,dn,Fx,K,D,m,⟨h.size,h.still.sees (I9 _ w d),h.chn,h.chr,⟨h.keeps.fk,h.keeps.sf,h.keeps.kc,h.keeps.kl⟩,λi g Y Z=>(h.sit i g Y Z).stay (I9 _ w d),h.own,h.one,h.zero,h.idle,h.above,h.past,h.norel,h.cover,h.count,h.an,λi v e=>⟨(h.res i v e).1,(h.res i v e).2.stay (λ_=>id) (I9 _ w d)⟩⟩,?_,J⟩;obtain⟨v,j,⟨k,W,hgo⟩|⟨i,X,hsel,hbn,e,hno⟩⟩:=hz
  exact⟨v,j,.inl ⟨k,W,hgo.r (I9 K w d)⟩⟩
  exact⟨v,j,.inr ⟨i,X,hp.sees _ _ _ _ _ _ _ _ hsel (I9 K w d),hbn,e,hno⟩⟩
 .
  rintro μ gs w t⟨a,b,dn,Fx,K,D,m,h,hz,rfl⟩g Z;obtain⟨i,Y,rfl⟩:=ly.1 Z;obtain rfl|hpos:=Ģ i
  .
   let⟨v,j,hz⟩:=hz;have:gs[0]=v:=sX (ÿ Y) j
   rw[this];obtain⟨k,-,hgo⟩|⟨-,X,-,-,rfl,-⟩:=hz
   exact λt=>oj (hgo.h λ_ _ _=>Ã.e hp)
   exact λt=>by simp[wo]
  exact(h.sit i _ hpos (ÿ Y)).awake hp
 rintro μ gs w t⟨a,b,dn,Fx,K,D,m,h,hz,rfl⟩;exact h.runs hp hw hz
 rintro μ gs w t sl i g⟨a,b,dn,Fx,K,D,m,h,hz,rfl⟩Z hrun;let fin:p.Q gs w t sl i a b m D->∃gs' w' ops,Ly P (uz gs w sl) i=(.next (uz gs' w' sl),ops)/\((∃μ',KV (PM P) p.top μ' (2*p.n-(a+b),λi=>if i=0 then(m,sA)else(D i).a)/\p.E μ' gs' w' (t++ops))\/Cc P Post (uz gs' w' sl) (t++ops)):=λ⟨gs',w',ops,d,e⟩=>⟨gs',w',ops,d,.inl e⟩
 obtain rfl|hpos:=Ģ i
 .
  let⟨v,j,hzz⟩:=id hz;rw[Z]at j;cases j
  obtain⟨k,W,hgo⟩|⟨-,X,-,-,rfl,-⟩:=hzz
  .
   obtain hstop|⟨k',rfl,-,g',w',d,hst,k,hgo'⟩:=hgo.m
   .
    obtain⟨hbn,hsel⟩|⟨hbn,hsh⟩:=hstop
    exact fin (h.selects hp Z hsel hbn N)
    subst hbn;let hba:=h.ba;let han:=h.an;obtain rfl:a=p.n:=N
    let⟨gs',w',ops,d,e⟩:=hshut gs w t sl dn Fx K D g h Z hsh;exact⟨gs',w',ops,d,.inr e⟩
   refine fin ⟨_,w',_,wN (P:=P) (sl:=sl) (i:=0) Z (show tt P (0==0) g w=_ from hst),?_⟩;refine⟨_,RN (f':=λi=>if i=0 then(k' +1,sA)else(D i).a) (i:=0) (oi hp.pos hp.top) (.inl ?_) λj d=>oy d,a,b,dn,Fx,_,D,k' +1,h.step0 hp k ..,⟨g',?_,.inl ⟨k',J,hgo'⟩⟩,J⟩
   simp[ô];omega
   rw[tg _ _ _ (AZ Z)]
  simp[wo]at hrun
 exact fin (h.other hp hz hpos Z hrun)
end
def Nn (P:pG)(Post:Vl->M->Prop)(H:Nat->Prop)(g:gR)(w:M):=∀gs sl t q B,gs[0]? = A g->Leavers P t gs q->Past (KM H) B t->B<=w.heap.size->Cc P Post (uz gs w sl) t
def Q9 (H:Nat->Prop)(w w':M):=(∀(b:Nat) o,w.heap[b]? = A o->(∀c t E,o≠.c c t E)->w'.heap[b]? = A o)/\(∀b,H b->w'.heap[b]? = w.heap[b]?)/\w'.os=w.os/\w'.output=w.output
def Bp (H:Nat->Prop)(v w:M):=∃t E,DY H (À v t) (À w E)
section
variable {P:tP}{Post:xn->tz->Prop}{H:Nat->Prop}{p:Gg}{x0:CW}{PostP:CW->Prop}
def Bp.x{v w}(h:Bp H v w) d:DY H (À v λj q=>w.tape (j-v.drawn+d) q) (w.at d):=by
 let⟨t,G,E⟩:=h;refine⟨E.h,E.m,E.d,λj q=>?_,E.x,E.i⟩;show w.tape (d+j) q=w.tape (v.drawn+j-v.drawn+d) q
 rw[jA,ks]
def DY.some{v w:M}(h:DY H v w):Bp H v w:=⟨v.tape,w.tape,h⟩
def Bp.q{v w}(h:Bp H v w) u I:Bp H (À v u) (À w I):=let⟨t,E,G⟩:=h;⟨t,E,G⟩
def zh (k:lM){f}(h:Gl P p f)(Y:¬(f.mode=.run/\f.todo=[KR])):J7 P (ĥ k f):=by
 let E:=h.h Y;refine⟨E.g,λO x G=>?_,E.e,E.b,E.d,E.round⟩;let⟨l,q,I,V,y⟩:=h.a;let⟨Z,U⟩:=Yy (P:=P) (p:=p) k q V;let e:(ĥ k f).todo=l++Z:=by
  show Ű k f.todo=_
  rw[I];exact U l y
 cases l with
 |nil=>
  obtain rfl|rfl:=V
  .
   have:Z=[]:=by
    have:=U [] sm;simpa[Ű]using this.symm
   subst this;rw[e]at G;cases G
  cases Y ⟨O,I⟩
 |cons y l=>
  rw[e]at G;cases G
  exact E.a O x (I▸rfl)
def Xr (E:∀H,Eb P p H)(U:PX P x0 PostP)(V:Ht P p x0)(k:lM)(c:lF)
  {w0}(aq:∀(y) w,PostP y->Bp H y.2 w->Q9 H w0 w->Nn P Post H (G (ĥ k y.1.1) (Į k c y.1.2)) w)(a0:Bp H x0.2 w0):Nn P Post H (G (ĥ k x0.1.1) (Į k c x0.1.2)) w0:=by
 let S:=yE (E _) U V;let main:∀x,Acc (λy x=>Ez P x y) x->í P x0 x->∀w,Bp H x.2 w->Q9 H w0 w->Nn P Post H (G (ĥ k x.1.1) (Į k c x.1.2)) w:=λx b=>by
  induction b with
  |
   intro x _ Y=>
   intro Z w u I;by_cases d:DV x\/Nj x
   let⟨T,b⟩:=xW (E _) U V Z d;exact aq (x.1,À x.2 T) w b (u.q T w.tape) I
   let o:¬DV x:=λh=>d (.inl h)
   let b:¬Nj x:=λh=>d (.inr h)
   let h:=Z.h (E _) V;intro O X t q B d e Q T;refine GZ (P:=P) (Shun:=KM H) (a:=G (ĥ k x.1.1) (Į k c x.1.2)) J (λa' w' a=>a<=w'.z/\∃y,Ez P x y/\Bp H y.2 w'/\Q9 H w0 w'/\a'=G (ĥ k y.1.1) (Į k c y.1.2)) ?_ _ O w X t q B J d e Q λd=>?_
   rintro t a' w' B x q' a⟨R,y,e,q,Q,rfl⟩X W O;exact Y y e (Z.e e) w' q Q t B x q' a X W O R
   let B:=u.x d;obtain d|⟨a,v',w',u,x,e,e,t,O,u,q,Q⟩:=cZ (E H) k c h.h o b _ _ B
   cases uT (E _) U V Z o b _ d
   let d:=Zi (main:=sy) (zh k h.h.top b) e;rw[u #[]]at d;refine⟨_,w',_,w'.z,d,λe U=>?_,rX T O.h,lr,(a,v'),⟨o,_,x⟩,t.some,⟨λb o Y a=>O.a b o (I.1 b o Y a) a,λb Y=>(O.d b Y).trans (I.2.1 b Y),O.x.trans I.2.2.1,O.i.trans I.2.2.2⟩,J⟩;have:=mem_seen U;rw[kj]at this;exact Qr (q e this)
 exact main x0 S (í.I _) w0 a0 ⟨λ_ _ h _=>h,λ_ _=>J,J,J⟩
end
end Go.Proofs.YtaoikkhlnhfkfaaGreatDoor
