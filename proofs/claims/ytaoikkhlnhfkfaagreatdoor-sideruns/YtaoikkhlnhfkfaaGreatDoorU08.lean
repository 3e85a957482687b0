import Derived.Test.YtaoikkhlnhfkfaaGreatDoorU00
import Derived.Deep.AppendLies
import Derived.Test.YtaoikkhlnhfkfaaGreatDoorU07
import Derived.Deep.Onto
import Derived.Laws.Rows
set_option maxHeartbeats 4000000
set_option maxRecDepth 100000
set_option linter.defProp false
set_option linter.unusedSimpArgs false
set_option linter.unusedVariables false
namespace Go.Proofs.YtaoikkhlnhfkfaaGreatDoor
open Option renaming some->A
open Go renaming method->zb,Calls->s8,Addr->xr,wpList_append_lies->xl,maxLen->s7
open Proofs.Tryz renaming prog->sr,underlying42->Ix
open World renaming news_of_block->Hf,cell?_setCells_out->E6
open Go.RowKit
def AL.a{w w':M}{B}{a:oA}{ps}(h:AL w a ps)(O:∀ad,a=A ad->0<ps.length->ad.block<B)(E:Below B w w'):AL w' a ps:=by
 obtain rfl|⟨b,off,rfl,I,V⟩:=h
 exact .inl J
 by_cases U:0<ps.length
 let G:b<B:=O _ J U;refine .inr ⟨b,_,J,rZ I E.size,λi p Y=>?_⟩;have:=V i p Y;exact⟨E.cell (p:=⟨b,_,_⟩) G▸this.1,E.cell (p:=⟨b,_,_⟩) G▸this.2.1,E.cell (p:=⟨b,_,_⟩) G▸this.2.2⟩
 exact .inl (Ğ.1 N)
structure Kw{σ:Type}(Held:M->(Nat->Prop)->σ->Prop)(B:Nat):Prop where
 a:∀w D q,Held w D q->∀k,D k->B<=k/\k<w.heap.size
 r:∀(S:Nat->Prop) w w' D q,Held w D q->Ç S w w'->(∀k,D k->¬S k)->(∀k,S k->B<=k)->Held w' D q
def Bh{G:Type}(I:M->(Nat->Prop)->G->Prop)(w w':M)(D:Nat->Prop)(q:G):=∃E,I w' E q/\Ç D w w'/\∀k,E k->D k\/w.heap.size<=k
structure FY{σ:Type}(Q:Ě σ)(Held:M->(Nat->Prop)->σ->Prop)(per:Int)(ps:List Pk)(q0:σ)(B:Nat)(w wr:M)(v:Vl)(s:St σ)(D:Nat->Prop):Prop where
 k:Â Q per ps q0 s
 E:Dz wr w.heap.size v s.p
 held:Held wr D s.q
 apart:∀g,v.ownBlock=A g->¬D g
 d:Below B w wr
section
variable {σ:Type}{Q:Ě σ}{Held:World->(Nat->Prop)->σ->Prop}{per:Int}{ps:List Pk}{q0:σ}{B:Nat}{w wr wr':World}{v:Value}{s s':St σ}{D:Nat->Prop}
def FY.a (U:Kw Held B)(h:FY Q Held per ps q0 B w wr v s D)(ai:B<=w.heap.size)(Z:Bh Held wr wr' D s'.q)(ab:Â Q per ps q0 s')(Y:s'.p=s.p):∃G,FY Q Held per ps q0 B w wr' v s' G:=by
 have⟨G,k,O,X⟩:=Z;refine⟨G,ab,Y▸Ai h.E (λg I E=>O.block g E (h.apart g I)),k,λg E W=>?_,h.d.trans (O.d (rX ai h.d.size) (λk V=>(U.a _ _ _ h.held k V).1))⟩;obtain I|I:=X g W
 exact h.apart g E I
 have:=(AC h.E E).2;omega
def FY.parts (U:Kw Held B)(h:FY Q Held per ps q0 B w wr v s D)(ab:B<=w.heap.size){q}(Y:Bh Held wr wr' D q):∃E,Dz wr' w.heap.size v s.p/\Held wr' E q/\(∀g,v.ownBlock=A g->¬E g)/\Below B w wr':=by
 have⟨E,k,O,X⟩:=Y;refine⟨E,Ai h.E (λg Z G=>O.block g G (h.apart g Z)),k,λg G Z=>?_,h.d.trans (O.d (rX ab h.d.size) (λk V=>(U.a _ _ _ h.held k V).1))⟩;obtain I|I:=X g Z
 exact h.apart g G I
 have:=(AC h.E G).2;omega
structure F5 (Held:M->(Nat->Prop)->σ->Prop)(B:Nat)(w wr:M)(v:Vl)(out:List Sn)(q:σ)(D:Nat->Prop):Prop where
 E:Dz wr w.heap.size v out
 held:Held wr D q
 apart:∀g,v.ownBlock=A g->¬D g
 d:Below B w wr
def F5.later{out q}(I:Kw Held B)(h:F5 Held B w wr v out q D)(O:B<=w.heap.size)(E:zW wr wr'):F5 Held B w wr' v out q D:=
 ⟨Ai h.E (λg _ G=>E.block g G),I.r _ _ _ _ _ h.held (.e E) (λ_ _ h=>h) (λ_ h=>h.elim),h.apart,h.d.trans (E.mono (rX O h.d.size))⟩
def FY.I (ab:Kw Held B)(O:B<=w.heap.size){x q g cap}{w1 w2:M}{out}(ap:F5 Held B w w1 v out q D)
  (ak:w2.ownsRow w.heap.size 75 3 (.sl g 0 (out.length+1) cap) (out.length+1) (Î out++Î [x]))(G:w1.grownBy w2 v.ownBlock)(I:v.ownBlock=A g\/g=w1.heap.size) s'(am:Â Q per ps q0 s')(al:s'.p=out++[x])(aj:s'.q=q):
  FY Q Held per ps q0 B w w2 (.sl g 0 (out.length+1) cap) s' D:=by
 have⟨U,Y,W,X⟩:=ap;let V:Ç (λk=>v.ownBlock=A k) w1 w2:=⟨G.os,G.tape,G.output,G.size,λk E Z=>G.block k E (λe=>Z e.symm)⟩
 refine⟨am,?_,aj▸ab.r _ _ _ _ _ Y V (λk E e=>W k e E) (λk E=>rX O (AC U E).1),λg' T Z=>?_,X.trans (V.d (rX O X.size) λk E=>rX O (AC U E).1)⟩
 rw[al];unfold Dz;rw[ý,Jj];exact ak
 have e:g=g':=Ö T;subst e;obtain I|I:=I
 exact W _ I Z
 have:=(ab.a _ _ _ Y _ Z).2;omega
end
def Qe{E}(ps:List Pk)(s:St E):Nat:=match ps[s.e]? with|some p=>(if p.a<=s.d then 0 else 1)|none=>1
def î{E}(ps:List Pk)(s:St E):=2*(ps.length-s.p.length)+Qe ps s
def oh{U} ps(s:St U):Qe ps s<=1:=by
 unfold Qe;split
 split<;>omega
 omega
def X4{U ps}{s s':St U}(E:s'.p.length=s.p.length+1)(G:s.p.length<ps.length):î ps s'<î ps s:=by
 have:=oh ps s';unfold î;omega
def pW{U ps}{s s':St U}(Y:s'.p.length=s.p.length)(G:s'.e=s.e)(O:s.e<ps.length)(I:s.d<Ay ps s.e)(E:Ay ps s.e<=s'.d):î ps s'<î ps s:=by
 let e:=ë O;let V:Qe ps s'=0:=by
  unfold Qe;rw[G,e];rw[AQ e]at E;simp only;rw[Æ E]
 let V:Qe ps s=1:=by
  unfold Qe;rw[AQ e]at I;simp_all
 unfold î;omega
def Tryz.L (x:Vl)(w:M):(zb 387 225 x "Come").run sr w=.ok (207,x) w:=kr
def Tryz.O (x:Vl)(w:M):(zb 387 225 x "Pick").run sr w=.ok (208,x) w:=kr
def Tryz.R (x:Vl)(w:M):(zb 387 225 x "Rest").run sr w=.ok (209,x) w:=kr
def XE{U}(Q:Ě U) Z per ps ai B(aG aB aE:Vl)(cv:Kw Z B)(cP:MK Q per ps ai)(b3:Ar ps)(be:1<=per)(bn:per<=1000)
  (ch:∀w D s p,Â Q per ps ai s->ps[s.e]? = A p->Z w D s.q->Ë 207 #[.agg #[aG,aB,aE],.q s.e] w λe w'=>e=.r (.t #[])/\Bh Z w w' D (Q.e s.q s.e))
  (cR:∀w D s,Â Q per ps ai s->0<Q.rest s.q->Z w D s.q->Ë 208 #[.agg #[aG,aB,aE]] w λe w'=>e=.r (.q (Q.pick s.q:Nat))/\Bh Z w w' D (Q.h s.q))
  (ct:∀w D s,Â Q per ps ai s->Z w D s.q->Ë 209 #[.agg #[aG,aB,aE]] w λe w'=>e=.r (.q (Q.rest s.q:Nat))/\Bh Z w w' D (Q.a s.q))
  (a:oA) cap(w:M)(cH:AL w a ps)(cA:B<=w.heap.size)(cM:∀ad,a=A ad->0<ps.length->ad.block<B) ce(cN:Z w ce ai):
  s8 sr 110 #[.s a ps.length cap,.q per,.f 225 (.agg #[aG,aB,aE])] w λe w'=>∃s v,e=.r v/\Â Q per ps ai s/\¬s.e<ps.length/\Q.rest s.q=0/\Dz w' w.heap.size v s.p/\Below B w w'/\∃D,Z w' D (Q.a s.q):=by
 have O:=qV cv cA cH cM;have a2:=qY cP b3;have l:=qX ch;have u:=qX cR;have r:=qX ct;have c:Hid (FY Q Z per ps ai B w w (.sn) ⟨[],0,0,ai⟩ ce):=⟨.c,Ĉ _ _ _ _,cN,λg b=>(by cases b),br⟩
 obtain⟨co,cJ,ck,cQ,cG⟩:=ó Tryz.p;have o:=b3.j;have b:=Tryz.L;have b:=Tryz.O;have b:=Tryz.R;clear cv cP b3 ch cR ct cH cA cM cN;obtain⟨n,b⟩:=ex ps.length;have aj:=qX b;rw[b]at o⊢;clear b;go_in
 go_wp2_with fail;go_loopg[7,8,9] (î ps (⟨[],0,0,ai⟩:St U))(λb v t i wr=>∃s D,b=î ps s/\t=.q s.d/\i=.q (s.e:Nat)/\FY Q Z per ps ai B w wr v s D)
 case atStart=>exact⟨_,ce,J,J,J,c.o⟩
 case round=>
  obtain⟨s,D,rfl,rfl,rfl,av⟩:=hrel;obtain⟨c,c⟩:∃W,W=wr:=⟨_,J⟩
  subst c;have cL:=qX av;obtain⟨G,ax⟩:=ex s.d;have cp:=qX ax;rw[ax];clear av ax;go_wp2_with fail;go_loopg[9] (n-s.e)(λc i b=>∃E a1,c=n-E.e/\i=.q (E.e:Nat)/\E.p=s.p/\E.d=s.d/\s.e<=E.e/\FY Q Z per ps ai B w b u7 E a1)
  case atStart=>exact⟨s,D,J,J,J,J,lr,cL.o⟩
  case round=>
   obtain⟨E,a1,rfl,rfl,f,d,bg,av⟩:=hrel;have ak:=qX av;have ao:=qZ f d bg;obtain⟨V,bm⟩:=ex E.e;have ax:=d.trans cp.o;have ab:=qY bm ax;have m:=av.k.g ⟨be,bn⟩ a2.o.2;have a5:=av.k.b a2.o.1;have q:=av.k.a;rw[aj.o,bm]at q;have q:E.p.length<=300:=N;rw[ax]at m;rw[bm];clear av f d bg bm ax a5;have aq:=qX ak.o.k;have q:Hid (∀p,ps[V]? = A p->Ë 207 #[.agg #[aG,aB,aE],.q V] wr λe w'=>e=.r (.t #[])/\Bh Z wr w' a1 (Q.e E.q V)):=λp Y=>by
    have:=l.o wr a1 E p ak.o.k (by rw[ab.o.1];exact Y) ak.o.held;rwa[ab.o.1]at this
   obtain⟨rs,bd⟩:=ex (Q.rest E.q);have bh:=qX bd;have a5:=ak.o.k.b a2.o.1;rw[bd,ab.o.1]at a5;have c:rs<=300:=N;have bl:Hid (Ë 209 #[.agg #[aG,aB,aE]] wr λe w'=>e=.r (.q (rs:Nat))/\Bh Z wr w' a1 (Q.a E.q)):=by
    have:=r.o wr a1 E ak.o.k ak.o.held;rwa[bd]at this
   have bx:=qX a5;have cq:Hid (0<rs->Q.a E.q=E.q):=λh=>Ä (by rw[bd];omega)
   clear bd a5;by_cases l:V<n/\Ay ps V<=G
   .
    obtain⟨am,a3⟩:=l;obtain⟨p,Y,-⟩:=Ao ps V (by rw[aj.o];exact am);obtain⟨b,off,rfl,F,bk⟩:=O.o.2.2.1.h (by rw[aj.o];omega);have cn:wr.cell? (C b (off+V*3+2))=A (.q p.a):=by rw[ak.o.d.cell (p:=(C b (off+V*3+2))) (O.o.2.2.2 (C b off) J (by rw[aj.o];omega))];exact(bk V p Y).2.2
    have b:=qX Y;rw[AQ Y]at a3;have j:=qX a3;clear bk Y;go_wp2_with fail;refine(q.o p b.o).mono ?_
    rintro e w1⟨rfl,aa⟩;have bZ:=qX aa;clear aa;go_wp2
    go_roundg (n-(V+1))
    case measure=>have:=ab.o.1;omega
    case rel=>
     have ap:Â Q per ps ai ⟨E.p,E.d,E.e+1,Q.e E.q E.e⟩:=.e E p aq.o (by rw[ab.o.1];exact b.o) (by rw[ab.o.2];exact j.o);rw[ab.o.1]at ap;obtain⟨al,ac⟩:=ak.o.a (s':=⟨E.p,E.d,V+1,Q.e E.q V⟩) O.o.1 O.o.2.1 bZ.o ap J;have bg:=ao.o.2.2;rw[ab.o.1]at bg;exact⟨⟨E.p,E.d,V+1,Q.e E.q V⟩,al,J,by go_num,ao.o.1,ao.o.2.1,Nat.le_succ_of_le bg,ac⟩
   have x:Hid (∀r,ps[E.e]? = A r->E.d<r.a):=λr ap=>by
    rw[ab.o.1]at ap;rw[ab.o.2];have be:=Ap ap;rw[aj.o]at be;have bn:=AQ ap;obtain ac|ac:=j2 G r.a
    . exact ac
    exact absurd ⟨be,by rw[bn];exact ac⟩ l
   have cy:Hid (0<rs ->∀b al ,FY Q Z per ps ai B w b u7 E al ->∃k p,k<n/\ps[k]? = A p/\Lm p=true/\(Ë 208 #[.agg #[aG,aB,aE]] b λe w'=>e=.r (.q (k:Nat))/\∃an,F5 Z B w w' u7 E.p (Q.h E.q) an)/\
     (∀f,AL f a ps->qW 137 #[.s a n cap,.q per,.q k,.q G] f (.agg #[.q k,.q G,.q (G+per*p.h)]))/\
     Â Q per ps ai ⟨E.p++[⟨(k:Nat),G,G+per*p.h⟩],G+per*p.h,V,Q.h E.q⟩):=λf b al k=>by
    have j:0<Q.rest E.q:=by rw[bh.o];exact f
    have f:=a2.o.1.pick E aq.o j;rw[ab.o.1]at f;obtain⟨p,Y,-⟩:=Ao ps (Q.pick E.q) (by rw[aj.o];omega);have aW:=(a2.o.2.d _ p Y).1;refine⟨Q.pick E.q,p,N,Y,aW,?_,λf z=>?_,?_⟩
    .
     refine(u.o b al E aq.o j k.held).mono ?_
     rintro e w'⟨rfl,aa⟩;obtain⟨an,u,q,b,y⟩:=k.parts O.o.1 O.o.2.1 aa;exact⟨J,an,u,q,b,y⟩
    . have:=iH a cap ps per G (Q.pick E.q) p f z (by rw[aj.o];exact o) Y aW be bn m.1 N;rwa[aj.o]at this
    have:=Â.v E p aq.o x.o j Y;rwa[ab.o.1,ab.o.2]at this
   have h:(¬V<n)\/(V<n/\G<Ay ps V):=N;have cT:=qX h;have cD:Hid (V<n->∃b off,a=A (C b off)/\∀W,Below B w W->W.cell? (C b (off+V*3+2))=A (.q (Ay ps V))):=λam=>by
    obtain⟨p,Y,-⟩:=Ao ps V (by rw[aj.o];exact am);obtain⟨b,off,rfl,F,bk⟩:=O.o.2.2.1.h (by rw[aj.o];omega);refine⟨b,off,J,λW j=>?_⟩;rw[j.cell (p:=(C b (off+V*3+2))) (O.o.2.2.2 (C b off) J (by rw[aj.o];omega)),AQ Y];exact(bk V p Y).2.2
   clear l h;by_cases bj:0<rs
   .
    obtain am|⟨am,a3⟩:=cT.o
    .
     go_wp2_with fail;refine bl.o.mono ?_
     rintro e w1⟨rfl,aa⟩;rw[cq.o bj]at aa;obtain⟨al,ac⟩:=ak.o.a O.o.1 O.o.2.1 aa aq.o J;obtain⟨k,p,cV,Y,aW,bf,a8,aI⟩:=cy.o bj w1 al ac;have b5:=qX bf;have b6:=qX a8;obtain⟨I,aw⟩:=ex (G+per*p.h);rw[aw]at aI;have b2:=qX aw;have b8:=qX aI;clear aa ac bf a8 aI Y aW aw;go_wp2_with fail;refine b5.o.mono ?_
     rintro e w2⟨rfl,an,aC⟩;have b1:=qX aC;have ca:=qX (O.o.2.2.1.a O.o.2.2.2 aC.d);clear aC;go_wp2_with fail;refine(b6.o w2 ca.o).mono ?_
     rintro e w3⟨rfl,bb⟩;rw[b2.o];have a4:=qX (b1.o.later O.o.1 O.o.2.1 bb);clear bb;have aL:Hid (F5 Z B w ((w3.alloc (.c #[.q k,.q G,.q I] 75)).alloc (.c #[.q k,.q G,.q I] 75)) u7 E.p (Q.h E.q) an):=a4.o.later O.o.1 O.o.2.1 (ba.alloc sm _);have bK:Hid (∀j u,(Î [⟨k,G,I⟩])[j]? = A u->((w3.alloc (.c #[.q k,.q G,.q I] 75)).alloc (.c #[.q k,.q G,.q I] 75)).cell? (((C (w3.heap.size+1) 0):xr).add j)=A u):=Hf (cs:=#[.q k,.q G,.q I]) (t:=75) (by have:=ř (w3.alloc (.c #[.q k,.q G,.q I] 75)) (.c #[.q k,.q G,.q I] 75);simpa using this);have cc:Hid (((w3.alloc (.c #[.q k,.q G,.q I] 75)).alloc (.c #[.q k,.q G,.q I] 75)).cell? (C w3.heap.size 2)=A (.q I)):=jf ba sm;have a6:Hid (w.heap.size<=((w3.alloc (.c #[.q k,.q G,.q I] 75)).alloc (.c #[.q k,.q G,.q I] 75)).heap.size/\w3.heap.size<((w3.alloc (.c #[.q k,.q G,.q I] 75)).alloc (.c #[.q k,.q G,.q I] 75)).heap.size):=⟨aL.o.d.size,by simp;omega⟩
     have b':Hid (A w3.heap.size≠u7.ownBlock):=λe=>by
      have:=(AC a4.o.E e.symm).2;omega
     go_wp2_with (at_builtin;go_must (refine xl _ J _ _ 42 J w.heap.size 75 co (.agg #[.q 0,.q 0,.q 0]) 3 24 Ix cJ ck cQ cG J dc u7 E.p.length (Î E.p) J aL.o.E (C (w3.heap.size+1) 0) 1 1 (Î [⟨k,G,I⟩]) J J bK.o (Kj _) dc (by unfold s7;omega) N a6.o.1 _ J ?_;intro cx cI cf a7 aN bc b9;have dl:cf.cell? (C w3.heap.size 2)=A (.q I):=(aN.cell_far (C w3.heap.size 2) a6.o.2 b'.o).trans cc.o;have b0:Hid (FY Q Z per ps ai B w cf (.sl cx 0 (E.p.length+1) cI) ⟨E.p++[⟨(k:Nat),G,I⟩],I,V,Q.h E.q⟩ an):=FY.I O.o.1 O.o.2.1 aL.o a7 aN bc _ b8.o J J;clear a7 aN bc b9))
     go_roundg (î ps (⟨E.p++[⟨(k:Nat),G,I⟩],I,V,Q.h E.q⟩:St U))
     case measure=>
      refine X4 ?_ ?_
      . simp[ao.o.1]
      have ac:=bx.o;rw[ao.o.1]at ac;rw[aj.o];omega
     case rel=>exact⟨_,an,J,J,J,b0.o⟩
    obtain⟨b,off,rfl,a0⟩:=cD.o am;have cn:=a0 wr ak.o.d;clear a0;go_wp2_with fail;refine bl.o.mono ?_
    rintro e w1⟨rfl,aa⟩;rw[cq.o bj]at aa;obtain⟨al,ac⟩:=ak.o.a O.o.1 O.o.2.1 aa aq.o J;obtain⟨k,p,cV,Y,aW,bf,a8,aI⟩:=cy.o bj w1 al ac;have b5:=qX bf;have b6:=qX a8;obtain⟨I,aw⟩:=ex (G+per*p.h);rw[aw]at aI;have b2:=Io aw;have b8:=Io aI;clear aa ac bf a8 aI Y aW aw;go_wp2_with fail;refine b5.o.mono ?_
    rintro e w2⟨rfl,an,aC⟩;have b1:=Io aC;have ca:=Io (O.o.2.2.1.a O.o.2.2.2 aC.d);clear aC;go_wp2_with fail;refine(b6.o w2 ca.o).mono ?_
    rintro e w3⟨rfl,bb⟩;rw[b2.o];have a4:=Io (b1.o.later O.o.1 O.o.2.1 bb);clear bb;have aL:Hid (F5 Z B w ((w3.alloc (.c #[.q k,.q G,.q I] 75)).alloc (.c #[.q k,.q G,.q I] 75)) u7 E.p (Q.h E.q) an):=a4.o.later O.o.1 O.o.2.1 (ba.alloc sm _);have bK:Hid (∀j u,(Î [⟨k,G,I⟩])[j]? = A u->((w3.alloc (.c #[.q k,.q G,.q I] 75)).alloc (.c #[.q k,.q G,.q I] 75)).cell? (((C (w3.heap.size+1) 0):xr).add j)=A u):=Hf (cs:=#[.q k,.q G,.q I]) (t:=75) (by have:=ř (w3.alloc (.c #[.q k,.q G,.q I] 75)) (.c #[.q k,.q G,.q I] 75);simpa using this);have cc:Hid (((w3.alloc (.c #[.q k,.q G,.q I] 75)).alloc (.c #[.q k,.q G,.q I] 75)).cell? (C w3.heap.size 2)=A (.q I)):=jf ba sm;have a6:Hid (w.heap.size<=((w3.alloc (.c #[.q k,.q G,.q I] 75)).alloc (.c #[.q k,.q G,.q I] 75)).heap.size/\w3.heap.size<((w3.alloc (.c #[.q k,.q G,.q I] 75)).alloc (.c #[.q k,.q G,.q I] 75)).heap.size):=⟨aL.o.d.size,by simp;omega⟩
    have b':Hid (A w3.heap.size≠u7.ownBlock):=λe=>by
     have:=(AC a4.o.E e.symm).2;omega
    go_wp2_with (at_builtin;go_must (refine xl _ J _ _ 42 J w.heap.size 75 co (.agg #[.q 0,.q 0,.q 0]) 3 24 Ix cJ ck cQ cG J dc u7 E.p.length (Î E.p) J aL.o.E (C (w3.heap.size+1) 0) 1 1 (Î [⟨k,G,I⟩]) J J bK.o (Kj _) dc (by unfold s7;omega) N a6.o.1 _ J ?_;intro cx cI cf a7 aN bc b9;have dl:=(aN.cell_far (C w3.heap.size 2) a6.o.2 b'.o).trans cc.o;have b0:=Io (FY.I O.o.1 O.o.2.1 aL.o a7 aN bc _ b8.o J J);clear a7 aN bc b9))
    go_roundg (î ps (⟨E.p++[⟨(k:Nat),G,I⟩],I,V,Q.h E.q⟩:St U))
    case measure=>
     refine X4 ?_ ?_
     . simp[ao.o.1]
     have ac:=bx.o;rw[ao.o.1]at ac;rw[aj.o];omega
    case rel=>exact⟨_,an,J,J,J,b0.o⟩
   obtain am|⟨am,a3⟩:=cT.o
   .
    go_wp2_with fail;refine bl.o.mono ?_
    rintro e w1⟨rfl,aa⟩;have bZ:=Io aa;clear aa;go_wp2
    go_ret;obtain⟨al,bw,j,-,a9⟩:=ak.o.parts O.o.1 O.o.2.1 bZ.o;exact⟨E,u7,J,aq.o,by rw[ab.o.1];omega,by rw[bh.o];omega,bw,a9,al,j⟩
   obtain⟨b,off,rfl,a0⟩:=cD.o am;have cn:=a0 wr ak.o.d;have b:=Io a0;clear a0;go_wp2_with fail;refine bl.o.mono ?_
   rintro e w1⟨rfl,aa⟩;have k:Q.a E.q=Q.m E.q:=Æ (by rw[bh.o];omega);rw[k]at aa;obtain⟨al,bw,j,c,a9⟩:=ak.o.parts O.o.1 O.o.2.1 aa;have l:=b.o w1 a9;have bp:=qV bw j c a9;clear aa k bw j c a9;go_wp2
   go_roundg (î ps (⟨E.p,Ay ps V,V,Q.m E.q⟩:St U))
   case measure=>
    have ac:=bx.o;have c':=ao.o.2.2;have c:=cL.o.k.b a2.o.1;rw[ao.o.1]at ac;rw[ab.o.1]at c';have bv:s.e=V:=N;refine pW (by simp[ao.o.1]) bv.symm ?_ ?_ ?_
    . rw[aj.o,bv];exact am
    . rw[bv,cp.o];exact a3
    rw[bv];exact Ā _
   case rel=>
    obtain⟨p,Y,-⟩:=Ao ps V (by rw[aj.o];exact am);have ap:Â Q per ps ai ⟨E.p,p.a,E.e,Q.m E.q⟩:=.m E p aq.o (by rw[ab.o.1];exact Y) (by rw[ab.o.2,<-AQ Y];exact a3) (by rw[bh.o];omega);rw[ab.o.1,<-AQ Y]at ap;exact⟨_,al,J,J,J,ap,bp.o.1,bp.o.2.1,bp.o.2.2.1,bp.o.2.2.2⟩
def VE{U}(Q:Ě U) E per ps G B(V O I:Vl)(ap:Kw E B)(ab:MK Q per ps G)(ak:Ar ps)(ai:1<=per)(Z:per<=1000)
  (ax:∀w D s p,Â Q per ps G s->ps[s.e]? = A p->E w D s.q->Ë 207 #[.agg #[V,O,I],.q s.e] w λe w'=>e=.r (.t #[])/\Bh E w w' D (Q.e s.q s.e))
  (an:∀w D s,Â Q per ps G s->0<Q.rest s.q->E w D s.q->Ë 208 #[.agg #[V,O,I]] w λe w'=>e=.r (.q (Q.pick s.q:Nat))/\Bh E w w' D (Q.h s.q))
  (ao:∀w D s,Â Q per ps G s->E w D s.q->Ë 209 #[.agg #[V,O,I]] w λe w'=>e=.r (.q (Q.rest s.q:Nat))/\Bh E w w' D (Q.a s.q))
  (a:oA) cap(w:M)(am:AL w a ps)(aw:B<=w.heap.size)(av:∀ad,a=A ad->0<ps.length->ad.block<B) Y(aa:E w Y G):
  Ë 110 #[.s a ps.length cap,.q per,.f 225 (.agg #[V,O,I])] w λe w'=>∃s v,e=.r v/\Â Q per ps G s/\¬s.e<ps.length/\Q.rest s.q=0/\Dz w' w.heap.size v s.p/\Below B w w':=
 (XE Q E per ps G B V O I ap ab ak ai Z ax an ao a cap w am aw av Y aa).mono λ_ _⟨s,v,e,X,W,R,S,T,_⟩=>⟨s,v,e,X,W,R,S,T⟩
def OM{ps k p}(G:Ar ps)(E:ps[k]? = A p):∃m:Nat,m<8/\p.b=(m:Int)/\Aj ps k=m:=by
 obtain⟨I,O,-⟩:=Bw (G.d _ p E).1;exact⟨_,N,N,G8 E⟩
def TW{E:lZ}(h:E.length=8){m}(G:m<8):∃x,E[m]? = A x/\E.getD m 0=x:=sL
def yZ ps(E:lZ) Y am(ao:oA) av(aa:oA) aw(w:M) k(aq:w.cell? (C Y 0)=A (.s ao ps.length av))(aB:w.cell? (C am 0)=A (.s aa E.length aw))(ai:AL w ao ps)(al:Bc w aa E)(G:Ar ps)(I:E.length=8)(V:k<ps.length):s8 sr 113 #[.q (k:Int),.pp am 0,.pp Y 0] w λe w'=>e=.r (.q (Gi ps E k))/\∃m,w'=w.drewN m:=by
 obtain⟨p,O,-⟩:=Ao ps k V;have⟨m,b,S,Z⟩:=OM G O;have⟨x,W,U⟩:=TW I b;obtain⟨b,off,rfl,-,X⟩:=ai.h N;obtain⟨n,n,rfl,-,T⟩:=al.h N;have n:w.cell? (C b (off+k*3))=A (.q (m:Int)):=S▸(X k p O).1
 have b:=T m x W;let b:Gi ps E k=x:=by rw[Gi,Z];exact U
 let p:=G.j;obtain⟨n,n⟩:=ex ps.length;rw[n]at aq V p;rw[I]at aB;rw[b];clear ai al X T O W G I b U n Z S;go_in
 go_wp2
 go_quiet (fail);go_wp2
 go_ret;exact⟨J,_,J⟩
def qo ps(G:lZ) ab ap(av:oA) ax(aj:oA) aB(w:M) k(aw:w.cell? (C ab 0)=A (.s av ps.length ax))(aE:w.cell? (C ap 0)=A (.s aj G.length aB))(am:AL w av ps)(ao:Bc w aj G)(U:Ar ps)(I:Ef 0 1099511627776 G)(aa:k<ps.length):s8 sr 115 #[.q (k:Int),.pp ab 0,.pp ap 0] w λe w'=>e=.r (.q (Ay ps k+Gi ps G k))/\∃m,w'=w.drewN m:=by
 obtain⟨p,E,-⟩:=Ao ps k aa;have⟨m,b,X,T⟩:=OM U E;have⟨x,V,Z⟩:=TW I.len b;obtain⟨b,off,rfl,-,Y⟩:=am.h N;obtain⟨n,n,rfl,-,W⟩:=ao.h (oe I.len);have n:w.cell? (C b (off+k*3))=A (.q (m:Int)):=X▸(Y k p E).1
 have⟨t,O⟩:=ex p.a;have n:w.cell? (C b (off+k*3+2))=A (.q t):=O▸(Y k p E).2.2
 have b:=W m x V;obtain⟨b,b⟩:=(show 0<=t/\t<=1099511627776 by rw[<-O];have:=Bw (U.d _ p E).1;omega)
 obtain⟨b,b⟩:=I.d m x V;let b:Ay ps k+Gi ps G k=t+x:=by rw[Gi,T,Z,AQ E,O]
 let S:=U.j;let p:=I.len;obtain⟨n,n⟩:=ex ps.length;rw[n]at aw aa S;rw[p]at aE;rw[b];have S:IntKind.i64.wrap (t+x)=t+x:=Ĵ _ N;clear am ao Y W E V U I b Z n T X p O;go_in
 go_wp2
 go_quiet (fail);go_wp2
 go_ret;exact⟨J,_,J⟩
def pz E x g(w:M)(I:w.cell? (C g 0)=A (.q E))(h:0<=x/\x<=E):s8 sr 141 #[.q x,.pp g 0] w λe w'=>e=.r (.bool true)/\w'=w:=by
 have⟨G,O⟩:=h;go_in
 go_wp2
 go_ret;exact⟨J,J⟩
def yK E x g(w:M)(U:w.cell? (C g 0)=A (.q E))(h:¬(0<=x/\x<=E)):s8 sr 141 #[.q x,.pp g 0] w λe w'=>e=.r (.bool false)/\w'=w:=by
 by_cases I:0<=x
 .
  have O:¬x<=E:=λG=>h ⟨I,G⟩
  clear h;go_in
  go_wp2
  go_ret;exact⟨J,J⟩
 clear h;go_in
 go_wp2
 go_ret;exact⟨J,J⟩
def GR (a:oA) n cap(f:Vl)(w:M)(ad:Nat->xr)(h:n≠8)(I:w.cell? (C 0 0)=A (.f 255 (.p (A (ad 2))))):s8 sr 116 #[.s a n cap,f] w λe w'=>e=.r (.f 255 (.p (A (ad 2))))/\w'=w:=by
 let E:(n:Int)≠8:=N;let G:((n:Int)==8)=false:=sx E
 go_in
 go_wp2
 go_ret;exact⟨J,J⟩
def Nl (a:oA) cap(G:lZ) I g(w:M)(ad:Nat->xr)(ac:w.cell? (C g 0)=A (.q I))(ab:Bc w a G)(aa:G.length=8) j(av:j<=8)(U:∀(i) y,i<j->G[i]? = A y->0<=y/\y<=I)(R:Vl)
  (h:(j=8/\R=.n)\/(R=.f 255 (.p (A (ad 1)))/\w.cell? (C 1 0)=A (.f 255 (.p (A (ad 1))))/\∃x,G[j]? = A x/\¬(0<=x/\x<=I))):
  Calls sr 116 #[.s a 8 cap,.func (.func 141) #[] #[.pp g 0]] w λe w'=>e=.r R/\w'=w:=by
 have W:=Io U;have O:=Io h;obtain⟨b,off,rfl,-,Y⟩:=ab.h N;have Z:=Io Y;have V:=Io aa;clear U h ab Y aa;go_in
 go_wp21;go_loopw[13] (λi b=>∃k:Nat,k<=j/\i=.q k/\b=w)(λi _=>8-(intOf i).toNat)
 case atStart=>exact⟨0,uD _,J,J⟩
 case round=>
  obtain⟨k,b,rfl,rfl⟩:=hrel;by_cases b:k<j
  .
   obtain⟨x,E,-⟩:=Ao G k (oe V.o);have X:=W.o k x b E;have b:=Z.o k x E;clear E;go_wp21;apply(pz I x g _ ac X).mono
   rintro e X⟨rfl,rfl⟩;go_wp2
   go_roundw
   case rel=>exact⟨k+1,N,nd,sk⟩
   case measure=>simp[intOf];omega
  obtain rfl:k=j:=N;obtain⟨rfl,rfl⟩|⟨rfl,b,x,E,Y⟩:=O.o
  .
   go_wp2
   go_ret;exact⟨J,J⟩
  have b:=Z.o k x E;have b:k<8:=by
   rw[<-V.o];obtain O|O:=nR k G.length
   exact O
   simp[ą O]at E
  clear E;go_wp21;apply(yK I x g _ ac Y).mono
  rintro e X⟨rfl,rfl⟩;go_wp2
  go_ret;exact⟨J,J⟩
def MR (w:M)(ad:Nat->xr):=w.cell? (C 1 0)=A (.f 255 (.p (A (ad 1))))/\w.cell? (C 0 0)=A (.f 255 (.p (A (ad 2))))
def MR.d{w w':M}{ad}(h:MR w ad)(E:zW w w'):MR w' ad:=⟨jf E h.1,jf E h.2⟩
def KJ{R:Vl}(a:oA) n cap E(w:M)(h:Ë 116 #[.s a n cap,.func (.func 141) #[] #[.pp w.heap.size 0]] (w.alloc (.c #[.q E] 3)) λe w'=>e=.r R/\w'=w.alloc (.c #[.q E] 3)):s8 sr 112 #[.s a n cap,.q E] w λe w'=>e=.r R/\zW w w':=by
 have G:=Io h;clear h;go_in
 go_wp21;apply G.o.mono
 rintro e G⟨rfl,rfl⟩;go_wp2
 go_ret;exact⟨J,ba⟩
def Qt (a:oA) cap(G:lZ) E(w:M)(O:Bc w a G)(I:Ef 0 E G):qW 112 #[.s a G.length cap,.q E] w .n:=by
 let V:zW w (w.alloc (.c #[.q E] 3)):=ba;rw[I.len];exact KJ a 8 cap E w (Nl a cap G E w.z _ (λ_=>(C 0 0)) sm (O.d V) I.len 8 lr (λi y _ U=>I.d i y U) .n (.inl ⟨J,J⟩))
def O5 (a:oA) cap(I:lZ) E w ad(Y:MR w ad)(aa:Bc w a I) c(h:BK 0 E I c)(ac:0<c):qW 112 #[.s a I.length cap,.q E] w (Ha ad c):=by
 let V:zW w (w.alloc (.c #[.q E] 3)):=ba;obtain⟨rfl,G⟩|⟨rfl,j,G,O,X⟩|⟨rfl,-⟩:=h
 exact KJ a _ cap E w (GR a _ cap _ _ ad G (Y.d V).2)
 .
  rw[G];let Z:j<=8:=by
   obtain⟨x,O,-⟩:=O;rw[<-G];obtain U|U:=nR j I.length
   exact ŕ U
   simp[ą U]at O
  exact KJ a 8 cap E w (Nl a cap I E w.z _ ad sm (aa.d V) G j Z X _ (.inr ⟨J,(Y.d V).1,O⟩))
 omega
variable {w w':M}{B k:Nat}{v:Vl}{F:Nat ->Prop}{xs:lN}{P:pG}
def Ý (xs:lN):List Vl:=xs.map λ(k:Nat)=>.q (k:Int)
def à xs:(Ý xs).length=xs.length:=by simp[Ý]
def ģ a b:Ý (a++b)=Ý a++Ý b:=by simp[Ý]
structure BG (w:M)(B:Nat)(v:Vl)(F:Nat->Prop)(xs:lN):Prop where
 d:∃ao b off cap,v=.s ao xs.length cap/\Came w 1 ao b off xs.length cap (Ý xs)/\cap<=s7/\(0<cap->F b)
 a:∀k,F k->B<=k/\k<w.heap.size
def BG.nil w B:BG w B (.sn) (λ_=>False) []:=
 ⟨⟨_,0,0,0,J,⟨lr,λh=>absurd h (ų _),λh=>absurd h (ų _),J,λj u h=>by simp[Ý]at h,λj h=>oF h⟩,uD _,λh=>absurd h (ų _)⟩,λ_ h=>h.elim⟩
def BG.r{S}(h:BG w B v F xs)(G:Ç S w w')(U:∀k,F k->¬S k):BG w' B v F xs:=by
 obtain⟨j,b,off,cap,rfl,⟨u,V,O,E,X,W⟩,Z,I⟩:=h.d;refine⟨⟨j,b,off,cap,J,⟨u,V,λh=>rZ (O h) G.h,E,λj u Y=>?_,λj T=>?_⟩,Z,I⟩,λk V=>⟨(h.a k V).1,rZ (h.a k V).2 G.h⟩⟩
 .
  let E:0<cap:=by
   have:=(ŭ.1 Y).1;rw[à]at this;omega
  rw[G.E (p:=(C b (off+j))) (O E) (U b (I E))];exact X j u Y
 let E:0<cap:=N;rw[G.E (p:=⟨b,_,_⟩) (O E) (U b (I E)),G.s (p:=⟨b,_,_⟩) (O E) (U b (I E))];exact W j T
def BG.h (h:BG w B v F xs):∃E cap,v=.s E xs.length cap/\xs.length<=cap/\cap<=maxLen:=by
 obtain⟨E,b,off,cap,rfl,I,G,-⟩:=h.d;exact⟨E,_,J,I.le,G⟩
def BG.first (h:BG w B v F (k::xs)):∃b off cap,v=.sl b off (xs.length+1) cap/\xs.length+1<=cap/\cap<=s7/\w.cell? (C b off)=A (.q (k:Int))/\F b/\
   (1<cap->BG w B (.sl b (off+1) xs.length (cap-1)) F xs)/\(cap=1->xs=[]/\BG w B (.sl b off 0 0) F []):=by
 obtain⟨j,b,off,cap,rfl,⟨O,Z,j,u,U,G⟩,Y,V⟩:=h.d;simp only[Ċ]at O G;let E:0<cap:=N;obtain rfl:=Z E;refine⟨b,off,cap,J,O,Y,sx (U 0 _ J),V E,λI=>⟨⟨_,b,off+1,_,J,⟨N,λ_=>J,λ_=>j E,by simp[Ý],λj u O=>?_,λj I=>?_⟩,N,λ_=>V E⟩,h.a⟩,λI=>?_⟩
 have:=U (j+1) u (by simpa[Ý]using O);rwa[show off+(j+1)=off+1+j by omega]at this
 have:=G j N;rwa[show off+(xs.length+1)*1+j=off+1+xs.length*1+j by omega]at this
 subst I;let j:xs=[]:=Ğ.1 N;exact⟨j,⟨A (C b off),b,off,0,J,⟨lr,λh=>absurd h (ų _),λh=>absurd h (ų _),J,λj u h=>by simp[Ý]at h,λj h=>oF h⟩,uD _,λh=>absurd h (ų _)⟩,h.a⟩
def BG.e{I:oA}{b off cap}(G:Came w 1 I b off xs.length cap (Ý xs))(ab:cap<=s7)(Z:0<cap->F b)(aa:∀k,F k->B<=k/\k<w.heap.size)(ak:xs.length+1<=cap):BG (w.setCells b (off+xs.length*1) (Ý [k])) B (.s I (xs.length+1) cap) F (xs++[k])/\Ç F w (w.setCells b (off+xs.length*1) (Ý [k])):=by
 let h:0<cap:=N;let U:Ç F w (w.setCells b (off+xs.length*1) (Ý [k])):=Ç.g (S:=F) (Ç.I _ w) (p:=(C b (off+xs.length*1))) (Z h) (.q (k:Int));refine⟨⟨⟨I,b,off,cap,sm,⟨sx ak,G.addr,λh=>rZ (G.lt h) U.h,by simp[Ý],λj u E=>?_,λj O=>?_⟩,ab,Z⟩,λk V=>⟨(aa k V).1,rZ (aa k V).2 U.h⟩⟩,U⟩
 .
  rw[ģ]at E;by_cases O:j<xs.length
  rw[č (rj à O)]at E;rw[E6 b _ _ _ _ (λ_ _=>Or.inl (by show off+j<off+xs.length*1;omega))];exact G.olds j u E
  rw[Ţ (ot à),à]at E;let h:=(ŭ.1 E).1;have:(Ý [k]).length=1:=rfl;let h:j-xs.length=0:=N;rw[h]at E;let h:=(G.spare 0 N).1;rw[show off+j=off+xs.length*1+0 by omega];let p:(w.setCells b (off+xs.length*1) (Ý [k])).cell? (C b (off+xs.length*1+0))=A (.q (k:Int)):=ś w (C b (off+xs.length*1)) _ h;rw[p];exact E
 simp only[ý,Ċ,Ġ]at O⊢;let Y:=G.spare (j+1) N;rw[show off+(xs.length+(0+1))*1+j=off+xs.length*1+(j+1)by omega];refine⟨?_,?_⟩
 rw[E6 b _ _ _ _ (λ_ _=>Or.inr (by show off+xs.length*1+(Ý [k]).length<=off+xs.length*1+(j+1);have:(Ý [k]).length=1:=rfl;omega))];exact Y.1
 rw[World.frozen?_setCells];exact Y.2
def Rq (w w':M)(B:Nat)(F:Nat->Prop)(G:oA)(n cap:Nat)(xs:lN):=
 ∃E,BG w' B (.s G n cap) E xs/\(∀k,E k->F k\/w.heap.size<=k)/\Ç F w w'
def BG.I{e:Nat}{v':Vl}(av:B<=w.heap.size)(ac:w'.ownsRow w.heap.size e 1 v' (xs.length+1) (Ý xs++Ý [k]))(E:w.grownBy w' none):∃Y cap,v'=.s Y (xs.length+1) cap/\Rq w w' B F Y (xs.length+1) cap (xs++[k]):=by
 let W:Ç F w w':=⟨E.os,E.tape,E.output,E.size,λi G _=>E.block i G sm⟩
 obtain⟨i,⟨_,g⟩|⟨g,O,cur,rfl,V,I,j,G,h,u⟩⟩:=ac
 omega
 let X:w'.ownsRow w.z e 1 (.sl g 0 (xs.length+1) O) (xs.length+1) (Ý xs++Ý [k]):=⟨i,.inr ⟨g,O,cur,J,V,I,j,G,h,u⟩⟩
 let Z:g<w'.z:=by
  obtain h|h:=nR g w'.z
  exact h
  simp[Χ h]at I
 refine⟨_,_,J,λi=>i=g,⟨⟨_,g,0,O,sm,⟨sx j,λ_=>J,λ_=>Z,by simp[Ý],λj u U=>?_,λj u=>?_⟩,G,λ_=>J⟩,λi G=>by subst G;exact⟨N,Z⟩⟩,λi G=>by subst G;exact .inr V,W⟩
 rw[ģ]at U;let h:=(ŭ.1 U).1;rw[ý,à]at h;have:(Ý [k]).length=1:=rfl;rw[Ă,X.cellAt _ N];exact U
 simp only[ý,Ċ,Ġ]at u⊢;let h:xs.length+1+j<cur.size:=N;rw[show 0+(xs.length+(0+1))*1+j=xs.length+1+j by omega];refine⟨?_,?_⟩
 rw[cell_of_row w' g _ _ e _ I,ÿ h];rfl
 exact frozen_of_row w' g _ _ e I
def Md w(t ty e:tI) i(z:Vl) U(Z:P.underlying t=A (.slice e))(ac:P.info? e=A i)(al:i.zero=A z)(I:i.size=1)(am:i.bytes=U)(ap:z.cells.size=1) B v F(k:Nat) xs(h:BG w B v F xs)(an:B<=w.heap.size) ad c(aB:w.cell? ad=A (.q (k:Int)))(ak:xs.length+1<=s7)(aq:(xs.length+1)*U<=140737488355328):
  ∃O cap w',(Builtin.append_ #[t,t] ty #[v,.slice (A ad) 1 c]).run P w=.ok (.slice O (xs.length+1) cap) w'/\Rq w w' B F O (xs.length+1) cap (xs++[k]):=by
 let Y:=h.a;obtain⟨O,b,off,cap,rfl,E,W,V⟩:=h.d;let X:∀j u,(Ý [k])[j]? = A u->w.cell? (ad.add j)=A u:=by
  intro j u G;let S:=(ŭ.1 G).1;have:(Ý [k]).length=1:=rfl;obtain rfl:j=0:=N;let j:ad.add 0=ad:=by cases ad;simp[Addr.add]
  rw[j,aB];exact G
 let T:∀u∈Ý [k],u.oneCell'=true:=by
  intro u G;simp[Ý]at G
  subst G;rfl
 let G:(Ý xs).length=xs.length*1:=by rw[à,jL]
 by_cases u:xs.length+1<=cap
 .
  obtain rfl:=E.addr N;let hrun:=run_append_room_cells (P:=P) w t ty e i Z ac b off xs.length cap ad 1 c (Ý [k]) (oB I) X T u
   (λj b=>I▸(E.spare j (by have:(Ý [k]).length=1:=rfl;omega)).1) (λj b=>I▸(E.spare j (by have:(Ý [k]).length=1:=rfl;omega)).2)
  rw[I]at hrun;have⟨j,b⟩:=BG.e (k:=k) E W V Y u;exact⟨_,_,_,hrun,F,j,λ_ h=>.inl h,b⟩
 cases O with
 |some b=>
  have⟨v',w',hrun,V,W⟩:=run_append_arg_grows (P:=P) w t ty e i z 1 U Z ac al I am ap dc b xs.length cap (Ý xs) G (λj u G=>by
   let S:=(ŭ.1 G).1;let S:=E.le;let b:=E.addr N;cases b
   rw[κ];exact E.olds j u G) ad 1 c (Ý [k]) J X N ak aq
  obtain⟨u,j,rfl,b⟩:=BG.I (F:=F) an V W;exact⟨_,_,w',hrun,b⟩
 |none=>
  have b:cap=0:=by
   obtain Y|Y:=Ģ cap
   exact Y
   cases E.addr Y
  let S:=E.le;have j:xs=[]:=Ğ.1 N;subst j b;have⟨v',w',hrun,V,W,_⟩:=run_append_own (P:=P) w w.z t ty e i z 1 U Z ac al I am ap dc (.sn) 0 [] (Ĉ w _ e 1) ad 1 c (Ý [k]) J X T ak aq lr;obtain⟨u,j,rfl,b⟩:=BG.I (xs:=[]) (F:=F) an V W;exact⟨_,_,w',hrun,b⟩
def JM w{ops:aO}{rest o}{a:Act}{Q:Exit->Act->M->Prop}(G:o.guard=none) s x(t:tI)
  (I:o.op=.call {callee:=.builtin .append,args:=#[s,x],argTypes:=#[t,t]})
  (e:tI) i(z:Vl) bytes(ht:P.underlying t=A (.slice e))(hi:P.info? e=A i)(hz:i.zero=A z)(hsize:i.size=1)(hby:i.bytes=bytes)(hzs:z.cells.size=1) B(v:Vl) F(k:Nat) xs(hs:a.eval s=v)(h:BG w B v F xs)(hBw:B<=w.heap.size) ad c(hx:a.eval x=.slice (A ad) 1 c)(hk:w.cell? ad=A (.q (k:Int)))(h63:xs.length+1<=s7)(hbytes:(xs.length+1)*bytes<=140737488355328)
  (hK:∀E cap w',Rq w w' B F E (xs.length+1) cap (xs++[k])->wpList P ops Q rest (a.put o.dst (.slice E (xs.length+1) cap)) w'):wpList P ops Q (o::rest) a w:=by
 refine wpList_plain G λK U=>?_
 have⟨E,cap,w',hrun,O⟩:=Md (P:=P) w t o.type e i z _ ht hi hz hsize hby hzs B v F k xs h hBw ad c hk h63 hbytes;unfold Oper.wp;simp[execOp,I,resolve,invoke,builtin,hs,hx,hrun]
 exact U _ _ (hK E _ w' O)
end Go.Proofs.YtaoikkhlnhfkfaaGreatDoor
