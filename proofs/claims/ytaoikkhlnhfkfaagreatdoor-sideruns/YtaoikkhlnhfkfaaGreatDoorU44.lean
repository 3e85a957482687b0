import Derived.Test.YtaoikkhlnhfkfaaGreatDoorU00
import Derived.Test.YtaoikkhlnhfkfaaGreatDoorU43
set_option maxHeartbeats 40000000
set_option maxRecDepth 100000
set_option linter.defProp false
set_option linter.unusedSimpArgs false
set_option linter.unusedVariables false
namespace Go.Proofs.YtaoikkhlnhfkfaaGreatDoor
open Option renaming some->A,none->sA
open Go renaming maxLen->s7,madeCells->sC,World->tz,wpList_append_lies->xl
open Bool renaming false->ss,true->sy
open Proofs.Tryz renaming prog->sr,underlying23->ue
open RowKit renaming Hid->sE
open IntKind renaming i64->ua
open Go.RowKit
def qN (xs:lN):Ý xs=É (Au xs):=by simp[Ý,É,Au]
def BG.g{w:M}{B e:Nat}{v:Vl}{xs:lN}(h:w.ownsRow B e 1 v xs.length (É (Au xs))):BG w B v (λk=>v.ownBlock=A k) xs:=by
 let X:=h;obtain⟨b,⟨rfl,V⟩|⟨g,U,cur,rfl,Z,G,T,W,b,b⟩⟩:=h
 . have b:xs=[]:=Ğ.1 V;subst b;let⟨u,b,off,cap,E,O,i,j⟩:=(BG.nil w B).d;exact⟨⟨u,b,off,cap,E,O,i,λh=>(j h).elim⟩,nofun⟩
 let I:=ī G;refine⟨⟨_,g,0,U,J,⟨T,λ_=>J,λ_=>I,by rw[à,jL],λj u E=>?_,λj b=>?_⟩,W,λ_=>J⟩,λi u=>?_⟩
 . rw[qN]at E;let b:=(ŭ.1 E).1;rw[Jl,AJ]at b;rw[Ă,X.cellAt _ N];exact E
 . let b:xs.length+j<cur.size:=N;rw[show 0+xs.length*1+j=xs.length+j by omega];exact⟨by rw[cell_of_row w g _ cur e (0,0) G,ÿ b];rfl,frozen_of_row w g _ cur e G⟩
 have e:g=i:=Ö u;subst e;exact⟨Z,I⟩
def BG.cells{w:M}{B}{v:Vl}{F}{xs:lN}(h:BG w B v F xs):∃E cap,v=.s E xs.length cap/\xs.length<=cap/\cap<=s7/\(E=sA->xs=[]/\cap=0)/\Bc w E (Au xs)/\∀ad,E=A ad->∀(j k:Nat),xs[j]? = A k->w.cell? (C ad.block (ad.off+j))=A (.q (k:Int)):=by
 obtain⟨E,b,off,cap,rfl,I,e,i⟩:=h.d;let Y:=I.le;let key:∀(j k:Nat),xs[j]? = A k->E=A (C b off)/\w.cell? (C b (off+j))=A (.q (k:Int)):=λj k U=>by
  let i:=(ŭ.1 U).1;refine⟨I.addr N,I.olds j _ ?_⟩;simp[Ý,U]
 refine⟨E,cap,J,Y,e,λe=>?_,?_,λad Z j k U=>?_⟩
 .
  let G:cap=0:=by
   obtain G|G:=Ģ cap
   . exact G
   rw[I.addr G]at e;cases e
  exact⟨Ğ.1 N,G⟩
 .
  cases xs with
  |nil=>exact .inl J
  |cons k r=>
   refine .inr ⟨b,off,(key 0 k J).1,I.lt (by simp at Y;omega),λi x O=>?_⟩;simp only[Au,τ]at O;cases V:(k::r)[i]? with
   |none=>rw[V]at O;cases O
   |some z=>
    rw[V]at O;let e:(z:Int)=x:=by simpa using O
    rw[<-e];exact(key i z V).2
 let⟨b,e⟩:=key j k U;rw[b]at Z;cases Z
 exact e
def TB{P:pG}(w:M)(t ty e:tI) i(z:Vl)(V:P.underlying t=A (.slice e))(Z:P.info? e=A i)(aj:i.zero=A z)(ab:i.size=1)(ak:i.bytes=8)(an:z.cells.size=1)
  (I:oA) O(E:lZ)(am:Bc w I E)(aa:I=sA->E=[]/\O=0)(aq:E.length<=1000):
  ∃v w',(Builtin.append_ #[t,t] ty #[.sn,.slice I E.length O]).run P w=.ok v w'/\w'.ownsRow w.heap.size e 1 v E.length (É E)/\zW w w':=by
 cases I with
 |none=>
  obtain⟨rfl,rfl⟩:=aa J;exact⟨_,w,run_append_owned_none (P:=P) w w.z t ty e i 1 V Z (.sn) 0 [] (Ĉ ..),Ĉ ..,br⟩
 |some k=>
  let X:∀j u,(É E)[j]? = A u->w.cell? (k.add j)=A u:=by
   intro j u G;obtain rfl|⟨b,off,e',-,b⟩:=am
   . simp[É]at G
   cases e'
   rw[κ];simp only[É,τ]at G;cases U:E[j]? with
   |none=>rw[U]at G;cases G
   |some x=>
    rw[U]at G;rw[b j x U];simpa using G
  let⟨v',w',hrun,Y,b,j⟩:=run_append_own (P:=P) w w.z t ty e i z 1 8 V Z aj ab ak an dc (.sn) 0 [] (Ĉ ..) k E.length O (É E) (by rw[Jl,jL]) X (Ff _) (by unfold s7;omega) N lr;rw[Ă,List.nil_append]at Y;exact⟨v',w',hrun,Y,br.grown b lr (nofun)⟩
def Pv{P:pG}(w:M){ops:aO}{rest o a}{Q:Exit->Act->M->Prop}(E:o.guard=sA) s x(t:tI)
  (I:o.op=.call {callee:=.builtin .append,args:=#[s,x],argTypes:=#[t,t]})
  (e:tI) i(z:Vl)(ht:P.underlying t=A (.slice e))(hi:P.info? e=A i)(hz:i.zero=A z)(hsize:i.size=1)(hby:i.bytes=8)(hzs:z.cells.size=1)
  (na:oA) ncap n(ns:lZ)(hnn:ns.length=n)(hs:a.eval s=.sn)(hx:a.eval x=.slice na n ncap)(hl:Bc w na ns)(hna:na=sA->ns=[]/\ncap=0)(hn:n<=1000)
  (hK:∀v w',w'.ownsRow w.heap.size e 1 v n (É ns)/\zW w w'->wpList P ops Q rest (a.put o.dst v) w'):wpList P ops Q (o::rest) a w:=by
 subst hnn;refine wpList_plain E λK U=>?_
 let⟨v,w',hrun,O,G⟩:=TB (P:=P) w t o.type e i z ht hi hz hsize hby hzs na ncap ns hl hna hn;unfold Oper.wp;simp[execOp,I,resolve,invoke,builtin,hs,hx,hrun,Result.andThen]
 exact U _ _ (hK v w' ⟨O,G⟩)
def nV (w:M) n(t u:tI):Dq w (((w.alloc (.c (sC #[.bool ss] n) t)).alloc (.c (sC #[.bool ss] n) t)).alloc (.c (sC #[.q 0] 8) u)) w.heap.size (w.heap.size+1) (w.heap.size+2) n (.sn) [] 0 (λ_=>0) (.sn) (λ_=>False) []:=by
 let h:(w.alloc (.c (sC #[.bool ss] n) t)).heap.size=w.heap.size+1:=sm;let Z:((w.alloc (.c (sC #[.bool ss] n) t)).alloc (.c (sC #[.bool ss] n) t)).heap.size=w.heap.size+2:=sm;let I:zW w (w.alloc (.c (sC #[.bool ss] n) t)):=ba;let V:zW w ((w.alloc (.c (sC #[.bool ss] n) t)).alloc (.c (sC #[.bool ss] n) t)):=I.alloc I.size _;let I:=V.alloc V.size (.c (sC #[.q 0] 8) u);let e:=RD w n t;let G:=Yf (w.alloc (.c (sC #[.bool ss] n) t)) n t;let O:=rf ((w.alloc (.c (sC #[.bool ss] n) t)).alloc (.c (sC #[.bool ss] n) t)) u;rw[h]at G;rw[Z]at O;let Y:Below (w.alloc (.c (sC #[.bool ss] n) t)).heap.size (w.alloc (.c (sC #[.bool ss] n) t)) ((w.alloc (.c (sC #[.bool ss] n) t)).alloc (.c (sC #[.bool ss] n) t)):=ba;let E:Below ((w.alloc (.c (sC #[.bool ss] n) t)).alloc (.c (sC #[.bool ss] n) t)).heap.size ((w.alloc (.c (sC #[.bool ss] n) t)).alloc (.c (sC #[.bool ss] n) t)) (((w.alloc (.c (sC #[.bool ss] n) t)).alloc (.c (sC #[.bool ss] n) t)).alloc (.c (sC #[.q 0] 8) u)):=ba;let U:=e.e (Y.block _ e.G) Y.size;exact⟨Ĉ ..,U.e (E.block _ U.G) E.size,G.e (E.block _ G.G) E.size,O,BG.nil ..,⟨N,N,N⟩,⟨(nofun),(nofun),(nofun)⟩,⟨id,id,id,λ_ h=>h.elim⟩,⟨lr,N,N⟩,I⟩
variable {f O V Z n:Nat}{w:M}{v:Vl}{o:List Sn}{cr:Nat ->Int}{F:Nat ->Prop}{row:lN}
def UT (per:Int)(ps:List Pk)(E:lZ)(w:M)(e:Ending)(w':M):=∃v l,e=.r v/\Dz w' w.heap.size v l/\ES per ps E l/\zW w w'
def sD{d:Ð}{B}(h:B=sy↔(d.i=A f\/f∈d.row)):B=sy↔f∈d.g:=by
 rw[h];unfold Ð.g;cases d.i with
 |none=>simp
 |some g=>simp[eq_comm]
def Fy.b{per ps}{O:lZ}{I}{E:Ð}{q}{r:lN}{z}(h:Fy per ps O I (E.p q f r) f V z):∃G,Fy per ps O I G f V z/\G.cr=A8 E.cr f (E.cr f+q f)/\G.row=r:=⟨_,h,J,J⟩
def Dq.p{X:M}{G}{I:Vl}{E}(h:Dq w X Z V G n v o O cr I F row)(e:E=row):=e▸h
def Dq.m{E U:M}{G aa l I}{ak:Vl}(h:Dq w E Z V G n v o aa cr ak F row)(Y:U.ownsRow E.heap.size 3 1 (.sl O 0 (l+1) I) (l+1) (É (Au row)++É [(f:Int)]))(aj:zW E U)(ai:(Au row).length=l):Dq w U Z V G n v o aa cr (.sl O 0 (l+1) I) (λk=>(Value.sl O 0 (l+1) I).ownBlock=A k) (row++[f]):=by
 let X:U.ownsRow w.z 3 1 (.sl O 0 (l+1) I) (row++[f]).length (É (Au (row++[f]))):=by
  rw[ý,FJ,<-AJ row,ai];exact BA Y h.d.size
 exact h.j (.e aj) (BG.g X) (λk X=>.inr (AC Y X).1)
def nB{q:Prop}(h:q:=by
 go_wp2
 go_roundg (n-(k+1))
 case measure=>omega
 case rel=>exact⟨k+1,E,G,ak,rfl,by omega,by go_num,V.o.1,V.o.2.1,V.o.2.2.1,V.o.2.2.2.1,bZ.o,a2.o,ap.o⟩):q:=h
def pA (b5:oA)(cv:Nat)(ps:List Pk)(per:Int)(ew:oA)(gz:Nat)(Z:List Int)(w:tz)(dj:AL w b5 ps)(e5:Bc w ew Z)(cx:Ar ps)(ed:1<=per)(hY:per<=1000)(a9:Ef 1 3000 Z):Calls sr 49 #[.slice b5 ps.length cv,.int .i64 per,.slice ew Z.length gz] w λe w'=>UT per ps Z w e w':=by
 have f3:∀f,1<=Cb Z f:=λf=>(J2 a9.d (by omega) f).1
 have ai:sE (AL w b5 ps/\Ar ps):=⟨dj,cx⟩
 have aw:sE (Ef 1 3000 Z/\(∀f,1<=Cb Z f)):=⟨a9,f3⟩
 have ii:=cx.j;have g5:=a9.len;obtain⟨ga,hK,rfl,-,fi⟩:=e5.h (by omega);have g7:sE (∀W f,zW w W->f<8->∃x,Cb Z f=x/\1<=x/\x<=3000/\W.cell? ⟨ga,hK+f,sA⟩=A (.int .i64 x)):=λW f bf b6=>by
  obtain⟨x,aW,-⟩:=Ao Z f (by omega);have:=a9.d f x aW;exact⟨x,KG aW,this.1,this.2,jf bf (fi f x aW)⟩
 obtain⟨n,b2⟩:=ex ps.length;have aC:sE (ps.length=n):=b2;have fL:sE (∀W g f t out,zW w W->FM W g n out->Ë 95 #[.slice b5 n cv,.slice (A ⟨g,0,sA⟩) n n,.int .i64 ((f:Nat):Int),.int .i64 t] W λe w'=>∃v,e=.returned v/\Wu w' W.heap.size v (FE ps out f t n)/\zW W w'):=λW g f t out bf h7=>by
  have:=bP b5 cv ps g out f t W (dj.d bf) cx (by rw[b2];exact h7);rwa[b2]at this
 clear dj e5 cx a9 f3 fi;rw[b2,g5];rw[b2]at ii;have gh:∀w':tz,(Instr.makeSlice 163 (.int .i64 n) (.int .i64 n)).run sr w'=.ok (.slice (A ⟨w'.heap.size,0,sA⟩) n n) (w'.alloc (.cells (sC #[.bool ss] n) 4)):=λw'=>by
  obtain⟨cR,cV,d3,df,dT⟩:=ó Tryz.u;have:=Ŭ (P:=sr) w' 163 4 cR (.bool ss) Tryz.underlying163 cV d3 .i64 .i64 n n (by omega) (by omega) (by rw[dT];omega) (by omega);simpa[df,Value.cells]using this
 have gn:∀w':tz,(Instr.makeSlice 23 (.int .i64 8) (.int .i64 8)).run sr w'=.ok (.slice (A ⟨w'.heap.size,0,sA⟩) 8 8) (w'.alloc (.cells (sC #[.int .i64 0] 8) 3)):=λw'=>by
  obtain⟨cR,cV,d3,df,dT⟩:=ó Tryz.b;have:=Ŭ (P:=sr) w' 23 3 cR (.int .i64 0) ue cV d3 .i64 .i64 8 8 (by omega) (by omega) (by rw[dT];omega) (by omega);simpa[df,Value.cells]using this
 have eZ:sE (Dq w (((w.alloc (.cells (sC #[.bool ss] n) 4)).alloc (.cells (sC #[.bool ss] n) 4)).alloc (.cells (sC #[.int .i64 0] 8) 3)) w.heap.size (w.heap.size+1) (w.heap.size+2) n (.slice sA 0 0) [] 0 (λ_=>0) (.slice sA 0 0) (λ_=>False) []):=nV w n _ _;obtain⟨hc,g3,gf,gA,hD⟩:=ó Tryz.p;obtain⟨cS,ec,dq,cX,dp⟩:=ó Tryz.b;clear b2;go_in
 go_wp2_with fail;obtain⟨aa,cq⟩:=ex w.heap.size;obtain⟨ao,dt⟩:=ex (w.heap.size+1);obtain⟨ac,dg⟩:=ex (w.heap.size+2);obtain⟨h',c7⟩:=ex (((w.alloc (.cells (sC #[.bool ss] n) 4)).alloc (.cells (sC #[.bool ss] n) 4)).alloc (.cells (sC #[.int .i64 0] 8) 3));have iS:sE (w.heap.size=aa):=cq;have ih:sE (Dq w h' aa ao ac n (.slice sA 0 0) [] 0 (λ_=>0) (.slice sA 0 0) (λ_=>False) []):=by
  have:=eZ.o;rwa[c7,dg,dt,cq]at this
 rw[c7,dg,dt,cq];clear c7 dg dt cq eZ gh gn;go_loopg[7,11,12,13] (Lp ps ⟨[],0,0,EM⟩ 29999 1)(λh0 v r bh t wr=>∃s d bm z F,h0=Lp ps s bm z/\bh=.int .i64 (JJ d.i)/\t=.int .i64 s.d/\Gf per ps Z s d bm z/\Dq w wr aa ao ac n v s.p s.e d.cr r F d.row)
 case atStart=>exact⟨_,_,29999,1,_,J,J,J,Gf.c per ps Z,ih.o⟩
 case round=>
  obtain⟨s,d,bm,z,F,rfl,rfl,rfl,aL,bl⟩:=hrel;obtain⟨eo,hs⟩:∃W,W=wr:=⟨_,J⟩
  subst hs;have fx:sE (Gf per ps Z s d bm z):=aL;have cQ:sE (Dq w eo aa ao ac n u7 s.p s.e d.cr u11 F d.row):=bl;obtain⟨am,an,cW,gj,im,-,-,-⟩:=bl.E.open;have hQ:=aL.k.g ⟨ed,hY⟩ ai.o.2;have f8:=aL.k.b (IR ai.o.2 aw.o.2);have cG:=aL.k.a;rw[aC.o]at cG;have hm:s.p.length<=n:=by omega
  obtain⟨O,cJ⟩:=ex s.d;obtain⟨L,ci⟩:=ex s.p.length;obtain⟨bh,a8⟩:=ex (JJ d.i);have bt:sE (s.d=O/\s.p.length=L/\JJ d.i=bh):=⟨cJ,ci,a8⟩
  rw[cJ,ci]at hQ;rw[ci]at hm gj cW;have dv:sE (u7=.slice am L an):=cW;rw[cJ,a8];unfold s7 at im;clear aL bl f8 cG cJ ci a8;subst cW;by_cases cb:L<n
  .
   go_wp2_with fail;go_loopg[11,14] n (λhz r hO gG=>∃(k:Nat)(E:St TQ)(G:Ð)(ak:Nat->Prop),hz=n-k/\k<=n/\hO=.int .i64 k/\E.p=s.p/\E.d=s.d/\G.i=d.i/\G.cr=d.cr/\(∀j,j<k->Ay ps j<=s.d->j<E.e)/\Gf per ps Z E G bm z/\Dq w gG aa ao ac n (.slice am L an) E.p E.e G.cr r ak G.row)
   case atStart=>exact⟨0,s,d,F,J,uD _,J,J,J,J,J,λj h=>absurd h (İ _),fx.o,cQ.o⟩
   case round=>
    obtain⟨k,E,G,ak,rfl,ip,rfl,a4,cD,cH,b8,eR,aL,bl⟩:=hrel;obtain⟨aq,hW2⟩:∃W,W=wr:=⟨_,J⟩
    subst hW2;have a2:sE (Gf per ps Z E G bm z):=aL;have ap:sE (Dq w aq aa ao ac n (.slice am L an) E.p E.e G.cr u11 ak G.row):=bl;have V:sE (E.p=s.p/\E.d=s.d/\G.i=d.i/\G.cr=d.cr/\E.d=O/\E.p.length=L/\JJ G.i=bh):=⟨a4,cD,cH,b8,cD.trans bt.o.1,by rw[a4];exact bt.o.2.1,by rw[cH];exact bt.o.2.2⟩
    have cM:sE (∀j,j<k->Ay ps j<=s.d->j<E.e):=eR;have fR:∀f,8<=f->G.a f=[]:=λf b6=>by rw[aL.a];exact(KS ai.o.2 aw.o.2 aL.k).j f b6
    have db:=QT aL.y fR;have cG:=aL.k.a;rw[aC.o]at cG;obtain⟨aI,a0,dn,ca,hH,ee,fW,b0⟩:=bl.row.cells;have ir:sE ((aI=sA->G.row=[]/\a0=0)/\Bc aq aI (Au G.row)/\∀ad,aI=A ad->∀(j k:Nat),G.row[j]? = A k->aq.cell? ⟨ad.block,ad.off+j,sA⟩=A (.int .i64 k)):=⟨ee,fW,b0⟩
    obtain⟨aB,ct⟩:=ex G.row.length;have bK:sE (G.row.length=aB):=ct;rw[ct]at dn ca;have iu:aB<=8:=by rw[<-ct];exact db.1
    have ff:sE (∀f,f∈G.g->f<8):=db.2;have iy:sE (u11=.slice aI aB a0):=dn;unfold s7 at hH;clear aL bl a4 cD cH b8 eR fR db ee fW b0 ct;subst dn;by_cases c2:k<n
    .
     have gi:sE (zW w aq):=ap.o.d;obtain⟨p,al,-⟩:=Ao ps k (by rw[aC.o];exact c2);obtain⟨fl,i2,b6,fS⟩:=OM ai.o.2 al;obtain⟨be,a6,rfl,-,bc⟩:=ai.o.1.h (by rw[aC.o];omega);obtain⟨bb,bg⟩:=ex p.a;have fc:sE (∀W,zW w W->W.cell? ⟨be,a6+k*3,sA⟩=A (.int .i64 fl)/\W.cell? ⟨be,a6+k*3+2,sA⟩=A (.int .i64 bb)):=λW bf=>⟨by rw[<-b6];exact jf bf (bc k _ al).1,by rw[<-bg];exact jf bf (bc k _ al).2.2⟩
     have bp:sE (ps[k]? = A p/\p.a=bb/\Aj ps k=fl/\Ay ps k=bb):=⟨al,bg,fS,by rw[AQ al];exact bg⟩
     have c4:=ap.o.e.E k c2;have hF:=(fc.o aq gi.o).2;clear al b6 fS bc bg;by_cases cd:k<E.e
     .
      have a3:decide (k<E.e)=true:=ď cd;rw[a3]at c4;have bZ:sE (∀j,j<k+1->Ay ps j<=s.d->j<E.e):=λj bs bq=>by
       obtain h|h:=nR j k
       . exact cM.o j h bq
       omega
      clear a3;exact nB
     have a3:decide (k<E.e)=false:=ĕ cd;rw[a3]at c4;by_cases c0:bb<=O
     .
      obtain⟨b1,e6,cL⟩:=a2.o.q ai.o.2 (λj bs bq=>cM.o j bs (by rw[<-V.o.2.1];exact bq)) bp.o.1 (by rw[bp.o.2.1,V.o.2.2.2.2.1];exact c0) (m8 cd);have b0:=a2.o.e ai.o.2 (p:=p) (by rw[<-b1];exact bp.o.1) (by rw[bp.o.2.1,V.o.2.2.2.2.1];exact c0) ⟨e6,cL⟩;rw[<-b1]at b0;have eL:sE (Gf per ps Z ⟨E.p,E.d,k+1,(BF ps Z).e E.q k⟩ (G.e (Aj ps) k) bm z):=b0;have du:=ap.o.q (by rw[<-b1];exact c2);rw[<-b1]at du;have hR:=ap.o.e.s k;have gS:sE (Dq w (aq.setCell ⟨ao,k,sA⟩ (.bool sy)) aa ao ac n (.slice am L an) E.p (k+1) G.cr (.slice aI aB a0) ak G.row):=du;obtain⟨aE,f2⟩:=ex (aq.setCell ⟨ao,k,sA⟩ (.bool sy));have bd:sE (Dq w aE aa ao ac n (.slice am L an) E.p (k+1) G.cr (.slice aI aB a0) ak G.row):=by rw[<-f2];exact gS.o
      have ia:aE.cell? ⟨be,a6+k*3,sA⟩=A (.int .i64 fl):=(fc.o _ bd.o.d).1;have bZ:sE (∀j,j<k+1->Ay ps j<=s.d->j<k+1):=λj bs _=>bs
      obtain⟨eE,f1⟩:=ex ((fl:Int)==bh);have hX:sE (eE=sy↔(G.i=A fl\/fl∈G.row.take 0)):=by
       show _↔_
       rw[<-f1,<-V.o.2.2.2.2.2.2];cases G.i with
       |none=>simp[JJ]
       |some g=>simp[JJ];omega
      have gd:sE (∀(j x:Nat),G.row[j]? = A x->∃ck cC,aI=A ⟨ck,cC,sA⟩/\aE.cell? ⟨ck,cC+j,sA⟩=A (.int .i64 x)):=λj x aW=>by
       obtain⟨io,i9,a4,-,-,-,h3,gc⟩:=bd.o.row.cells;injection a4 with a4 cD cH
       subst a4;obtain hb|⟨b,o,b8,-,-⟩:=h3
       .
        have:G.row=[]:=by simpa[Au]using hb
        rw[this]at aW;simp at aW
       exact⟨b,o,b8,gc ⟨b,o,sA⟩ b8 j x aW⟩
      have iC:sE (k=E.e):=b1;clear cd a3 b1 e6 cL b0 du;go_wp2_with fail;clear f2 f1 ia hF c4 hR;go_loopg[16,17] aB (λeb hq c' hy=>∃(j:Nat)(B:Bool),eb=aB-j/\j<=aB/\c'=.int .i64 j/\hq=.bool B/\(B=sy↔(G.i=A fl\/fl∈G.row.take j))/\aE=hy)
      case atStart=>exact⟨0,eE,J,uD _,J,J,hX.o,J⟩
      case round=>
       obtain⟨j,B,rfl,iw,rfl,rfl,eW,hZ⟩:=hrel;subst hZ;have f5:sE (B=sy↔(G.i=A fl\/fl∈G.row.take j)):=eW;clear eW;by_cases hi:j<aB
       .
        obtain⟨x,aW,-⟩:=Ao G.row j (by rw[bK.o];exact hi);obtain⟨ck,cC,rfl,fz⟩:=gd.o j x aW;have fv:sE (G.row.take (j+1)=G.row.take j++[x]):=by
         show _=_
         rw[Δ,aW];rfl
        clear aW;by_cases ch:x=fl
        .
         have f9:((x:Int)==(fl:Int))=true:=by simp;omega
         have d7:sE (G.i=A fl\/fl∈G.row.take (j+1)):=by
          show _\/_
          rw[fv.o];simp[ch]
         clear ch;go_wp2
         go_roundg (aB-(j+1))
         case measure=>omega
         case rel=>exact⟨j+1,sy,J,by omega,by go_num,J,⟨λ_=>d7.o,λ_=>J⟩,J⟩
        have f9:((x:Int)==(fl:Int))=false:=by simp;omega
        have d7:sE (B=sy↔(G.i=A fl\/fl∈G.row.take (j+1))):=by
         show _↔_
         rw[fv.o,f5.o];simp[ħ ch]
        clear ch;go_wp2
        go_roundg (aB-(j+1))
        case measure=>omega
        case rel=>exact⟨j+1,B,J,by omega,by go_num,J,d7.o,J⟩
       obtain rfl:j=aB:=by omega
       have fd:sE (B=sy↔Aj ps k∈G.g):=by
        have:=f5.o;rw[<-bK.o,ln]at this;show _↔_
        rw[bp.o.2.2.1];exact sD this
       cases B with
       |true=>
        have cl:sE (Dq w aE aa ao ac n (.slice am L an) E.p (k+1) (G.e (Aj ps) k).cr (.slice aI j a0) ak (G.e (Aj ps) k).row):=by
         have e:(G.e (Aj ps) k).row=G.row:=Æ (fd.o.1 (by trivial));show Dq _ _ _ _ _ _ _ _ _ _ _ _ _
         rw[e];exact bd.o
        go_wp2
        go_roundg (n-(k+1))
        case measure=>omega
        case rel=>exact⟨k+1,⟨E.p,E.d,k+1,(BF ps Z).e E.q k⟩,G.e (Aj ps) k,ak,J,by omega,by go_num,V.o.1,V.o.2.1,V.o.2.2.1,V.o.2.2.2.1,bZ.o,eL.o,cl.o⟩
       |false=>
        have fs:zW aE (aE.alloc (.cells #[.int .i64 fl] 3)):=ba;have dk:sE (Dq w (aE.alloc (.cells #[.int .i64 fl] 3)) aa ao ac n (.slice am L an) E.p (k+1) G.cr (.slice aI j a0) ak G.row):=bd.o.later fs;have ha:sE ((aE.alloc (.cells #[.int .i64 fl] 3)).cell? ⟨aE.heap.size,0,sA⟩=A (.int .i64 fl)):=(cell_of_row _ _ 0 _ _ _ (ř aE _)).trans J;have cf:sE (w.heap.size<=(aE.alloc (.cells #[.int .i64 fl] 3)).heap.size):=dk.o.d.size;have ij:sE ((G.e (Aj ps) k).row=G.row++[fl]):=by
         have e:(G.e (Aj ps) k).row=G.row++[Aj ps k]:=Ä (λh=>by have:=fd.o.2 h;cases this);show _=_
         rw[e,bp.o.2.2.1]
        clear fs;go_wp2_with (at_builtin;go_must (refine JM _ J _ _ 23 J 3 cS (.int .i64 0) 8 ue ec dq cX dp J w.heap.size (.slice aI j a0) ak fl G.row J dk.o.row cf.o ⟨aE.heap.size,0,sA⟩ 1 J ha.o (by rw[bK.o];unfold s7;omega) (by rw[bK.o];omega) ?_;intro hB hn w2 ei;rw[bK.o]at ei⊢;obtain⟨e3,ft,et,e7⟩:=ei;have hx:sE (Dq w w2 aa ao ac n (.slice am L an) E.p (k+1) G.cr (.slice hB (j+1) hn) e3 (G.row++[fl])):=dk.o.j e7 ft et;clear ft et e7))
        go_roundg (n-(k+1))
        case measure=>omega
        case rel=>exact⟨k+1,⟨E.p,E.d,k+1,(BF ps Z).e E.q k⟩,G.e (Aj ps) k,e3,J,by omega,by go_num,V.o.1,V.o.2.1,V.o.2.2.1,V.o.2.2.2.1,bZ.o,eL.o,by rw[ij.o];exact hx.o⟩
     have bZ:sE (∀j,j<k+1->Ay ps j<=s.d->j<E.e):=λj bs bq=>by
      obtain h|h:=nR j k
      . exact cM.o j h bq
      obtain rfl:j=k:=by omega
      rw[bp.o.2.2.2,bt.o.1]at bq;exact absurd bq c0
     clear cd a3;exact nB
    have hA:n=k:=by omega
    subst hA;have dd:sE (Vd ps E):=λi i1 eC=>by
     obtain h|h:=j2 E.d (Ay ps i)
     . exact h
     have:=cM.o i (by rw[aC.o]at eC;exact eC) (by rw[<-V.o.2.1];exact h);omega
    have cE:E.p.length<ps.length:=by rw[V.o.2.2.2.2.2.1,aC.o];exact cb
    have hl:(G.i=sA/\G.row=[])\/(∃f r,G.i=sA/\G.row=f::r)\/∃f,G.i=A f:=by
     cases G.i with
     |some f=>exact .inr (.inr ⟨f,J⟩)
     |none=>
      cases G.row with
      |nil=>exact .inl ⟨J,J⟩
      |cons f r=>exact .inr (.inl ⟨f,r,J,J⟩)
    obtain⟨ax,bj⟩|⟨f,r,ax,bj⟩|⟨f,ax⟩:=hl
    .
     have a8:bh= -1:=by rw[<-V.o.2.2.2.2.2.2,ax];rfl
     subst a8;have c5:G.g=[]:=by unfold Ð.g;rw[ax];exact bj
     obtain⟨-,cL,fb⟩:=a2.o.g ai.o.2 aw.o.2 c5;obtain⟨dB,hI,fN⟩:=a2.o.j ai.o.2 aw.o.2 c5 dd.o cE;obtain⟨el,fj⟩:=a2.o.h ai.o.2 aw.o.2 fb;have dX:aB=0:=by rw[<-bK.o,bj];rfl
     subst dX;subst hI;subst cL;obtain⟨p,al,-⟩:=Ao ps E.e dB;obtain⟨be,a6,rfl,-,bc⟩:=ai.o.1.h (by omega);obtain⟨bb,bg⟩:=ex p.a;obtain⟨aG,bw⟩:=ex E.e;have hV:sE (Gf per ps Z ⟨E.p,bb,aG,E.q⟩ G 29999 0):=by
      have:=fN p al;rwa[bg,bw]at this
     have iY:aq.cell? ⟨be,a6+aG*3+2,sA⟩=A (.int .i64 bb):=by rw[<-bg,<-bw];exact jf ap.o.d (bc E.e _ al).2.2
     have fh:sE ((∀i,i<aG->AA E.p i=sy)/\AA E.p aG=ss):=by rw[<-bw];exact⟨el,fj⟩
     have jj:aG<n:=by rw[<-bw,<-aC.o];exact dB
     have ey:sE (Dq w aq aa ao ac n (.slice am L an) E.p aG G.cr (.slice aI 0 a0) ak G.row):=by rw[<-bw];exact ap.o
     have gp:sE (JJ G.i= -1):=by show _=_;rw[ax];rfl
     clear fN el fj fb al bc bg bw c5 dB cE ax bj;go_wp2_with fail;go_loopg[18] aG (λeb c' h5=>∃j:Nat,eb=aG-j/\j<=aG/\c'=.int .i64 j/\aq=h5)
     case atStart=>exact⟨0,J,uD _,J,J⟩
     case round=>
      obtain⟨j,rfl,i8,rfl,gC⟩:=hrel;subst gC;have eV:=ey.o.a.E j (by omega);by_cases hw:j<aG
      .
       rw[fh.o.1 j hw]at eV;go_wp2
       go_roundg (aG-(j+1))
       case measure=>omega
       case rel=>exact⟨j+1,J,by omega,by go_num,J⟩
      obtain rfl:j=aG:=by omega
      rw[fh.o.2]at eV;go_wp2
      go_roundg (Lp ps ⟨E.p,bb,j,E.q⟩ 29999 0)
      case measure=>
       unfold Lp;simp only[V.o.1];omega
      case rel=>exact⟨⟨E.p,bb,j,E.q⟩,G,29999,0,ak,J,by rw[gp.o],J,hV.o,ey.o⟩
    all_goals
     first
     |
      have a8:bh= -1:=by rw[<-V.o.2.2.2.2.2.2,ax];rfl
      subst a8;have a5:f<8:=ff.o f (by unfold Ð.g;rw[ax];simp only;rw[bj];exact ï ..);obtain⟨eJ,gD,b4⟩:=a2.o.v ai.o.2 aw.o.2 dd.o ax bj;have dF:=ap.o.row;rw[bj]at dF;obtain⟨ck,cC,i6,gu,jk,iT,hN,-,fY,f4⟩:=dF.first;injection gu with hP gm h2
      subst hP;subst gm;subst h2;obtain⟨x,dr,ev,fw,fz⟩:=g7.o aq f ap.o.d a5;obtain⟨c,cN⟩:=ex (G.cr f);have eg:=a2.o.y.i aw.o.2 f;have e1:Cb Z f=x:=dr;rw[e1,cN]at eg;have gg:ua.wrap (c+x)=c+x:=Ĵ _ (by omega);clear dF;by_cases hU:1<a0
      all_goals
       first
       |have d4:=fY hU
       |
        obtain rfl:a0=1:=by omega
        obtain⟨g6,d4⟩:=f4 J;subst g6
       have g4:=Io (ap.o.j (Ç.I _ _) d4 (λk a9=>.inl a9));have cp:=Io ((g4.o.r a5 (c+x)).later br.drew);have hT:aq.cell? ⟨ac,f,sA⟩=A (.int .i64 c):=by rw[<-cN];exact ap.o.g.E f a5
       have g1:=ap.o.g.s f;obtain⟨Y,eq,a3,ez⟩:=b4.b;have bv:=Io eq;rw[cN,dr]at a3;rw[<-a3]at cp;have i4:(f:Int)<8:=by omega
       have g0:=Io ez;clear fY f4 d4 eq a3 ez b4 cN dr ax bj cE;go_wp2
       go_region;obtain⟨X,e8⟩:=ex ((aq.setCell ⟨ac,f,sA⟩ (.int .i64 (c+x))).drew);rw[e8]at cp⊢;have bd:=Io (cp.o.p g0.o);clear e8 cp hT g1 hN gg fz eg e1
     |
      have a8:bh=(f:Int):=by rw[<-V.o.2.2.2.2.2.2,ax];rfl
      subst a8;have a5:f<8:=ff.o f (by unfold Ð.g;rw[ax];exact ï ..);obtain⟨eJ,gD,b4⟩:=a2.o.u ai.o.2 aw.o.2 dd.o ax;obtain⟨Y,c8⟩:=ex G;have bv:sE (Fy per ps Z E Y f eJ z):=by rw[<-c8];exact b4
      have bd:sE (Dq w aq aa ao ac n (.slice am L an) E.p E.e Y.cr (.slice aI aB a0) ak Y.row):=by rw[<-c8];exact ap.o
      clear b4 c8 cE ax
    all_goals
     obtain⟨I,av,fq,ej,cY,-,gb,gr,fA⟩:=bv.o.g ai.o.2 aw.o.2 ed;have fm:I<n:=by rw[<-aC.o];exact cY
     obtain⟨p,al,-⟩:=Ao ps I cY;obtain⟨be,a6,rfl,-,bc⟩:=ai.o.1.h (by omega);obtain⟨ab,cI⟩:=ex p.h;have d8:sE (∀W,zW w W->W.cell? ⟨be,a6+I*3+1,sA⟩=A (.int .i64 ab)):=λW bf=>by rw[<-cI];exact jf bf (bc I _ al).2.1
     have hr:1<=ab/\ab<=1500:=by have:=Bw (ai.o.2.d _ p al).1;omega
     have f6:Bg ps I=ab:=by rw[D7 al];exact cI
     have fa:=bv.o.y.i aw.o.2 f;have hf:=(J2 aw.o.1.d (by omega) f).2;obtain⟨c,d1⟩:=ex (Y.cr f);rw[d1]at fa;have aj:sE (Y.a f=I::av/\ps[I]? = A p/\p.h=ab/\Bg ps I=ab/\Y.cr f=c):=⟨fq,al,cI,f6,d1⟩
     have i0:0<=c/\c<=1000000:=by omega
     have hG:sE (FE ps E.p f O n=I::av):=by rw[<-aC.o,<-V.o.2.2.2.2.1];exact ej
     have ep:=Io (fL.o _ aa f O E.p bd.o.d bd.o.a);rw[hG.o]at ep;have i3:sE ((I::av).length<=300):=fA;clear fq ej cY gb gr fA al bc cI f6 fa hf d1;go_wp2_with fail;refine ep.o.mono ?_
     rintro iI w1⟨jl,rfl,cP,eu⟩;have cg:=Io (bd.o.later eu);unfold Wu at cP;rw[<-AJ]at cP;obtain⟨gk,i5,rfl,h8,gO,e2⟩:=Qm cP (by rw[AJ];simp);have fp:w1.cell? ⟨gk,0,sA⟩=A (.int .i64 I):=e2 0 _ J;obtain⟨gP,dV⟩:=ex ((Au (I::av)).length);have jc:0<gP:=by rw[<-dV,AJ];simp
     rw[dV]at h8⊢;unfold s7 at gO;have em:=d8.o w1 cg.o.d;have e0:w1.cell? ⟨ac,f,sA⟩=A (.int .i64 c):=by rw[<-aj.o.2.2.2.2];exact cg.o.g.E f a5
     have ix:(f:Int)<8:=by omega
     clear cP eu e2 dV;by_cases b9:c<ab
     .
      have d2:decide (c<ab)=true:=ď b9;obtain⟨cT,iL,fk⟩:=bv.o.l aj.o.1 (by rw[aj.o.2.2.2.1,aj.o.2.2.2.2];exact b9);have h4:sE (Gf per ps Z E (Y.l f) cT z):=fk;clear fk b9;go_wp2
      go_quiet (fail);obtain⟨a1,ce⟩:=ex (w1.drewN nq);have a7:=Io (cg.o.later (ì (bC _ w1) nq));rw[ce]at a7⊢;obtain⟨e4,hp,ht,-,-,c6,e9,-⟩:=a7.o.row.cells;injection ht with eK fy eI
      have b3:sE ((e4=sA->Au Y.row=[]/\hp=0)/\Bc a1 e4 (Au Y.row)/\(Au Y.row).length=Y.row.length):=⟨λe=>⟨by rw[(c6 e).1];rfl,(c6 e).2⟩,e9,AJ _⟩
      rw[<-eK,<-fy,<-eI]at b3;clear ce c6 e9 eK fy eI fp em e0 d2;go_wp2_with (first
       |(at_builtin;(refine Pv _ J _ _ 23 J 3 cS (.int .i64 0) ue ec dq cX dp J _ _ _ (Au Y.row) b3.o.2.2 J J b3.o.2.1 b3.o.1 (by omega) ?_;rintro ek bn⟨en,c9⟩;have bx:sE ((bn.alloc (.cells #[.int .i64 f] 3)).ownsRow a1.heap.size 3 1 ek _ (É (Au Y.row))/\zW a1 (bn.alloc (.cells #[.int .i64 f] 3))/\(∀j u,(É [(f:Int)])[j]? = A u->(bn.alloc (.cells #[.int .i64 f] 3)).cell? (Addr.add ⟨bn.heap.size,0,sA⟩ j)=A u)):=⟨Ai en (λg' _ ho=>Below.heap_alloc bn _ g' ho),c9.alloc c9.size _,World.news_of_block (cs:=#[.int .i64 f]) (t:=3) (ř bn _)⟩;clear en c9))
       |(at_builtin;go_must (refine xl _ J _ _ 23 J a1.heap.size 3 cS (.int .i64 0) 1 8 ue ec dq cX dp J (by decide) ek _ (É (Au Y.row)) J bx.o.1 ⟨bn.heap.size,0,sA⟩ 1 1 (É [(f:Int)]) J J bx.o.2.2 (Ff _) (by decide) (by unfold s7;omega) (by omega) bx.o.2.1.size _ J ?_;intro hj gv eh fT fX he ge;have dv:sE (eh.ownsRow a1.heap.size 3 1 (.slice (A ⟨hj,0,sA⟩) (_+1) gv) (_+1) (É (Au Y.row)++É [(f:Int)])/\zW a1 eh):=⟨fT,bx.o.2.1.grown fX bx.o.2.1.size (λj bs=>(AC bx.o.1 bs).1)⟩;clear fT fX he ge)))
      have h6:=Io (a7.o.m dv.o.1 dv.o.2 b3.o.2.2);go_roundg (Lp ps E cT z)
      case measure=>
       unfold Lp;simp only[V.o.1];omega
      case rel=>exact⟨E,Y.l f,cT,z,_,J,J,by rw[V.o.2.2.2.2.1],h4.o,h6.o⟩
     have d2:decide (c<ab)=false:=ĕ b9;have er:ab<=c:=by omega
     obtain⟨U,b'⟩:=ex (O+per*ab);have d6:=bv.o.v ai.o.2 aw.o.2 aj.o.1 aj.o.2.1 (by rw[aj.o.2.2.2.1,aj.o.2.2.2.2];exact er);have dU:=bv.o.h ai.o.2 aw.o.2 ed aj.o.1 aj.o.2.1 (by rw[aj.o.2.2.2.1,aj.o.2.2.2.2];exact er);rw[V.o.2.2.2.2.1,aj.o.2.2.1,b']at d6;rw[V.o.2.2.2.2.1,aj.o.2.2.1,b',aC.o]at dU;have fK:sE (Gf per ps Z ⟨E.p++[⟨(I:Nat),O,U⟩],U,E.e,(BF ps Z).h E.q⟩ (Y.j (Bg ps) f I av) 29999 1):=d6;have hv:sE (FE ps (E.p++[⟨(I:Nat),O,U⟩]) f O n=av):=dU;have hS:0<=per*ab:=Ŗ (by omega) (by omega);have hu:per*ab<=1000*1500:=χ (by omega) hr.2 (by omega) (by omega);obtain⟨cU,dN⟩:=ex (per*ab);have wp:ua.wrap (per*ab)=cU:=by rw[dN];exact Ĵ _ (by omega)
     rw[dN]at hS hu b';have wto:ua.wrap (O+cU)=U:=by rw[b'];exact Ĵ _ (by omega)
     have wc:ua.wrap (c-ab)=c-ab:=Ĵ _ (by omega);have iz:sE (O+cU=U):=b';clear d6 dU b9 dN;go_wp2
     go_quiet (fail);obtain⟨a1,ce⟩:=ex (w1.drewN nq);have a7:=Io (cg.o.later (ì (bC _ w1) nq));rw[ce]at a7⊢;have g9:=d8.o a1 a7.o.d;have hJ:a1.cell? ⟨ac,f,sA⟩=A (.int .i64 c):=by rw[<-aj.o.2.2.2.2];exact a7.o.g.E f a5
     have g2:=a7.o.g.s f;clear ce fp em e0 d2;go_wp2
     go_region;have aN:=Io ((a7.o.r a5 (c-ab)).later br.drew);obtain⟨bk,fu⟩:=ex ((a1.setCell ⟨ac,f,sA⟩ (.int .i64 (c-ab))).drew);rw[fu]at aN⊢;have h1:=aN.o.a.E I fm;have h9:=aN.o.a.s I;have c3:Ç (λk=>k=aa) bk (bk.setCell ⟨aa,I,sA⟩ (.bool sy)):=NA bk aa I _;have eS:(bk.setCell ⟨aa,I,sA⟩ (.bool sy)).cell? ⟨be,a6+I*3+1,sA⟩=A (.int .i64 ab):=d8.o _ (aN.o.d.trans (c3.d aN.o.d.size λk a9=>by rw[a9];exact aN.o.l.1));obtain⟨Z1,b7⟩:=ex (bk.setCell ⟨aa,I,sA⟩ (.bool sy));have co:zW Z1 ((Z1.alloc (.cells #[.int .i64 I,.int .i64 O,.int .i64 U] 75)).alloc (.cells #[.int .i64 I,.int .i64 O,.int .i64 U] 75)):=ba.alloc (by simp) _;have de:∀g,(Value.slice am L an).ownBlock=A g->g<bk.heap.size/\g≠aa:=λg cm=>⟨(AC aN.o.E cm).2,λe=>aN.o.b.1 (by rw[<-e];exact cm)⟩
     have d5:Z1.heap.size=bk.heap.size:=by rw[<-b7];exact Ē _ _ _
     have gw:sE (Dz ((Z1.alloc (.cells #[.int .i64 (I:Int),.int .i64 O,.int .i64 U] 75)).alloc (.cells #[.int .i64 (I:Int),.int .i64 O,.int .i64 U] 75)) w.heap.size (.slice am L an) E.p):=Ai aN.o.E (λg cm cb=>by
      rw[co.block g (by rw[d5];exact cb),<-b7];exact c3.block g cb (de g cm).2)
     have hg:sE (∀j u,(Î [⟨I,O,U⟩])[j]? = A u->((Z1.alloc (.cells #[.int .i64 I,.int .i64 O,.int .i64 U] 75)).alloc (.cells #[.int .i64 I,.int .i64 O,.int .i64 U] 75)).cell? ((⟨Z1.heap.size+1,0,sA⟩:Addr).add j)=A u):=World.news_of_block (cs:=#[.int .i64 I,.int .i64 O,.int .i64 U]) (t:=75) (by have:=ř (Z1.alloc (.cells #[.int .i64 I,.int .i64 O,.int .i64 U] 75)) (.cells #[.int .i64 I,.int .i64 O,.int .i64 U] 75);simpa using this);have cf:sE (w.heap.size<=((Z1.alloc (.cells #[.int .i64 I,.int .i64 O,.int .i64 U] 75)).alloc (.cells #[.int .i64 I,.int .i64 O,.int .i64 U] 75)).heap.size/\Z1.heap.size<((Z1.alloc (.cells #[.int .i64 I,.int .i64 O,.int .i64 U] 75)).alloc (.cells #[.int .i64 I,.int .i64 O,.int .i64 U] 75)).heap.size):=⟨rX (by rw[d5];exact aN.o.d.size) co.size,by simp;omega⟩
     have g8:sE (A Z1.heap.size≠(Value.slice am L an).ownBlock):=λe=>by
      have:=(de _ e.symm).1;omega
     have ie:sE (((Z1.alloc (.cells #[.int .i64 I,.int .i64 O,.int .i64 U] 75)).alloc (.cells #[.int .i64 I,.int .i64 O,.int .i64 U] 75)).cell? ⟨Z1.heap.size,2,sA⟩=A (.int .i64 U)):=jf ba (by simp);have f7:sE (Z1=bk.setCell ⟨aa,I,sA⟩ (.bool sy)/\zW Z1 ((Z1.alloc (.cells #[.int .i64 I,.int .i64 O,.int .i64 U] 75)).alloc (.cells #[.int .i64 I,.int .i64 O,.int .i64 U] 75))):=⟨b7.symm,co⟩
     have hk:sE (Z1.heap.size≠ac):=λe=>by have:=aN.o.g.G;omega
     rw[b7]at eS;have hM:(Z1.alloc (.cells #[.int .i64 I,.int .i64 O,.int .i64 U] 75)).cell? ⟨Z1.heap.size,0,sA⟩=A (.int .i64 I):=by simp
     have ev:(Z1.alloc (.cells #[.int .i64 I,.int .i64 O,.int .i64 U] 75)).cell? ⟨Z1.heap.size,1,sA⟩=A (.int .i64 O):=by simp
     have fw:(Z1.alloc (.cells #[.int .i64 I,.int .i64 O,.int .i64 U] 75)).cell? ⟨Z1.heap.size,2,sA⟩=A (.int .i64 U):=by simp
     clear fu co de d5 c3 g9 hJ g2;have ea:sE (E.p.length=L):=V.o.2.2.2.2.2.1;go_wp2_with (at_builtin;go_must (refine xl _ rfl _ _ 42 rfl w.heap.size 75 hc (.agg #[.int .i64 0,.int .i64 0,.int .i64 0]) 3 24 Tryz.underlying42 g3 gf gA hD rfl (by decide) (.slice am L an) L (Î E.p) rfl (by have:=gw.o;unfold Dz at this;rwa[ea.o]at this) ⟨Z1.heap.size+1,0,sA⟩ 1 1 (Î [⟨I,O,U⟩]) J J hg.o (Kj _) (by decide) (by unfold s7;omega) (by omega) cf.o.1 _ J ?_;intro gx hC cc ef dl fg hd;have eN:cc.cell? ⟨Z1.heap.size,2,sA⟩=A (.int .i64 U):=(dl.cell_far ⟨Z1.heap.size,2,sA⟩ cf.o.2 g8.o).trans ie.o;have cn:=Io (aN.o.s I fm (f:=O) (t:=U) (g':=gx) (cap:=hC) Z1 f7.o.1 f7.o.2 (by rw[ea.o];exact ef) dl fg);rw[ea.o]at cn;clear ef dl fg hd))
     have gE:sE (Ë 95 #[.slice (A ⟨be,a6,sA⟩) n cv,.slice (A ⟨aa,0,sA⟩) n n,.int .i64 f,.int .i64 O] cc λe w'=>∃v,e=.returned v/\Wu w' cc.heap.size v av/\zW cc w'):=by
      have:=fL.o cc aa f O (E.p++[⟨I,O,U⟩]) cn.o.d cn.o.a;rwa[hv.o]at this
     refine gE.o.mono ?_
     rintro i' gl⟨iN,rfl,cy,dy⟩;have cA:=Io (cn.o.later dy);have hh:=jf dy eN;unfold Wu at cy;rw[<-AJ]at cy;obtain⟨iv,it,rfl,c1,hL⟩:=Ro cy;rw[AJ]at c1⊢;unfold s7 at hL;clear cy dy eN h1 h9 eS hM ev fw b7;by_cases ca:av=[]
     .
      subst ca;have u1:=cA.o.g.E f a5;have u2:=cA.o.g.s f;have cl:=Io (cA.o.r a5 0);rw[RJ]at cl;have u3:(gl.setCell ⟨ac,f,sA⟩ (.int .i64 0)).cell? ⟨Z1.heap.size,2,sA⟩=A (.int .i64 U):=(sF _ _ _ _ (λe=>hk.o (by injection e with a4;exact a4.symm))).trans hh;have da:sE (JJ (Y.j (Bg ps) f I []).i= -1):=rfl;simp only[Ġ]at c1⊢;go_wp2
      go_roundg (Lp ps ⟨E.p++[⟨(I:Nat),O,U⟩],U,E.e,(BF ps Z).h E.q⟩ 29999 1)
      case measure=>
       unfold Lp;simp only[V.o.1,ý,Ċ,Ġ,bt.o.2.1,aC.o];omega
      case rel=>exact⟨_,Y.j (Bg ps) f I [],29999,1,ak,J,by rw[da.o],J,fK.o,cl.o⟩
     have dX:0<av.length:=k9.2 ca;have eM:sE (Y.j (Bg ps) f I av={Y with a:=A8 Y.a f av,cr:=A8 Y.cr f (c-ab)}):=by
      show _=_
      unfold Ð.j;rw[Ä ca,aj.o.2.2.2.1,aj.o.2.2.2.2]
     have da:sE (JJ (Y.j (Bg ps) f I av).i=(f:Int)):=by
      show _=_
      rw[eM.o];show JJ Y.i=_
      rw[bv.o.i];rfl
     obtain⟨gt,eA⟩:=ex av.length;rw[eA]at c1 dX⊢;have i7:((gt:Int)==0)=false:=by simp;omega
     clear eA;go_wp2
     go_roundg (Lp ps ⟨E.p++[⟨(I:Nat),O,U⟩],U,E.e,(BF ps Z).h E.q⟩ 29999 1)
     case measure=>
      unfold Lp;simp only[V.o.1,ý,Ċ,Ġ,bt.o.2.1,aC.o];omega
     case rel=>exact⟨_,Y.j (Bg ps) f I av,29999,1,ak,J,by rw[da.o],J,fK.o,by rw[eM.o];exact cA.o⟩
  have hE:sE (UT per ps Z w (.returned (.slice am L an)) eo):=⟨_,s.p,J,cQ.o.E,fx.o.l ai.o.2 aw.o.2 (by rw[bt.o.2.1,aC.o];exact cb),cQ.o.d⟩
  go_wp2
  go_ret;exact hE.o
structure Ee (w wr:M)(gt gc gd gl n:Nat)(v:Vl)(out:List Sn)(next:Nat)(tag last:Nat->Int):Prop where
 E:Dz wr w.heap.size v out
 g:ER wr gt n tag
 e:Lu wr gc n next
 a:FM wr gd n out
 last:ER wr gl 8 last
 h:gt≠gc/\gt≠gd/\gt≠gl/\gc≠gd/\gc≠gl/\gd≠gl
 b:v.ownBlock≠A gt/\v.ownBlock≠A gc/\v.ownBlock≠A gd/\v.ownBlock≠A gl
 l:w.heap.size<=gt/\w.heap.size<=gc/\w.heap.size<=gd/\w.heap.size<=gl
 d:zW w wr
section
variable {w wr wr':tz}{gt gc gd gl n:Nat}{v:Value}{out:List Sn}{next:Nat}{tag last:Nat->Int}
def Ee.later (h:Ee w wr gt gc gd gl n v out next tag last)(E:zW wr wr'):Ee w wr' gt gc gd gl n v out next tag last:=
 ⟨Ai h.E (λg _ G=>E.block g G),h.g.e (E.block gt h.g.G) E.size,h.e.e (E.block gc h.e.G) E.size,h.a.e (E.block gd h.a.G) E.size,h.last.e (E.block gl h.last.G) E.size,h.h,h.b,h.l,h.d.tr E⟩
def Ee.q (h:Ee w wr gt gc gd gl n v out next tag last)(U:next<n):Ee w (wr.setCell (C gc next) (.bool sy)) gt gc gd gl n v out (next+1) tag last:=let E:=NA wr gc next (.bool sy);⟨Ai h.E (λg O I=>E.block g I (λe=>h.b.2.1 (by rw[<-e];exact O))),h.g.r E h.h.1,h.e.K U,h.a.e (E.block gd h.a.G (λe=>h.h.2.2.2.1 e.symm)) E.h,h.last.r E (λe=>h.h.2.2.2.2.1 e.symm),h.h,h.b,h.l,h.d.trans (E.d h.d.size λk G=>by rw[G];exact h.l.2.1)⟩
def Ee.i (h:Ee w wr gt gc gd gl n v out next tag last){k}(G:k<n) x:Ee w (wr.setCell (C gt k) (.q x)) gt gc gd gl n v out next (A8 tag k x) last:=let E:=NA wr gt k (.q x);⟨Ai h.E (λg I O=>E.block g O (λe=>h.b.1 (by rw[<-e];exact I))),h.g.K G x,h.e.e (E.block gc h.e.G (λe=>h.h.1 e.symm)) E.h,h.a.e (E.block gd h.a.G (λe=>h.h.2.1 e.symm)) E.h,h.last.r E (λe=>h.h.2.2.1 e.symm),h.h,h.b,h.l,h.d.trans (E.d h.d.size λk G=>by rw[G];exact h.l.1)⟩
def Ee.s (h:Ee w wr gt gc gd gl n v out next tag last){f}(I:f<8) x:Ee w (wr.setCell (C gl f) (.q x)) gt gc gd gl n v out next tag (A8 last f x):=let E:=NA wr gl f (.q x);⟨Ai h.E (λg U O=>E.block g O (λe=>h.b.2.2.2 (by rw[<-e];exact U))),h.g.r E h.h.2.2.1,h.e.e (E.block gc h.e.G h.h.2.2.2.2.1) E.h,h.a.e (E.block gd h.a.G h.h.2.2.2.2.2) E.h,h.last.K I x,h.h,h.b,h.l,h.d.trans (E.d h.d.size λk G=>by rw[G];exact h.l.2.2.2)⟩
def Ee.k (h:Ee w wr gt gc gd gl n v out next tag last)(t:tI):Ee w (wr.alloc (.c (sC #[.q 0] 8) t)) gt gc gd wr.heap.size n v out next tag (λ_=>0):=by
 let E:=h.later (br.alloc lr (.c (sC #[.q 0] 8) t));let G:=h.g.G;let I:=h.e.G;let O:=h.a.G;refine⟨E.E,E.g,E.e,E.a,LX wr 8 t,⟨h.h.1,h.h.2.1,by omega,h.h.2.2.2.1,by omega,by omega⟩,⟨h.b.1,h.b.2.1,h.b.2.2.1,λe=>?_⟩,⟨h.l.1,h.l.2.1,h.l.2.2.1,h.d.size⟩,E.d⟩;have:=(AC h.E e).2;omega
def Ee.j (h:Ee w wr gt gc gd gl n v out next tag last) b(am:b<n){w1 w2:M}{f t g' cap}(aa:zW wr w1)
  (al:w2.ownsRow w.heap.size 75 3 (.sl g' 0 (out.length+1) cap) (out.length+1) (Î out++Î [⟨b,f,t⟩]))(I:w1.grownBy w2 v.ownBlock)(V:v.ownBlock=A g'\/g'=w1.heap.size):
  Ee w (w2.setCell (C gd b) (.bool sy)) gt gc gd gl n (.sl g' 0 (out.length+1) cap) (out++[⟨b,f,t⟩]) next tag last:=by
 let U:∀g,g<wr.heap.size->v.ownBlock≠A g->g'≠g:=λg O g e=>by
  obtain V|V:=V
  . exact g (by rw[V,e])
  have:=aa.size;omega
 let O:Ç (λk=>v.ownBlock=A k) w1 w2:=⟨I.os,I.tape,I.output,I.size,λk G g=>I.block k G (λe=>g e.symm)⟩
 let E:=(Ç.e aa).G O;let Y:=NA w2 gd b (.bool sy);let e:=h.a.e (E.block gd h.a.G h.b.2.2.1) E.h;let blk:=λg O k G=>(Y.block g (rZ O E.h) k).trans (E.block g O G)
 let Z:=rX E.h Y.h;refine⟨?_,h.g.e (blk gt h.g.G h.h.2.1 h.b.1) Z,h.e.e (blk gc h.e.G h.h.2.2.2.1 h.b.2.1) Z,e.K b am f t,h.last.e (blk gl h.last.G (λe=>h.h.2.2.2.2.2 e.symm) h.b.2.2.2) Z,h.h,⟨λe=>U gt h.g.G h.b.1 (Ö e),λe=>U gc h.e.G h.b.2.1 (Ö e),λe=>U gd h.a.G h.b.2.2.1 (Ö e),λe=>U gl h.last.G h.b.2.2.2 (Ö e)⟩,h.l,?_⟩
 . unfold Dz;rw[ý,Jj];exact Ai al (λg O e=>Y.block g e (λe=>U gd h.a.G h.b.2.2.1 (by rw[<-e];exact Ö O)))
 exact(h.d.trans (E.d h.d.size λk G=>(AC h.E G).1)).trans (Y.d (rX h.d.size E.h) λk G=>by rw[G];exact h.l.2.2.1)
end
def qm w n(G E:tI):Ee w ((((w.alloc (.c (sC #[.q 0] n) G)).alloc (.c (sC #[.bool ss] n) E)).alloc (.c (sC #[.bool ss] n) E)).alloc (.c (sC #[.q 0] 8) G)) w.heap.size (w.heap.size+1) (w.heap.size+2) (w.heap.size+3) n (.sn) [] 0 (λ_=>0) (λ_=>0):=by
 let⟨Y,V⟩:=ex (w.alloc (.c (sC #[.q 0] n) G));let⟨X,O⟩:=ex (Y.alloc (.c (sC #[.bool ss] n) E));let⟨e,I⟩:=ex (X.alloc (.c (sC #[.bool ss] n) E));let⟨r9,Z⟩:=ex (e.alloc (.c (sC #[.q 0] 8) G));let R:Y.z=w.z+1:=by rw[<-V];simp
 let P:X.z=w.z+2:=by rw[<-O];simp[R]
 let se:e.z=w.z+3:=by rw[<-I];simp[P]
 let L:zW w Y:=by rw[<-V];exact ba
 let T:zW Y X:=by rw[<-O];exact ba
 let W:zW X e:=by rw[<-I];exact ba
 let U:zW e r9:=by rw[<-Z];exact ba
 let Q:ER Y w.z n (λ_=>0):=by rw[<-V];exact LX w n G
 let S:Lu X (w.z+1) n 0:=by rw[<-O,<-R];exact Yf Y n E
 let R:FM e (w.z+2) n []:=by rw[<-I,<-P];exact RD X n E
 let P:ER r9 (w.z+3) 8 (λ_=>0):=by rw[<-Z,<-se];exact LX e 8 G
 rw[V,O,I,Z];let Y:=(T.tr W).trans (U.mono (rX T.size W.size));let e:=W.tr U;exact⟨Ĉ ..,Q.e (Y.block _ Q.G) Y.size,S.e (e.block _ S.G) e.size,R.e (U.block _ R.G) U.size,P,N,⟨(nofun),(nofun),(nofun),nofun⟩,N,L.tr Y⟩
def JD (ps:List Pk)(s:St FQ):=2*(ps.length-s.p.length)+if s.e<ps.length/\Ay ps s.e<=s.d then 0 else 1
end Go.Proofs.YtaoikkhlnhfkfaaGreatDoor
