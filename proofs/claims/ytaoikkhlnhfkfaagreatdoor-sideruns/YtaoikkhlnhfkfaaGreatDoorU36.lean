import Derived.Test.YtaoikkhlnhfkfaaGreatDoorU00
import Derived.Deep.Slices
import Derived.Test.YtaoikkhlnhfkfaaGreatDoorU34
set_option maxRecDepth 100000
set_option linter.defProp false
set_option linter.unusedSimpArgs false
set_option linter.unusedVariables false
namespace Go.Proofs.YtaoikkhlnhfkfaaGreatDoor
open Option renaming some->A,none->sA
open DataW renaming trod->yW
open Proofs.Tryz renaming prog->sr,underlying3->ur
open Go.ChangeShapes Go.WideShapes Go.ChangeAt Go.RowKit Go.Deep
def RP{H}{enc:tI×Vl->H}{P:pG}{w:M}{I V O}{t e:tI}{f0 E G fuel}{cs:List Vl}{x}
  (aC:P.underlying t=A (.slice e))(a4:P.underlying e=A (.struct #[f0,E,G]))(a5:P.cellsOf e=3)(a3:f0.offset=0)(aN:E.offset=1)(aI:G.offset=2)(a6:P.cellsOf f0.type=1)(aL:P.cellsOf E.type=1)(aW:P.cellsOf G.type=1)
  (h:yW enc P w I V O fuel t cs=A x):
  cs=[.sn]\/
  ∃(a:Addr)(len cap n:Nat),cs=[.slice (A a) len cap]/\len<=cap/\cap<=maxLen/\
   ∀i,i<len->∃(Z U Y:Vl)(ai aa aj:DataW H×List MemPlace),w.cell? (a.add (i*3))=A Z/\w.cell? (a.add (i*3+1))=A U/\w.cell? (a.add (i*3+2))=A Y/\
    DataW.trod enc P w I V O n f0.type [Z]=A ai/\yW enc P w I V O n E.type [U]=A aa/\yW enc P w I V O n G.type [Y]=A aj:=by
 obtain S|⟨a,len,cap,m,n,D,k,rfl,k,R,D,k,-,T⟩:=open_slice aC h
 . exact .inl S.1
 right
 have S:len<=m:=by rw[k];split<;>omega
 refine⟨a,len,cap,n-1,J,R,D,λi k=>?_⟩;let⟨cs',k,R⟩:=T i N;rw[a5]at k;let⟨_,W,m⟩:=World.cells?_some k;obtain⟨S,k,D,D,_,X,D⟩:=DataW.trod_struct a4 R;have T:k=n-1:=N;subst T
 match S,X,cs',W with
 |[ai,aa,aj],_,[Z,U,Y],_=>
  have W:=D 0 f0 J;have X:=D 1 E J;have k:=D 2 G J;simp[a3,aN,aI,a6,aL,aW]at W X k
  have D:=m 0 N;have T:=m 1 N;have S:=m 2 N;rw[add_add]at D T S;exact⟨Z,U,Y,ai,aa,aj,by simpa using D,by simpa using T,by simpa using S,W,X,k⟩
section
variable {H:Type}{enc:TypeId×Value->H}{W:World}{fuel:Nat}{cs:List Value}{x:DataW H×List MemPlace}
def Tryz.S:sr.cellsOf 52=1:=kr
def Tryz.w:sr.cellsOf 22=1:=kr
def jX (h:yW enc sr W 0 (λ_=>true) true fuel 52 cs=A x):∃a cap ls,cs=[.s a ls.length cap]/\Cr W a ls/\ls.length<=cap/\cap<=maxLen/\(a=sA->ls=[]/\cap=0):=by
 obtain⟨rfl,_⟩|⟨x,G,b,m,n,O,U,i,i,i,i,rfl,_,y,n,i,_,Y⟩:=open_slice_pairs Tryz.underlying52 Tryz.underlying51 kr J J Tryz.a Tryz.a h
 . exact⟨sA,0,[],J,.inl J,sm,by simp[maxLen],λ_=>⟨J,J⟩⟩
 have E:m=b:=by simpa using i
 refine⟨A x,b,(List.range G).map λi=>(intOf (O i),intOf (U i)),sm,?_,by simpa using y,n,nofun⟩;by_cases E:G=0
 . subst E;exact .inl sm
 have m:∀i,i<G->O i=.q (intOf (O i))/\U i=.q (intOf (U i)):=by
  intro i I;let⟨_,_,b,n⟩:=Y i N;let⟨i,Z,_,_⟩:=kB ur b;obtain⟨b,b,_,_⟩:=kB ur n;simp at Z b
  rw[Z,b];exact⟨J,J⟩
 let⟨b,off,spot⟩:=x;have i:=(Y 0 N).1;have n:spot=none:=by simpa[Addr.add]using lu i
 subst n;refine .inr ⟨b,off,J,by simpa[Addr.add]using BZ i,λi x y I=>?_⟩;have b:i<G:=by
  obtain h|h:=nR i G
  . exact h
  simp[h]at I
 simp[b]at I
 let⟨E,V,_,_⟩:=Y i N;have:=m i b;rw[this.1,I.1]at E;rw[this.2,I.2]at V;rw[κ]at E V;exact⟨E,by rw[lq];exact V⟩
def fo (h:yW enc sr W 0 (λ_=>true) true fuel 22 cs=A x):∃a cap G,cs=[.s a G.length cap]/\EW W a G/\G.length<=cap/\cap<=maxLen:=by
 obtain⟨rfl,_⟩|⟨I,len,cap,m,n,D,aG,rfl,aC,av,aB,ak,-,ax⟩:=open_slice Tryz.underlying22 h
 . exact⟨sA,0,[],J,.inl J,sm,by simp[maxLen]⟩
 have aE:len<=m:=by rw[ak];split<;>omega
 have Z:∀i,i<len->∃q:oA×Nat×lI,W.cell? (I.add i)=A (.s q.1 q.2.2.length q.2.1)/\Cr W q.1 q.2.2/\q.2.2.length<=q.2.1/\q.2.1<=maxLen/\(q.1=sA->q.2.2=[]/\q.2.1=0):=by
  intro i E;let⟨cs',Y,aj⟩:=ax i N;rw[Tryz.S]at Y;obtain⟨a',al,m,rfl,aw,an⟩:=jX aj;let⟨_,_,ao⟩:=World.cells?_some Y;have ac:=ao 0 N;rw[add_add,jL,kt]at ac;exact⟨(a',al,m),by simpa using ac,aw,an⟩
 obtain⟨q,V⟩:∃q:Nat->oA×Nat×lI,∀i,i<len->W.cell? (I.add i)=A (.s (q i).1 (q i).2.2.length (q i).2.1)/\Cr W (q i).1 (q i).2.2/\(q i).2.2.length<=(q i).2.1/\(q i).2.1<=maxLen/\((q i).1=sA->(q i).2.2=[]/\(q i).2.1=0):=
  ⟨λi=>if h:i<len then Classical.choose (Z i h)else(sA,0,[]),λi E=>by simp only[dif_pos E];exact Classical.choose_spec (Z i E)⟩
 refine⟨A I,cap,(List.range len).map λi=>(q i).2.2,sm,?_,by simpa using av,aB⟩;by_cases am:len=0
 . subst am;exact .inl sm
 let⟨b,off,spot⟩:=I;have O:=(V 0 N).1;have ap:spot=none:=by simpa[Addr.add]using lu O
 subst ap;refine .inr ⟨b,off,J,by simpa[Addr.add]using BZ O,λi m E=>?_⟩;have m:i<len:=by
  obtain h|h:=nR i len
  . exact h
  simp[h]at E
 simp[m]at E
 let⟨I,U,n,aq,b⟩:=V i m;rw[E]at I U n b;rw[κ]at I;exact⟨(q i).1,(q i).2.1,I,U,n,aq,b⟩
end
end Go.Proofs.YtaoikkhlnhfkfaaGreatDoor
