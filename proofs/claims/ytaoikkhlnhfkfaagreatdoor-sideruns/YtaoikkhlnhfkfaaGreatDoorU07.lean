import Derived.Test.YtaoikkhlnhfkfaaGreatDoorU00
import Derived.Test.YtaoikkhlnhfkfaaGreatDoorU06
import Derived.Laws.OwnMore
import Derived.Sort.Row
import Derived.Maps.OwnOps
import Derived.Maps.Views
import Derived.Laws.EntriesVeiled
import Derived.Laws.StructEq
set_option maxHeartbeats 2000000
set_option maxRecDepth 100000
set_option linter.defProp false
set_option linter.unusedSimpArgs false
set_option linter.unusedVariables false
namespace Go.Proofs.YtaoikkhlnhfkfaaGreatDoor
open Option renaming some->A,none->sA
open List renaming replicate->AW
open Go renaming maxLen->s7,Ending->Gu,Calls->s8,beq_toListBytes->yY
open _root_.ByteArray renaming toList->sJ
open Decidable renaming decide->vb
open Proofs.Tryz renaming prog->sr
open Instr renaming checkKey->yJ,findNow->vy,mapUpdate->AF,findKey->yi,lookup->x5
open ChangeMaps renaming setBlock->wV
open MapKept renaming run_getObj_map->zp
variable {ls:lI}{c per:Int}{k:Nat}{l:List Sn}{I:Nat ->Int}{L:lN}
def DT.g{a e a'}(h:DT ls c a)(U:DT ls e a'):c=e:=by
 let a:∀j:Nat,j<ls.length->(∀x y,ls[j]? = A (x,y)->Dp x y=false)->Wh ls->False:=λj G g c=>by
  let e:ls[j]? = A (ls[j].1,ls[j].2):=ë G;let I:=c ls[j] (Ζ G);rw[g _ _ e]at I;cases I
 obtain⟨I,rfl,-⟩|⟨I,c,j,G,c,e,rfl,-⟩|⟨h,rfl,-⟩:=h
 .
  obtain⟨E,rfl,-⟩|⟨E,Z,O,V,c,Y,rfl,-⟩|⟨g,rfl,-⟩:=U
  rfl
  omega
  have:=g.1;have:=g.2.1;omega
 .
  obtain⟨E,rfl,-⟩|⟨E,Z,O,V,c,Y,rfl,-⟩|⟨g,rfl,-⟩:=U
  omega
  rfl
  exact(a j G e g.2.2).elim
 obtain⟨E,rfl,-⟩|⟨E,Z,O,V,c,Y,rfl,-⟩|⟨g,rfl,-⟩:=U
 have:=h.1;have:=h.2.1;omega
 exact(a O V Y h.2.2).elim
 rfl
def Ê (E:List UInt8):=if E=[102,105,102,111]then 1 else if E=[114,97,110,107]then 2 else if E=[100,117,101]then 3 else if E=[114,111,117,110,100]then 4 else if E=[102,97,105,114]then 5 else 0
def IX E:Ê E<=5:=by
 unfold Ê;repeat' split
 all_goals omega
def Fh (k:Nat)(E:lZ)(c:Nat):=
 (k=1/\((c=3/\E≠[])\/(c=0/\E=[])))\/(k=2/\BK 0 100 E c)\/(k=3/\BK 0 1099511627776 E c)\/(k=4/\BK 1 3000 E c)\/(k=5/\EN E c)
def ZL (G:1<=k)(I:k<=5) E:∃c,Fh k E c:=by
 rcases(show k=1\/k=2\/k=3\/k=4\/k=5 by omega)with rfl|rfl|rfl|rfl|rfl
 .
  by_cases h:E=[]
  exact⟨0,.inl ⟨J,.inr ⟨J,h⟩⟩⟩
  exact⟨3,.inl ⟨J,.inl ⟨J,h⟩⟩⟩
 have⟨c,h⟩:=Dt 0 100 E;exact⟨c,.inr (.inl ⟨J,h⟩)⟩
 have⟨c,h⟩:=Dt 0 1099511627776 E;exact⟨c,.inr (.inr (.inl ⟨J,h⟩))⟩
 have⟨c,h⟩:=Dt 1 3000 E;exact⟨c,.inr (.inr (.inr (.inl ⟨J,h⟩)))⟩
 have⟨c,h⟩:=Nu E;exact⟨c,.inr (.inr (.inr (.inr ⟨J,h⟩)))⟩
def Fh.j{E c}(h:Fh k E c):c=0\/c=2\/c=3:=by obtain⟨-,⟨h,-⟩|⟨h,-⟩⟩|⟨-,⟨h,-⟩|⟨h,-⟩|⟨h,-⟩⟩|⟨-,⟨h,-⟩|⟨h,-⟩|⟨h,-⟩⟩|⟨-,⟨h,-⟩|⟨h,-⟩|⟨h,-⟩⟩|⟨-,⟨h,-⟩|⟨h,-⟩|⟨h,-⟩⟩:=h<;>omega
def Bf (cs:List lI)(f:Nat):=cs.getD f []
def K4{cs f}(h:cs[f]? = A ls):Bf cs f=ls:=by simp[Bf,h]
def Db (cs:List lI)(k:Nat):=∀(i:Nat) ls,i<k->cs[i]? = A ls->ls=[]\/Bq ls
def N8 (cs:List lI)(i:Nat)(c:Int):=∃ls p,cs[i]? = A ls/\ls≠[]/\DT ls c p/\0<c
def QF cs:∀k,k<=cs.length->Db cs k\/∃i c,i<k/\N8 cs i c/\Db cs i
 |0,_=>.inl λi X h=>absurd h (İ _)
 |k+1,aa=>by
  obtain h|⟨i,c,ab,U,V⟩:=QF cs k N
  .
   let e:cs[k]? = A cs[k]:=ë N;by_cases O:cs[k]=[]
   .
    refine .inl λi X Z E=>?_
    obtain G|G:=nR i k
    exact h i X G E
    obtain rfl:i=k:=N;rw[e]at E;obtain rfl:=Ö E;exact .inl O
   have⟨c,p,I⟩:=n8 cs[k];by_cases Y:c=0
   .
    subst Y;refine .inl λi X Z E=>?_
    obtain G|G:=nR i k
    exact h i X G E
    obtain rfl:i=k:=N;rw[e]at E;obtain rfl:=Ö E;exact .inr I.y.1
   have:=I.d;exact .inr ⟨k,c,N,⟨_,p,e,O,I,N⟩,h⟩
  exact .inr ⟨i,c,N,U,V⟩
def Db.y{cs}(h:Db cs 8):LU (Bf cs):=λf E=>by
 cases e:cs[f]? with
 |none=>exact .inl (by simp[Bf,e])
 |some Z=>rw[K4 e];exact h f Z E e
def GV (cs:List lI)(k:Nat)(per:Int)(E:lZ)(c p:Int):=
 (cs.length≠8/\c=3/\p= -1)\/(cs.length=8/\∃i:Nat,N8 cs i c/\p=i/\Db cs i)\/
  (cs.length=8/\Db cs 8/\p= -1/\((k=0/\c=9)\/(1<=k/\k<=5/\((¬(1<=per/\per<=1000)/\c=2)\/(1<=per/\per<=1000/\∃d:Nat,Fh k E d/\c=d)))))
structure M5 (cs:List lI)(k:Nat)(per:Int)(ns:lZ):Prop where
 len:cs.length=8
 a:Db cs 8
 d:1<=k/\k<=5
 e:1<=per/\per<=1000
 j:Fh k ns 0
def RG cs(I:k<=5) per O:∃c p,GV cs k per O c p:=by
 by_cases E:cs.length=8
 .
  obtain h|⟨i,c,d,V,Z⟩:=QF cs 8 N
  .
   by_cases Y:k=0
   exact⟨9,-1,.inr (.inr ⟨E,h,J,.inl ⟨Y,J⟩⟩)⟩
   by_cases G:1<=per/\per<=1000
   have⟨d,U⟩:=ZL (k:=k) N I O;exact⟨d,-1,.inr (.inr ⟨E,h,J,.inr ⟨N,I,.inr ⟨G.1,G.2,d,U,J⟩⟩⟩)⟩
   exact⟨2,-1,.inr (.inr ⟨E,h,J,.inr ⟨N,I,.inl ⟨G,J⟩⟩⟩)⟩
  exact⟨c,i,.inr (.inl ⟨E,i,V,J,Z⟩)⟩
 exact⟨3,-1,.inl ⟨E,J,J⟩⟩
def GV.d{cs G p}(h:GV cs k per G c p):(c=0/\p= -1/\M5 cs k per G)\/(0<c/\c<=9):=by
 obtain⟨-,h,-⟩|⟨-,i,⟨c,q,-,-,U,h⟩,-⟩|⟨i,Y,O,⟨-,h⟩|⟨I,c,⟨-,h⟩|⟨V,Z,d,E,h⟩⟩⟩:=h
 exact .inr N
 have:=U.d;exact .inr N
 exact .inr N
 exact .inr N
 obtain rfl|rfl|rfl:=E.j
 exact .inl ⟨N,O,i,Y,⟨I,c⟩,⟨V,Z⟩,E⟩
 exact .inr N
 exact .inr N
def CX (k:Nat)(per:Int)(ps:List Pk)(E:lZ)(l:List Sn):=
 (k=1/\l=Cs per ps ps.length)\/(k=2/\FD per ps (BM ps E) l/\l.length=ps.length)\/(k=3/\FD per ps (Cm ps E) l/\l.length=ps.length)\/(k=4/\ES per ps E l)\/(k=5/\∃G,Gn per ps E l G)
def CX.u{ps O m}(h:CX k per ps O l)(E:CX k per ps O m):l=m:=by
 obtain⟨rfl,h⟩|⟨rfl,I,V⟩|⟨rfl,I,V⟩|⟨rfl,h⟩|⟨rfl,Z,h⟩:=h
 .
  obtain⟨-,E⟩|⟨e,-⟩|⟨e,-⟩|⟨e,-⟩|⟨e,-⟩:=E
  rw[h,E]
  all_goals omega
 .
  obtain⟨e,-⟩|⟨-,G,U⟩|⟨e,-⟩|⟨e,-⟩|⟨e,-⟩:=E
  case inr.inl=>exact I.u G N
  all_goals omega
 .
  obtain⟨e,-⟩|⟨e,-⟩|⟨-,G,U⟩|⟨e,-⟩|⟨e,-⟩:=E
  case inr.inr.inl=>exact I.u G N
  all_goals omega
 .
  obtain⟨e,-⟩|⟨e,-⟩|⟨e,-⟩|⟨-,g⟩|⟨e,-⟩:=E
  case inr.inr.inr.inl=>exact h.u g
  all_goals omega
 obtain⟨e,-⟩|⟨e,-⟩|⟨e,-⟩|⟨e,-⟩|⟨-,Y,g⟩:=E
 case inr.inr.inr.inr=>exact(h.u g).1
 all_goals omega
def BK.y{V G}{E:lZ}(h:BK V G E 0):Ef V G E:=by
 obtain⟨h,-⟩|⟨h,-⟩|⟨-,h⟩:=h
 omega
 omega
 exact h
def EN.y{E:lZ}(h:EN E 0):Ip E:=by
 obtain⟨h,-⟩|⟨h,-⟩|⟨-,h⟩:=h
 omega
 omega
 exact h
def Bz (cs:Nat->lI)(ps:List Pk)(i:Nat):=∃p s,ps[i]? = A p/\cs (Aj ps i)≠[]/\shape (cs (Aj ps i)) ((Bv ps (Aj ps i) ps.length).take (Km ps i))=A s/\Dn s p=sA
def aU (ls:lI):∀own,shape ls own=sA->∃(j:Nat)(p:Pk)(s:Sh),own[j]? = A p/\shape ls (own.take j)=A s/\Dn s p=none:=by
 refine gQ (λh=>nf h) (λown p I h=>?_);rw[ME]at h;cases E:shape ls _ with
 |none=>
  have⟨j,q,s,G,U,V⟩:=I E;have O  := Ap G;exact⟨j,q,s,č O▸G,by rw[lL N];exact U,V⟩
 |some s=>
  rw[E]at h;exact⟨own.length,p,s,sm,sx E,h⟩
section
variable {cs:Nat->List (Int×Int)}{ps:List Pk}
def lh (V:Ar ps)(X:∀i,¬Bz cs ps i) f:∃out,Dy cs ps f=A out:=by
 unfold Dy;by_cases E:cs f=[]
 exact⟨_,Æ E⟩
 rw[Ä E];cases ab:shape (cs f) (Bv ps f ps.length)with
 |some s=>exact⟨_,J⟩
 |none=>
  have⟨j,p,s,O,Z,W⟩:=aU _ _ ab;let I:=Fz V f ps.length lr;let Y:j<(A9 ps f ps.length).length:=I.1▸Ap O
  let e:=ë Y;obtain⟨i,G,i,U⟩:=I.2 j _ e;refine absurd ⟨p,s,U▸O,G▸E,by rw[G,i];exact Z,W⟩ (X (A9 ps f _)[j])
def JU (cs:Nat->lI)(k:Nat)(per:Int)(G:lZ)(ps qs:List Pk)(l:List Sn):=∃E L,è cs ps E/\BD E ps.length L/\qs=Aq ps E L/\CX k per qs G l
def rO (E:Ar ps)(U:∀i,¬Bz cs ps i):∃I,è cs ps I:=by
 have⟨out,G⟩:=Classical.axiomOfChoice λf=>lh (cs:=cs) E U f
 refine⟨λi=>Ay (out (Aj ps i)) (Km ps i),λf V=>⟨_,G f,λr i O=>?_⟩⟩;obtain⟨-,Y,Z,-⟩:=(Fz E f _ lr).2 r i O;simp_all
def è.u (I:Ar ps){G V}(O:è cs ps G)(X:è cs ps V){i}(U:i<ps.length):G i=V i:=by
 let E:=Kn I U;have⟨out,Z,i⟩:=O _ E;obtain⟨G,G,Y⟩:=X _ E;obtain rfl:=Ö (Z.symm.trans G);let O:=Us I U lr;rw[i _ _ O,Y _ _ O]
def BD.p{E n}(h:BD E n L)(G:∀i,i<n->E i=I i):BD I n L:=by
 refine⟨?_,h.d⟩;refine List.Pairwise.imp_of_mem (λ{a b} O V U=>?_) h.a;let Y:=G a ((h.d a).1 O);let Z:=G b ((h.d b).1 V);unfold â at U⊢;omega
def tX (U:Ar ps){E}{se:lN}(Y:è cs ps E)(V:è cs ps I)(O:BD E ps.length L)(Z:BD I ps.length se):Aq ps E L=Aq ps I se:=by
 obtain rfl:=(O.p λi G=>Y.u U V G).u Z;refine List.map_congr_left λi G=>?_
 let E:=(O.d i).1 G;let e:ps[i]? = A ps[i]:=ë _;rw[FN e,FN e,Y.u U V E]
def JU.u{I e G E}(Y:Ar ps)(h:JU cs k per I ps e l)(V:JU cs k per I ps G E):e=G/\l=E:=by
 obtain⟨e,L,Z,k,rfl,l⟩:=h;obtain⟨e,se,U,h,rfl,O⟩:=V;let e:=tX Y Z U k h;rw[<-e]at O;exact⟨e,l.u O⟩
end
def wS{P:Nat->Prop}(h:∃i,P i):∃i,P i/\∀j,j<i->¬P j:=by
 have⟨n,Y⟩:=h;induction n using Nat.strongRecOn with
 |_ n U=>
  by_cases E:∃m,m<n/\P m
  have⟨m,V,O⟩:=E;exact U m V O
  exact⟨n,Y,λj I G=>E ⟨j,I,G⟩⟩
def XR (cs:List lI)(k:Nat)(per:Int)(E:lZ)(ps:List Pk)(c p:Int):=
 (GV cs k per E c p/\0<c)\/(M5 cs k per E/\Ky ps c p/\0<c)\/(M5 cs k per E/\Ar ps/\∃i:Nat,Bz (Bf cs) ps i/\(∀j,j<i->¬Bz (Bf cs) ps j)/\c=4/\p=i)\/(M5 cs k per E/\Ar ps/\(∀i,¬Bz (Bf cs) ps i)/\c=0/\p= -1)
def vQ cs(Z:k<=5) per U ps:∃c p,XR cs k per U ps c p:=by
 have⟨c,p,V⟩:=RG cs Z per U;obtain⟨rfl,rfl,E⟩|G:=V.d
 .
  have⟨c,p,I⟩:=gL ps;obtain⟨rfl,rfl,O⟩|G:=I.d
  .
   by_cases Y:∃i,Bz (Bf cs) ps i
   have⟨i,h,k⟩:=wS Y;exact⟨4,i,.inr (.inr (.inl ⟨E,O,i,h,k,J,J⟩))⟩
   exact⟨0,-1,.inr (.inr (.inr ⟨E,O,λi h=>Y ⟨i,h⟩,J,J⟩))⟩
  exact⟨c,p,.inr (.inl ⟨E,I,G⟩)⟩
 exact⟨c,p,.inl ⟨V,G.1⟩⟩
open Go.RowKit Go.Sort
def É (xs:lZ):List Vl:=xs.map (Value.int .i64)
def Jl xs:(É xs).length=xs.length:=by simp[É]
def gT a b:É (a++b)=É a++É b:=by simp[É]
def Jn{xs}{j:Nat}{x}(h:xs[j]? = A x):(É xs)[j]? = A (.q x):=by simp[É,h]
def Ff xs:∀u∈É xs,u.oneCell'=true:=by
 intro u E;obtain⟨x,-,rfl⟩:=Ő.1 E;rfl
def eT{w:M}{B}{e:tI}{g cap E}(h:w.ownsRow B e 1 (.sl g 0 E.length cap) E.length (É E)) i q(G:i<E.length):(putRow (Value.int .i64) (Sort.ahead w q) g 0 (E.take i++E.drop (i+1)++AW (i+1-i) 0).toArray).ownsRow B e 1 (.sl g 0 (E.length-1) cap) (E.length-1) (É (E.eraseIdx i))/\
   Ç (λk=>k=g) w (putRow (Value.int .i64) (Sort.ahead w q) g 0 (E.take i++E.drop (i+1)++AW (i+1-i) 0).toArray):=by
 let Z:(E.eraseIdx i).length=E.length-1:=by rw[l6,Æ G]
 obtain⟨G,_⟩|⟨g',e,cur,G,e,q,k,U,k,w⟩:=h.2
 simp at G
 simp[Value.slice.injEq,k6,Addr.mk.injEq,and_true,true_and]at G;let⟨rfl,rfl⟩:=G;refine⟨⟨by rw[Jl,Z,jL],.inr ⟨g,cap,putCells (Value.int .i64) 0 (E.take i++E.drop (i+1)++AW (i+1-i) 0).toArray cur,J,e,?_,N,U,by simp[putCells,k],?_⟩⟩,⟨J,J,J,sm,λk I e=>?_⟩⟩
 simp[putRow,mapBlock,π,heap_ahead,q];rfl
 .
  apply List.ext_getElem?;intro k;rw[ψ,jL];by_cases I:k<E.length-1
  .
   rw[Æ I];let g:(E.eraseIdx i)[k]? = A ((E.eraseIdx i)[k]'N):=ë N;rw[Jn g];let V:cur[k]? = A cur[k]:=ÿ N;let O:(E.take i++E.drop (i+1)++AW (i+1-i) (0:Int)).length=E.length:=by
    simp[ý,Ε,ld,List.length_replicate];omega
   simp only[putCells,Array.getElem?_toList,Array.getElem?_mapIdx,V,ţ];rw[Æ ⟨uD _,by rw[Ŷ,O];omega⟩]
   congr 2
   rw[Nat.sub_zero,getElem!_pos _ k (by rw[Ŷ,O];omega)];let Y:E.take i++E.drop (i+1)=E.eraseIdx i:=(List.eraseIdx_eq_take_drop_succ ..).symm;simp[Y,List.getElem_toArray];rw[List.getElem_append_left N]
  rw[Ä I,ą (ot Jl)]
 simp only[putRow,mapBlock,π,heap_ahead];rw[Ä (λh=>e h.symm)]
variable {w w':M}{B:Nat}{a:oA}{cs:List lI}
def fQ{e:Nat}{v:Vl}{E}(h:w.ownsRow B e 1 v E.length (É E)):∃a cap,v=.s a E.length cap/\E.length<=cap/\cap<=s7/\Bc w a E:=by
 let U:=h;obtain⟨Z,⟨rfl,G⟩|⟨g,cap,cur,rfl,a,V,Y,O,a,a⟩⟩:=h
 exact⟨sA,0,G▸rfl,N,by simp[s7],.inl (Ğ.1 G)⟩
 refine⟨_,cap,J,Y,O,.inr ⟨g,0,J,ī V,λi x I=>?_⟩⟩;rw[Ă,U.cellAt i (oe (ŭ.1 I).1)];exact Jn I
def EW (w:M)(a:oA)(cs:List lI):=
 cs=[]\/∃b off,a=A (C b off)/\b<w.heap.size/\∀(i:Nat) ls,cs[i]? = A ls->∃a' cap,w.cell? (C b (off+i))=A (.s a' ls.length cap)/\Cr w a' ls/\ls.length<=cap/\cap<=s7/\(a'=sA->ls=[]/\cap=0)
def EW.h (h:EW w a cs)(E:1<=cs.length):∃b off,a=A (C b off)/\b<w.heap.size/\∀(i:Nat) ls,cs[i]? = A ls->∃a' cap,w.cell? (C b (off+i))=A (.s a' ls.length cap)/\Cr w a' ls/\ls.length<=cap/\cap<=s7/\(a'=sA->ls=[]/\cap=0):=by
 obtain rfl|h:=h
 simp at E
 exact h
def EW.d (h:EW w a cs)(E:zW w w'):EW w' a cs:=by
 obtain rfl|⟨b,off,rfl,G,V⟩:=h
 exact .inl J
 refine .inr ⟨b,off,J,rZ G E.size,λi a Y=>?_⟩;have⟨a',cap,O,I,U⟩:=V i a Y;exact⟨a',cap,jf E O,I.d E,U⟩
structure CE (w:M)(B:Nat)(ca:Vl)(kb:bA)(per:Int)(na:Vl):Prop where
 e:w.cell? (C B 0)=A ca
 a:w.cell? (C B 1)=A (.st kb)
 k:w.cell? (C B 2)=A (.q per)
 l:w.cell? (C B 3)=A na
def EA (w:M)(I:Vl)(G:bA) per(E:Vl)(t:tI):CE (w.alloc (.c #[I,.st G,.q per,E] t)) w.heap.size I G per E:=⟨sm,sm,sm,sm⟩
def CE.later{E O per I}(h:CE w B E O per I)(G:zW w w'):CE w' B E O per I:=⟨jf G h.e,jf G h.a,jf G h.k,jf G h.l⟩
def kX:sJ ⟨#[102,105,102,111]⟩=[102,105,102,111]:=kr
def l8:sJ ⟨#[114,97,110,107]⟩=[114,97,110,107]:=kr
def rT:sJ ⟨#[100,117,101]⟩=[100,117,101]:=kr
def bG:sJ ⟨#[114,111,117,110,100]⟩=[114,111,117,110,100]:=kr
def kS:sJ ⟨#[102,97,105,114]⟩=[102,97,105,114]:=kr
structure sO (s:bA)(b1 b2 b3 b4 b5:Bool):Prop where
 a:(s.toList==[102,105,102,111])=b1
 i:(s.toList==[114,97,110,107])=b2
 j:(s.toList==[100,117,101])=b3
 r:(s.toList==[114,111,117,110,100])=b4
 q:(s.toList==[102,97,105,114])=b5
 b:(s.toList==sJ ⟨#[102,105,102,111]⟩)=b1
 d:(s.toList==sJ ⟨#[114,97,110,107]⟩)=b2
 e:(s.toList==sJ ⟨#[100,117,101]⟩)=b3
 g:(s.toList==sJ ⟨#[114,111,117,110,100]⟩)=b4
 h:(s.toList==sJ ⟨#[102,97,105,114]⟩)=b5
def Sa s:sO s (vb (Ê s.toList=1)) (vb (Ê s.toList=2)) (vb (Ê s.toList=3)) (vb (Ê s.toList=4)) (vb (Ê s.toList=5)):=by
 let key:∀E:List UInt8,(E==[102,105,102,111])=vb (Ê E=1)/\(E==[114,97,110,107])=vb (Ê E=2)/\(E==[100,117,101])=vb (Ê E=3)/\(E==[114,111,117,110,100])=vb (Ê E=4)/\(E==[102,97,105,114])=vb (Ê E=5):=by
  intro E;by_cases O:E=[102,105,102,111]
  subst O;decide
  by_cases G:E=[114,97,110,107]
  subst G;decide
  by_cases V:E=[100,117,101]
  subst V;decide
  by_cases I:E=[114,111,117,110,100]
  subst I;decide
  by_cases U:E=[102,97,105,114]
  subst U;decide
  let Y:Ê E=0:=by simp[Ê,O,G,V,I,U]
  rw[Y];refine⟨?_,?_,?_,?_,?_⟩
  simpa using O
  simpa using G
  simpa using V
  simpa using I
  simpa using U
 have⟨Y,Z,G,I,E⟩:=key s.toList;exact⟨Y,Z,G,I,E,rj kX Y,rj l8 Z,rj rT G,rj bG I,rj kS E⟩
def Ō (p:Int)(v:Vl)(w:M)(e:Gu)(w':M):=∃B,e=.r (.f 119 (.pp B 0))/\w'.cell? (C B 0)=A (.q p)/\w'.cell? (C B 1)=A v/\w.heap.size<=B/\zW w w'
def U1{p v}{w W:M}{t:tI}(h:zW w W):Ō p v w (.r (.f 119 (.pp W.heap.size 0))) (W.alloc (.c #[.q p,v] t)):=
 ⟨W.z,J,sm,sm,h.size,h.alloc h.size _⟩
def Po p E(ty:tI)(x:Vl)(w:M) ad(V:Errs9 w ad)(O:w.cell? (C E 1)=A (.f ty x)):s8 sr 62 #[.q p,.f 119 (.pp E 0)] w (Ō p (.f ty x) w):=by
 let U:Hid (zW w (w.alloc (.c #[.p sA] 119))):=ba;have Z:=Io V;have Y:=Io O;clear V O;go_in
 go_wp21;apply(jP (C E 0) (C w.z 0) (.p sA) _ (Z.o.d U.o).g sm sm).mono
 rintro e w1⟨rfl,I⟩;let G:zW w w1:=by
  rw[I];exact((((U.o.alloc sm _).alloc so _).alloc so _).alloc so _).setCell lr _
 have p:w1.cell? (C w.z 0)=A (.pp E 0):=by
  rw[I];exact kJ w ..
 have e:=Io G;have p:=jf G Y.o;clear I G;go_wp2
 go_ret;exact U1 e.o
def QJ p e(w:M) ad(G:Errs9 w ad):s8 sr 62 #[.q p,.f 255 (.p (A e))] w (Ō p (.f 255 (.p (A e))) w):=by
 let E:Hid (zW w (w.alloc (.c #[.p sA] 119))):=ba;have O:=Io G;clear G;go_in
 go_wp21;apply(nH e (C w.z 0) _ (O.o.d E.o).g).mono
 rintro e e⟨rfl,I⟩;have U:Hid (zW w e):=by
  show Below ..
  rw[I];exact((E.o.alloc sm _).alloc so _).alloc so _
 clear I;go_wp2
 go_ret;exact U1 U.o
def Hg (a:oA)(n cap:Nat)(w:M) b(E:((n:Int)==0)=b):s8 sr 60 #[.s a n cap] w λe w'=>e=.r (.bool b)/\w'=w:=by
 go_in
 go_wp2
 go_ret;exact⟨J,J⟩
def uq (ad:Nat->Addr)(c:Int)(w:M)(e:Gu)(w':M):=∃ty v,e=.r (.f ty v)/\zW w w'/\∃k:Nat,k<9/\c=((k+1:Nat):Int)/\∀W (p:Int),zW w' W->Ë 62 #[.q p,.f ty v] W (Ō p (.f 255 (.p (A (ad k)))) W)
def jI (a:oA) cap(ls:lI)(w:M) ad(E:Errs9 w ad)(V:Cr w a ls)(e:ls.length<=cap)(e:cap<=s7) c p(h:DT ls c p)(X:0<c):Ë 61 #[.s a ls.length cap] w λe w'=>uq ad c w e w':=by
 obtain⟨G,rfl,rfl⟩|⟨G,O,j,Y,B,Z,rfl,rfl⟩|⟨h,rfl,rfl⟩:=h
 .
  apply(Sm a ls.length cap w _ E.k N G).mono
  rintro e w'⟨rfl,rfl⟩;exact⟨_,_,J,br,2,N,J,λW p c=>QJ p (ad 2) W ad (E.d c)⟩
 .
  apply(Xo a cap ls w (ad 1) E.a V G O j Y B Z).mono
  rintro e w'⟨I,B,rfl,a,a,a,U⟩;exact⟨_,_,J,I,1,N,J,λW p c=>Po p B _ _ W ad ((E.d I).d c) (jf c U)⟩
 exact absurd X N
def Qk (U:oA) m I(w:M) ad(E:Errs9 w ad)(h:m≠8):s8 sr 34 #[.s U m I] w λe w'=>∃G,e=.r G/\Bo w' G 3 (-1)/\zW w w':=by
 have Y:=E.k;have O:=Io E;let Z:((m:Int)==8)=false:=so
 let V:¬(m:Int)=8:=N;clear E;go_in
 go_wp2
 go_ret;exact⟨_,J,CJ O.o 2 N,br⟩
def p' (c p:Int)(w:M)(e:Gu)(w':M):=∃E,e=.r E/\Bo w' E c p/\zW w w'
def Ob aE bg cs(w:M) ad(q:Errs9 w ad)(n:EW w aE cs)(aa:cs.length=8) i(bv:i<=8)(k:Db cs i)(c p:Int)(a1:(i=8/\c=0/\p= -1)\/(N8 cs i c/\p=i)):s8 sr 34 #[.s aE cs.length bg] w λe w'=>p' c p w e w':=by
 have a7:=Io q;have bf:=Io k;have ab:=Io a1;obtain⟨b,off,rfl,-,b⟩:=n.h N;have bj:=Io b;have aC:=Io aa;rw[aa];clear q k a1 n b aa;go_in
 go_wp21;go_loopg[12] 8 (λbe bp wr=>∃k:Nat,bp=.q (k:Int)/\k<=i/\8-k<=be/\Hid (zW w wr))
 case atStart=>exact⟨0,J,uD _,N,br⟩
 case round=>
  obtain⟨k,rfl,bs,bt,G⟩:=hrel;by_cases bh:k<8
  .
   let bk:(k:Int)<8:=N;obtain⟨ls,al,-⟩:=Ao cs k (aC.o▸bh);obtain⟨a',cap,aL,B,w,v,-⟩:=bj.o k ls al;let cj:=jf G.o aL;have Z:=Io al;obtain⟨n,ai⟩:=ex ls.length;have V:=Io ai;have Y:=qZ B w v;rw[ai]at cj;clear al aL B w v ai;by_cases I:n=0
   .
    have U:=Io (Hg a' n cap wr true (by simp;exact I));have bn:Hid (k<i):=by
     show k<i
     obtain h|h:=nR k i
     exact h
     obtain rfl:k=i:=N;obtain⟨E,-⟩|⟨⟨an,ak,E,bc,-⟩,-⟩:=ab.o
     omega
     rw[Z.o]at E;obtain rfl:=Ö E;exact absurd (Ğ.1 (V.o.trans I)) bc
    clear I;go_wp21;refine U.o.mono ?_
    rintro e S⟨rfl,rfl⟩;go_wp2
    go_roundg (8-(k+1))
    case measure=>omega
    case rel=>exact⟨k+1,nd,bn.o,lr,G⟩
   have U:=Io (Hg a' n cap wr false so);by_cases B:k<i
   .
    let e:Bq ls:=by
     obtain h|h:=bf.o k ls B Z.o
     exact absurd (V.o▸h▸rfl) I
     exact h
    have aj:Hid (qW 61 #[.s a' n cap] wr .n):=by
     have:=LH a' cap ls wr (Y.o.1.d G.o) e;rwa[V.o]at this
    clear e I;go_wp21;refine U.o.mono ?_
    rintro e S⟨rfl,rfl⟩;go_wp21;refine aj.o.mono ?_
    rintro e w2⟨rfl,O⟩;have ac:=Io (G.o.tr O);clear O;go_wp2
    go_roundg (8-(k+1))
    case measure=>omega
    case rel=>exact⟨k+1,nd,B,lr,ac⟩
   obtain rfl:k=i:=N;obtain⟨bb,am⟩:N8 cs k c/\p=k:=by
    obtain⟨E,-⟩|E:=ab.o
    omega
    exact E
   obtain⟨an,ak,E,-,h,aB⟩:=bb;rw[Z.o]at E;obtain rfl:=Ö E;have aj:Hid (Ë 61 #[.s a' n cap] wr λe w'=>uq ad c wr e w'):=by
    have:=jI a' cap ls wr ad (a7.o.d G.o) (Y.o.1.d G.o) Y.o.2.1 Y.o.2.2 c ak h aB;rwa[V.o]at this
   have bq:=Io am;clear am h aB E I;go_wp21;refine U.o.mono ?_
   rintro e S⟨rfl,rfl⟩;go_wp21;refine aj.o.mono ?_
   rintro e w2⟨ty,v,rfl,O,q,bl,e,n⟩;have bm:=(show Hid (Ë 62 #[.q (k:Int),.f ty v] w2 (Ō (k:Int) (.f 255 (.p (A (ad q)))) w2))from n w2 (k:Int) br)
   have ac:=Io (G.o.tr O);have bd:=Io e;clear O n e;go_wp21;refine bm.o.mono ?_
   rintro e w3⟨B,rfl,aG,a4,-,a8⟩;have ax:=Io (ac.o.tr a8);have ap:=qY aG a4;clear a8 aG a4;go_wp2
   go_ret;refine⟨_,J,?_,ax.o⟩;rw[bd.o,bq.o];refine⟨?_,λh=>N,λ_=>⟨_,_,J⟩⟩;have:=FZ (a7.o.d ax.o) q bl (k:Int) B ap.o.1 ap.o.2;simpa using this
  let bk:¬(k:Int)<8:=N;obtain rfl:i=8:=N;let aI:Hid (c=0/\p= -1):=by
   obtain⟨-,h⟩|⟨⟨an,ak,E,-⟩,-⟩:=ab.o
   exact h
   rw[ą (oe aC.o)]at E;cases E
  obtain rfl:k=8:=N;go_wp2
  go_ret;refine⟨_,J,?_,G.o⟩;rw[aI.o.1,aI.o.2];exact Oy wr
variable {P:pG}{k t e:tI}{w:M}{b U:Nat}
def ja (E:P.underlying k=A .string)(w:M) b(s:bA):(yJ b 10000 k (.st s)).run P w=.ok () w:=by
 unfold yJ;simp[ź E]
def uZ (I:P.underlying t=A (.map k e))(G:P.underlying k=A .string){es}(E:w.heap[b]? = A (.map es U))(s:bA)(v:Vl)(V:vy .string (.string s) es.toList 0=A sA):∃w',(AF t (.map (A b)) (.string s) v).run P w=.ok () w'/\w'.heap[b]? = A (.map (es.push {key:=.string s,val:=v,born:=U}) (U+1))/\Ç (λk=>k=b) w w':=by
 refine⟨wV w b (.map (es.push _) _),?_,ChangeMaps.heap_setBlock_same E _,⟨J,J,J,by simp[wV],λi _ O=>ChangeMaps.heap_setBlock_other E _ (λe=>O e)⟩⟩;simp[AF,ź I,zp E,ja G,ź G,yi,V,MapKept.run_setObj_map _ E,wV]
def pL (G:P.underlying t=A (.map k e))(E:P.underlying k=A .string){es}(I:w.heap[b]? = A (.map es U))(s:bA) i(v:Vl)(O:vy .string (.string s) es.toList 0=A (A (i,v))) c:(x5 t (.map (A b)) (.string s) c).run P w=.ok (if c then .tuple #[v,.bool true]else v) w:=by cases c<;>simp[x5,ź G,zp I,ja E,ź E,yi,O]
def lH (G:P.underlying t=A (.map k e))(E:P.underlying k=A .string){es}(I:w.heap[b]? = A (.map es U))(s:bA)(z:Vl)(V:(zeroValue e).run P w=.ok z w)(O:vy .string (.string s) es.toList 0=A sA) c:(x5 t (.map (A b)) (.string s) c).run P w=.ok (if c then .tuple #[z,.bool false]else z) w:=by cases c<;>simp[x5,ź G,zp I,ja E,ź E,yi,O,V]
def E8 (X:Nat):Nat->Vl
 |1=>.func (.func 108) #[] #[.pp X 0]
 |2=>.func (.func 65) #[] #[]
 |3=>.func (.func 66) #[] #[]
 |4=>.func (.func 67) #[] #[]
 |5=>.func (.func 68) #[] #[]
 |_=>.nilFunc
def zD (X:Nat):Obj:=.map #[{key:=.st ⟨#[102,105,102,111]⟩,val:=E8 X 1,born:=0},{key:=.st ⟨#[114,97,110,107]⟩,val:=E8 X 2,born:=1},{key:=.st ⟨#[100,117,101]⟩,val:=E8 X 3,born:=2},{key:=.st ⟨#[114,111,117,110,100]⟩,val:=E8 X 4,born:=3},{key:=.st ⟨#[102,97,105,114]⟩,val:=E8 X 5,born:=4}] 5
structure QP (w:M)(se X:Nat):Prop where
 e:w.heap[se]? = A (zD X)
 box:w.cell? (C X 0)=A (.func (.func 64) #[] #[])
def si (E:bA) X k(G:Ê E.toList=k):vy .string (.string E) [{key:=.string ⟨#[102,105,102,111]⟩,val:=E8 X 1,born:=0},{key:=.string ⟨#[114,97,110,107]⟩,val:=E8 X 2,born:=1},{key:=.string ⟨#[100,117,101]⟩,val:=E8 X 3,born:=2},{key:=.string ⟨#[114,111,117,110,100]⟩,val:=E8 X 4,born:=3},{key:=.string ⟨#[102,97,105,114]⟩,val:=E8 X 5,born:=4}] 0=A (if k=0 then sA else A (k-1,E8 X k)):=by
 let t:=Sa E;rw[G]at t;let Z:k<=5:=G▸IX _
 let O:=yY E ⟨#[102,105,102,111]⟩;let Y:=yY E ⟨#[114,97,110,107]⟩;let U:=yY E ⟨#[100,117,101]⟩;let V:=yY E ⟨#[114,111,117,110,100]⟩;let I:=yY E ⟨#[102,97,105,114]⟩;rw[t.b]at O;rw[t.d]at Y;rw[t.e]at U;rw[t.g]at V;rw[t.h]at I;rcases(show k=0\/k=1\/k=2\/k=3\/k=4\/k=5 by omega)with rfl|rfl|rfl|rfl|rfl|rfl<;>simp[vy,Instr.sameNow,O,Y,U,V,I]<;>rfl
def Tryz.g:sr.underlying 84=A (.map 9 82):=kr
def Tryz.D:sr.underlying 9=A .string:=kr
def QP.d{se X}(h:QP w se X)(E:bA){k}(O:Ê E.toList=k) c:(x5 84 (.map (A se)) (.string E) c).run sr w=.ok (if c then .tuple #[E8 X k,.bool (vb (k≠0))]else E8 X k) w:=by
 let G:=si E X k O;by_cases I:k=0
 subst I;exact lH Tryz.g Tryz.D h.e E _ (kr) G c
 rw[Ä I]at G;have:=pL (P:=sr) Tryz.g Tryz.D h.e E _ _ G c;rw[this];simp[I]
def PP (v:Vl)(w:M)(f:Nat)(E:v=.func (.func f) #[] #[]):s8 sr 63 #[v] w λe w'=>e=.r (.func (.func 108) #[] #[.pp w.heap.size 0])/\w'=w.alloc (.c #[v] 139):=by
 subst E;go_in
 go_wp2
 go_ret;exact⟨J,J⟩
def kg (w:M):s8 sr 35 #[] w λe w'=>∃se X,e=.r (.map (A se))/\QP w' se X/\zW w w':=by
 let L:Hid (∀W,Ë 63 #[.func (.func 64) #[] #[]] W λe w'=>e=.r (.func (.func 108) #[] #[.pp W.z 0])/\w'=W.alloc (.c #[.func (.func 64) #[] #[]] 139)):=λW=>PP _ W _ J
 let V:zW w (w.alloc (.map #[] 0)):=ba;let G:zW w ((w.alloc (.map #[] 0)).alloc (.c #[.func (.func 64) #[] #[]] 139)):=V.alloc V.size _;let U:=(((bC (w.alloc (.map #[] 0)).z (w.alloc (.map #[] 0))).alloc lr (.c #[.func (.func 64) #[] #[]] 139)).block w.z sm).trans (by show(w.heap.push (Obj.map #[] 0))[w.z]? = A (Obj.map #[] 0);simp);let E:((w.alloc (.map #[] 0)).alloc (.c #[.func (.func 64) #[] #[]] 139)).cell? (C (w.z+1) 0)=A (.func (.func 64) #[] #[]):=sm;let r9:(w.alloc (.map #[] 0)).z=w.z+1:=sm;have⟨e,I⟩:=ex ((w.alloc (.map #[] 0)).alloc (.c #[.func (.func 64) #[] #[]] 139));rw[I]at G U E;obtain⟨e,e,W,Y⟩:=uZ Tryz.g Tryz.D U ⟨#[102,105,102,111]⟩ (.func (.func 108) #[] #[.pp (w.z+1) 0]) kr;obtain⟨e,e,e,S⟩:=uZ Tryz.g Tryz.D W ⟨#[114,97,110,107]⟩ (.func (.func 65) #[] #[]) kr;obtain⟨k,k,X,P⟩:=uZ Tryz.g Tryz.D e ⟨#[100,117,101]⟩ (.func (.func 66) #[] #[]) kr;obtain⟨k,k,Q,T⟩:=uZ Tryz.g Tryz.D X ⟨#[114,111,117,110,100]⟩ (.func (.func 67) #[] #[]) kr;have⟨k,se,R,Z⟩:=uZ Tryz.g Tryz.D Q ⟨#[102,97,105,114]⟩ (.func (.func 68) #[] #[]) kr;let O:=(((Y.G S).G P).G T).G Z;have se:Hid (QP k w.z (w.z+1)/\zW w k):=by
  refine⟨⟨R,?_⟩,G.trans (O.d G.size λk k=>k▸lr)⟩;rw[O.E (p:=(C (w.z+1) 0)) (BZ E) (by show ¬w.z+1=w.z;omega)];exact E
 let k:=@run_makeMap sr;have k:=Io I;clear V G U E W e X Q R Y S P T Z O I;go_in
 go_wp21;apply(L.o _).mono
 rintro e e⟨rfl,rfl⟩;rw[r9,k.o];go_wp2
 go_ret;exact⟨_,_,J,se.o.1,se.o.2⟩
def DW (a:oA) cap ps per(w:M)(E:AL w a ps)(G:Ar ps)(Y:1<=per)(V:per<=1000):s8 sr 109 #[.s a ps.length cap,.q per] w λe w'=>e=.returned .n/\zW w w':=by
 have U:Hid (Ë 42 #[.s a ps.length cap] w λe w'=>e=.r _/\Below _ w w'):=L8 a _ ps w E G;clear E;go_in
 go_wp21;apply U.o.mono;rintro e a⟨rfl,O⟩;let I:=Io O;go_wp2
 go_ret;exact⟨J,I.o⟩
def WG{R:tI->Vl->M->Prop}(a:oA) n cap per(w:M)(h:Ë 42 #[.s a n cap] w λe w'=>∃ty v,e=.r (.f ty v)/\R ty v w'):s8 sr 109 #[.s a n cap,.q per] w λe w'=>∃ty v,e=.r (.f ty v)/\R ty v w':=by
 let E:=Io h;go_in
 go_wp21;apply E.o.mono;rintro e a⟨ty,v,rfl,I⟩;let G:=Io I;go_wp2
 go_ret;exact⟨ty,v,J,G.o⟩
def Xh (a:oA) cap ps per(w:M) ad(O:Sc w ad)(U:AL w a ps)(I:Ar ps)(h:per<1\/1000<per):s8 sr 109 #[.s a ps.length cap,.q per] w λe w'=>e=.r (.f 255 (.p (A (ad 1))))/\zW w w':=by
 have Y:=Io (L8 a cap ps w U I);have V:=Io O;clear U I O;by_cases a:per<1
 .
  clear h;go_in
  go_wp21;apply Y.o.mono
  rintro e a⟨rfl,E⟩;have Z:=jf E V.o.a;have G:=Io E;clear E;go_wp2
  go_ret;exact⟨J,G.o⟩
 have a:1000<per:=N;clear h;go_in
 go_wp21;apply Y.o.mono
 rintro e a⟨rfl,E⟩;have Z:=jf E V.o.a;have G:=Io E;clear E;go_wp2
 go_ret;exact⟨J,G.o⟩
def iH (a:oA) cap ps per now(k:Nat) p(w:M)(O:AL w a ps)(b:ps.length<=300)(E:ps[k]? = A p)(I:Lm p=true)(b:1<=per)(b:per<=1000)(b:0<=now)(b:now<=1100000000000000):s8 sr 137 #[.s a ps.length cap,.q per,.q k,.q now] w λe w'=>e=.r (.agg #[.q k,.q now,.q (now+per*p.h)])/\zW w w':=by
 have a:=Ap E;obtain⟨b,off,rfl,Z,U⟩:=O.h N;have Y:=(U k p E).2.1;obtain⟨-,-,a,V,-,-⟩:=Bw I;have a:0<=per*p.h:=Ŗ N N;have a:per*p.h<=1000*1500:=χ N V N N;let a:(w.alloc (.c #[.q 0,.q 0,.q 0] 75)).cell? (C b (off+k*3+1))=A (.q p.h):=jf ba Y;generalize p.h=y at*;generalize G:per*y=m at*;have a:=Io G;have a:IntKind.i64.wrap (per*y)=m:=by rw[G];exact Ĵ (by omega) N
 clear O U I E G;go_in
 go_wp21;exact Ę (v:=.agg #[.q k,.q now,.q (now+m)]) (by simp[results,Tryz.results137,go_sem]) J ⟨J,ba⟩
variable {w w':M}{a:oA}{ps:List Sn}
def F8 (w:M)(a:oA)(ps:List Sn):=
 ps=[]\/∃b off,a=A (C b off)/\b<w.heap.size/\∀(i:Nat) p,ps[i]? = A p->w.cell? (C b (off+i*3))=A (.q p.d)/\w.cell? (C b (off+i*3+1))=A (.q p.b)/\w.cell? (C b (off+i*3+2))=A (.q p.a)
def F8.h (h:F8 w a ps)(E:1<=ps.length):∃b off,a=A (C b off)/\b<w.heap.size/\∀(i) p,ps[i]? = A p->w.cell? (C b (off+i*3))=A (.q p.d)/\w.cell? (C b (off+i*3+1))=A (.q p.b)/\w.cell? (C b (off+i*3+2))=A (.q p.a):=by
 obtain rfl|h:=h
 simp at E
 exact h
def F8.r{S}(h:F8 w a ps)(G:Ç S w w')(O:∀ad,a=A ad->¬S ad.block):F8 w' a ps:=by
 obtain rfl|⟨b,off,rfl,E,U⟩:=h
 exact .inl J
 let I:¬S b:=O _ J;refine .inr ⟨b,_,J,rZ E G.h,λi p V=>?_⟩;have:=U i p V;exact⟨G.E (p:=⟨b,_,_⟩) E I▸this.1,G.E (p:=⟨b,_,_⟩) E I▸this.2.1,G.E (p:=⟨b,_,_⟩) E I▸this.2.2⟩
def F8.d (h:F8 w a ps)(E:zW w w'):=
 h.r (S:=λ_=>False) (.e E) (λ_ _ h=>h)
def Î (ps:List Sn):List Vl:=ps.flatMap λp=>[.q p.d,.q p.b,.q p.a]
def Tk p r:Î (p::r)=.q p.d::.q p.b::.q p.a::Î r:=rfl
def Jj a b:Î (a++b)=Î a++Î b:=by simp[Î]
def jM ps:∀(i:Nat) p,ps[i]? = A p->(Î ps)[i*3]? = A (.q p.d)/\(Î ps)[i*3+1]? = A (.q p.b)/\(Î ps)[i*3+2]? = A (.q p.a):=by
 induction ps with
 |nil=>intro i p h;simp at h
 |cons q r E=>
  intro i p h;rw[Tk];cases i with
  |zero=>simp_all
  |succ i=>
   have:=E i p (sx h);rw[show(i+1)*3=i*3+1+1+1 by omega];exact⟨sx this.1,sx this.2.1,sx this.2.2⟩
def sM ps:∀j u,(Î ps)[j]? = A u->∃(i:Nat)(p:Sn),ps[i]? = A p/\((j=i*3/\u=.q p.d)\/(j=i*3+1/\u=.q p.b)\/(j=i*3+2/\u=.q p.a)):=by
 induction ps with
 |nil=>intro j u h;simp[Î]at h
 |cons p r I=>
  intro j u h;rw[Tk]at h
  match j,h with
  |0,h=>exact⟨0,p,J,.inl ⟨J,sx h.symm⟩⟩
  |1,h=>exact⟨0,p,J,.inr (.inl ⟨J,sx h.symm⟩)⟩
  |2,h=>exact⟨0,p,J,.inr (.inr ⟨J,sx h.symm⟩)⟩
  |j+3,h=>
   have⟨i,q,G,E⟩:=I j u (sx h);refine⟨i+1,q,sx G,?_⟩;obtain⟨e,f⟩|⟨e,f⟩|⟨e,f⟩:=E
   exact .inl ⟨N,f⟩
   exact .inr (.inl ⟨N,f⟩)
   exact .inr (.inr ⟨N,f⟩)
def Kj ps:∀u∈Î ps,u.oneCell'=true:=by
 intro u G;have⟨j,E⟩:=υ.1 G;obtain⟨i,p,-,h⟩:=sM ps j u E;obtain⟨-,rfl⟩|⟨-,rfl⟩|⟨-,rfl⟩:=h<;>rfl
def Dz (w:M)(B:Nat)(v:Vl)(ps:List Sn):=w.ownsRow B 75 3 v ps.length (Î ps)
def Dz.open{B v}(h:Dz w B v ps):∃a cap,v=.s a ps.length cap/\ps.length<=cap/\cap<=s7/\F8 w a ps/\(∀ad,a=A ad->B<=ad.block)/\(a=sA->ps=[]/\cap=0):=by
 obtain⟨a,⟨rfl,G⟩|⟨g,cap,cur,rfl,O,U,Y,I,v,Z⟩⟩:=h
 exact⟨sA,0,G▸rfl,N,by simp[s7],.inl (Ğ.1 G),(λad e=>nf e),λ_=>⟨Ğ.1 G,J⟩⟩
 refine⟨_,cap,J,Y,I,.inr ⟨g,0,J,?_,λi p V=>?_⟩,(λad e=>by cases e;exact O),λe=>nf e⟩
 .
  obtain h|h:=nR g w.z
  exact h
  simp[Χ h]at U
 let E:w.ownsRow B 75 3 (.sl g 0 ps.length cap) ps.length (Î ps):=⟨a,.inr ⟨g,cap,cur,J,O,U,Y,I,v,Z⟩⟩
 let a:i<ps.length:=by
  obtain h|h:=nR i ps.length
  exact h
  simp[ą h]at V
 have:=jM ps i p V;rw[E.cellAt _ N,E.cellAt _ N,E.cellAt _ N,Ă];exact this
def Tryz.p:(sr.info? 75).map (λi=>(i.zero,i.size,i.bytes))=A (A (.agg #[.q 0,.q 0,.q 0]),3,24):=kr
end Go.Proofs.YtaoikkhlnhfkfaaGreatDoor
