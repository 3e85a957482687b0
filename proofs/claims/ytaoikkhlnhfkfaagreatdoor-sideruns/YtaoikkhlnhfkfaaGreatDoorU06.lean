import Derived.Test.YtaoikkhlnhfkfaaGreatDoorU00
import Derived.Laws.MakeOwn
import Derived.Deep.LoopGhost
import Derived.Test.YtaoikkhlnhfkfaaGreatDoorU05
set_option maxHeartbeats 1000000
set_option linter.defProp false
set_option linter.unusedSimpArgs false
set_option linter.unusedVariables false
namespace Go.Proofs.YtaoikkhlnhfkfaaGreatDoor
open Option renaming some->A
open Proofs.Tryz renaming prog->sr,results27->AT
open Go renaming madeCells->sC,maxLen->s7,Calls->s8,results->uK
open Decidable renaming decide->vb
open Go.RowKit
variable {w w':M}{Y size n:Nat}{e:tI}{v:Vl}{xs:List Vl}{a:oA}
def Ai (h:w.ownsRow Y e size v n xs)(U:∀g,v.ownBlock=A g->g<w.heap.size->w'.heap[g]? = w.heap[g]?):w'.ownsRow Y e size v n xs:=by
 obtain⟨E,I|⟨g,cap,cur,rfl,O,G,r⟩⟩:=h
 exact⟨E,.inl I⟩
 exact⟨E,.inr ⟨g,_,_,J,O,(U g J (ī G)).trans G,r⟩⟩
def AC (h:w.ownsRow Y e size v n xs){g}(E:v.ownBlock=A g):Y<=g/\g<w.heap.size:=by
 obtain⟨O,⟨rfl,-⟩|⟨g',cap,cur,rfl,I,G,r⟩⟩:=h
 cases E
 cases E
 exact⟨I,ī G⟩
def Tryz.b:(sr.info? 3).map (λi=>(i.zero,i.size,i.bytes))=A (A (.q 0),1,8):=kr
def NK (u:Vl) n j(h:j<n):(sC #[u] n)[j]? = A u:=by
 rw[ÿ (rj lv h)];simp[sC,Nat.mod_one]
def Bc (w:M)(a:oA)(xs:lZ):=
 xs=[]\/∃b off,a=A (C b off)/\b<w.heap.size/\∀(i:Nat) x,xs[i]? = A x->w.cell? (C b (off+i))=A (.q x)
def Bc.h{xs}(h:Bc w a xs)(E:1<=xs.length):∃b off,a=A (C b off)/\b<w.heap.size/\∀(i) x,xs[i]? = A x->w.cell? (C b (off+i))=A (.q x):=by
 obtain rfl|h:=h
 simp at E
 exact h
def Bc.d{xs}(h:Bc w a xs)(E:zW w w'):Bc w' a xs:=by
 obtain rfl|⟨b,off,rfl,O,G⟩:=h
 exact .inl J
 exact .inr ⟨b,_,J,rZ O E.size,λi x I=>jf E (G i x I)⟩
def kE (w:M) n(t:tI):Bc (w.alloc (.c (sC #[.q 0] n) t)) (sa w.heap.size 0) (List.replicate n 0):=by
 refine .inr ⟨_,0,J,sm,λi x G=>?_⟩;let E:i<n:=by
  obtain h|h:=nR i n
  exact h
  simp_all
 rw[List.getElem?_replicate,Æ E]at G;obtain rfl:=Ö G;rw[Ŏ _ _ _ _ J,Ă];exact NK _ _ _ E
structure Ef (lo hi:Int)(ns:lZ):Prop where
 len:ns.length=8
 d:∀(i:Nat) x,ns[i]? = A x->lo<=x/\x<=hi
def wM (G I:Int)(E:lZ)(j:Nat):=E.length=8/\(∃x,E[j]? = A x/\¬(G<=x/\x<=I))/\∀(i:Nat) y,i<j->E[i]? = A y->G<=y/\y<=I
def BK (G I:Int)(E:lZ)(c:Nat):=(c=3/\E.length≠8)\/(c=2/\∃j,wM G I E j)\/(c=0/\Ef G I E)
def Dt O U E:∃c,BK O U E c:=by
 by_cases V:E.length=8
 .
  let key:∀k,k<=E.length->(∀(i:Nat) y,i<k->E[i]? = A y->O<=y/\y<=U)\/∃j,wM O U E j:=by
   intro k;induction k with
   |zero=>intro _;exact .inl λi y h=>N
   |succ k i=>
    intro h;obtain h|h:=i N
    .
     obtain⟨x,I,-⟩:=Ao E k N;by_cases Z:O<=x/\x<=U
     .
      refine .inl λi y j Y=>?_
      obtain G|G:=nR i k
      exact h i y G Y
      obtain rfl:i=k:=N;obtain rfl:=Ö (I.symm.trans Y);exact Z
     exact .inr ⟨k,V,⟨x,I,Z⟩,h⟩
    exact .inr h
  obtain h|h:=key E.length lr
  .
   exact⟨0,.inr (.inr ⟨J,V,λi x I=>h i x (by
    obtain G|G:=nR i E.length
    exact G
    simp[ą G]at I) I⟩)⟩
  exact⟨2,.inr (.inl ⟨J,h⟩)⟩
 exact⟨3,.inl ⟨J,V⟩⟩
def NZ (x:Int):=1<=x/\12%x=0
def nK{x}(h:NZ x):=Int.le_of_dvd dc (mC h.2)
structure Ip (ns:lZ):Prop where
 len:ns.length=8
 d:∀(i:Nat) x,ns[i]? = A x->NZ x
def zY (E:lZ)(j:Nat):=E.length=8/\(∃x,E[j]? = A x/\¬NZ x)/\∀(i:Nat) y,i<j->E[i]? = A y->NZ y
def EN (E:lZ)(c:Nat):=(c=3/\E.length≠8)\/(c=2/\∃j,zY E j)\/(c=0/\Ip E)
def Nu E:∃c,EN E c:=by
 by_cases I:E.length=8
 .
  let key:∀k,k<=E.length->(∀(i:Nat) y,i<k->E[i]? = A y->NZ y)\/∃j,zY E j:=by
   intro k;induction k with
   |zero=>intro _;exact .inl λi y h=>N
   |succ k Y=>
    intro Z;obtain h|h:=Y N
    .
     obtain⟨x,G,-⟩:=Ao E k N;by_cases V:NZ x
     .
      refine .inl λi y j U=>?_
      obtain O|O:=nR i k
      exact h i y O U
      obtain rfl:i=k:=N;obtain rfl:=Ö (G.symm.trans U);exact V
     exact .inr ⟨k,I,⟨x,G,V⟩,h⟩
    exact .inr h
  obtain h|h:=key E.length lr
  exact⟨0,.inr (.inr ⟨J,I,λi x G=>h i x (Ap G) G⟩)⟩
  exact⟨2,.inr (.inl ⟨J,h⟩)⟩
 exact⟨3,.inl ⟨J,I⟩⟩
def Ip.j{E}(h:Ip E):Ef 1 12 E:=⟨h.len,λi x G=>⟨(h.d i x G).1,nK (h.d i x G)⟩⟩
def Ip.y{E}(h:Ip E):IL E:=λf=>by
 cases G:E[f]? with
 |some x=>
  rw[KG G];have:=h.d f x G;exact⟨this.1,Int.ediv_mul_cancel (mC this.2)⟩
 |none=>
  have:Cb E f=1:=by simp[Cb,G]
  rw[this];exact⟨Ā _,dc⟩
def vg{x z}(h:NZ x)(G:0<=z):(z*12).tdiv x=z*(12/x):=by
 let E:=mC h.2;rw[Int.tdiv_eq_ediv_of_nonneg N,Int.mul_ediv_assoc _ E]
def Q8:∀(q:lN)(i),q.Nodup->i<q.length->q.eraseIdx i=q.filter λj=>j !=q.getD i 0
 |[],i,_,h=>absurd h (İ _)
 |a::q,0,I,_=>by
  obtain⟨E,-⟩:=Ť.1 I;let e:(a::q).getD 0 0=a:=rfl;rw[e,lE,Ä sm];refine(k4.2 λj O=>?_).symm;have:j≠a:=λe=>E (e▸O)
  simp[this]
 |a::q,i+1,I,h=>by
  have⟨E,V⟩:=Ť.1 I;let G:i<q.length:=sx h
  let e:(a::q).getD (i+1) 0=q.getD i 0:=by simp[List.getD]
  let U:a≠q.getD i 0:=λe'=>E (e'▸ä G▸Ζ G)
  rw[e,lE,Æ (j8.2 U),<-Q8 q i V G];rfl
variable {w w':M}{a:oA}{ps:List Pk}
def AL (w:M)(a:oA)(ps:List Pk):=
 ps=[]\/∃b off,a=A (C b off)/\b<w.heap.size/\∀(i:Nat) p,ps[i]? = A p->w.cell? (C b (off+i*3))=A (.q p.b)/\w.cell? (C b (off+i*3+1))=A (.q p.h)/\w.cell? (C b (off+i*3+2))=A (.q p.a)
def AL.h (h:AL w a ps)(E:1<=ps.length):∃b off,a=A (C b off)/\b<w.heap.size/\∀(i) p,ps[i]? = A p->w.cell? (C b (off+i*3))=A (.q p.b)/\w.cell? (C b (off+i*3+1))=A (.q p.h)/\w.cell? (C b (off+i*3+2))=A (.q p.a):=by
 obtain rfl|h:=h
 simp at E
 exact h
def AL.r{S}(h:AL w a ps)(G:Ç S w w')(O:∀ad,a=A ad->¬S ad.block):AL w' a ps:=by
 obtain rfl|⟨b,off,rfl,E,U⟩:=h
 exact .inl J
 let I:¬S b:=O _ J;refine .inr ⟨b,_,J,rZ E G.h,λi p V=>?_⟩;have:=U i p V;exact⟨G.E (p:=⟨b,_,_⟩) E I▸this.1,G.E (p:=⟨b,_,_⟩) E I▸this.2.1,G.E (p:=⟨b,_,_⟩) E I▸this.2.2⟩
def AL.d (h:AL w a ps)(E:zW w w'):=
 h.r (S:=λ_=>False) (.e E) (λ_ _ h=>h)
def AL.drop{b off}(h:AL w (sa b off) ps) k:AL w (sa b (off+k*3)) (ps.drop k):=by
 obtain rfl|⟨U,O,e,G,I⟩:=h
 exact .inl sm
 cases e
 refine .inr ⟨b,_,J,G,λi p E=>?_⟩;rw[List.getElem?_drop]at E;have:=I _ p E;rw[show off+(k+i)*3=off+k*3+i*3 by omega]at this;exact this
def Dk (ps:List Pk):List Vl:=ps.flatMap λp=>[.q p.b,.q p.h,.q p.a]
def Om p r:Dk (p::r)=.q p.b::.q p.h::.q p.a::Dk r:=rfl
def Lt a b:Dk (a++b)=Dk a++Dk b:=by simp[Dk]
def O3 ps:(Dk ps).length=ps.length*3:=by
 induction ps with
 |nil=>rfl
 |cons p r E=>rw[Om];simp;omega
def Vh ps:∀(i:Nat) p,ps[i]? = A p->(Dk ps)[i*3]? = A (.q p.b)/\(Dk ps)[i*3+1]? = A (.q p.h)/\(Dk ps)[i*3+2]? = A (.q p.a):=by
 induction ps with
 |nil=>intro i p h;simp at h
 |cons q r E=>
  intro i p h;rw[Om];cases i with
  |zero=>simp_all
  |succ i=>
   have:=E i p (sx h);rw[show(i+1)*3=i*3+1+1+1 by omega];exact⟨sx this.1,sx this.2.1,sx this.2.2⟩
def XZ ps:∀j u,(Dk ps)[j]? = A u->∃(i:Nat)(p:Pk),ps[i]? = A p/\((j=i*3/\u=.q p.b)\/(j=i*3+1/\u=.q p.h)\/(j=i*3+2/\u=.q p.a)):=by
 induction ps with
 |nil=>intro j u h;simp[Dk]at h
 |cons p r I=>
  intro j u h;rw[Om]at h
  match j,h with
  |0,h=>exact⟨0,p,J,.inl ⟨J,sx h.symm⟩⟩
  |1,h=>exact⟨0,p,J,.inr (.inl ⟨J,sx h.symm⟩)⟩
  |2,h=>exact⟨0,p,J,.inr (.inr ⟨J,sx h.symm⟩)⟩
  |j+3,h=>
   have⟨i,q,G,E⟩:=I j u (sx h);refine⟨i+1,q,sx G,?_⟩;obtain⟨e,f⟩|⟨e,f⟩|⟨e,f⟩:=E
   exact .inl ⟨N,f⟩
   exact .inr (.inl ⟨N,f⟩)
   exact .inr (.inr ⟨N,f⟩)
def PG ps:∀u∈Dk ps,u.oneCell'=true:=by
 intro u G;have⟨j,E⟩:=υ.1 G;obtain⟨i,p,-,h⟩:=XZ ps j u E;obtain⟨-,rfl⟩|⟨-,rfl⟩|⟨-,rfl⟩:=h<;>rfl
def CF (w:M)(B:Nat)(v:Vl)(ps:List Pk):=w.ownsRow B 68 3 v ps.length (Dk ps)
def CF.open{B v}(h:CF w B v ps):∃a cap,v=.s a ps.length cap/\ps.length<=cap/\cap<=s7/\AL w a ps/\(∀ad,a=A ad->B<=ad.block)/\(a=none->ps=[]/\cap=0):=by
 obtain⟨X,⟨rfl,G⟩|⟨g,cap,cur,rfl,O,U,Y,I,W,Z⟩⟩:=h
 exact⟨none,0,G▸rfl,N,by simp[s7],.inl (Ğ.1 G),(λad e=>nf e),λ_=>⟨Ğ.1 G,J⟩⟩
 refine⟨_,cap,J,Y,I,.inr ⟨g,0,J,?_,λi p V=>?_⟩,(λad e=>by cases e;exact O),λe=>nf e⟩
 .
  obtain h|h:=nR g w.z
  exact h
  simp[Χ h]at U
 let E:w.ownsRow B 68 3 (.sl g 0 ps.length cap) ps.length (Dk ps):=⟨X,.inr ⟨g,cap,cur,J,O,U,Y,I,W,Z⟩⟩
 let e:i<ps.length:=by
  obtain h|h:=nR i ps.length
  exact h
  simp[ą h]at V
 have:=Vh ps i p V;rw[E.cellAt _ N,E.cellAt _ N,E.cellAt _ N,Ă];exact this
def Qh{ad}(h:AL w (A ad) ps):∀j u,(Dk ps)[j]? = A u->w.cell? (ad.add j)=A u:=by
 intro j u G;have⟨i,p,E,I⟩:=XZ ps j u G;obtain rfl|⟨b,off,e,-,h⟩:=h
 simp at E
 cases e
 have:=h i p E;rw[κ];obtain⟨rfl,rfl⟩|⟨rfl,rfl⟩|⟨rfl,rfl⟩:=I
 exact this.1
 exact this.2.1
 exact this.2.2
def Tryz.l:(sr.info? 68).map (λi=>(i.zero,i.size,i.bytes))=A (A (.agg #[.q 0,.q 0,.q 0]),3,24):=kr
def PU n(w:M):s8 sr 127 #[.q n] w λe w'=>e=.r (.bool (vb (1<=n/\n<=1500)))/\w'=w:=by
 by_cases E:1<=n
 .
  by_cases G:n<=1500
  .
   rw[show vb (1<=n/\n<=1500)=true by simp[E,G]];go_in
   go_wp2
   go_ret;exact⟨J,J⟩
  rw[show vb (1<=n/\n<=1500)=false by simp[G]];go_in
  go_wp2
  go_ret;exact⟨J,J⟩
 rw[show vb (1<=n/\n<=1500)=false by simp[E]];go_in
 go_wp2
 go_ret;exact⟨J,J⟩
def Pz t(w:M):s8 sr 128 #[.q t] w λe w'=>e=.r (.bool (vb (0<=t/\t<=1099511627776)))/\w'=w:=by
 by_cases E:0<=t
 .
  by_cases G:t<=1099511627776
  .
   rw[show vb (0<=t/\t<=1099511627776)=true by simp[E,G]];go_in
   go_wp2
   go_ret;exact⟨J,J⟩
  rw[show vb (0<=t/\t<=1099511627776)=false by simp[G]];go_in
  go_wp2
  go_ret;exact⟨J,J⟩
 rw[show vb (0<=t/\t<=1099511627776)=false by simp[E]];go_in
 go_wp2
 go_ret;exact⟨J,J⟩
def WU x y z s t(w:M)(E:Hid (∀w',Ë 127 #[.q y] w' λe G=>e=.r (.bool s)/\G=w'))(I:Hid (∀w',Ë 128 #[.q z] w' λe G=>e=.r (.bool t)/\G=w')):s8 sr 87 #[.agg #[.q x,.q y,.q z]] w λe w'=>e=.r (.bool (vb (0<=x)&&vb (x<8)&&s&&t))/\w'=w.alloc (.c #[.q x,.q y,.q z] 68):=by
 by_cases U:0<=x
 .
  by_cases O:x<8
  .
   rw[show(vb (0<=x)&&vb (x<8)&&s&&t)=(s&&t)by simp[U,O]];cases s with
   |false=>
    go_in
    go_wp2_with (first
     |(go_at_call 127;apply(E.o _).mono;rintro e Z⟨rfl,rfl⟩)
     |(go_at_call 128;apply (I.o _).mono;rintro e Z⟨rfl,rfl⟩))
    go_ret;exact⟨J,J⟩
   |true=>
    cases t with
    |false=>
     go_in
     go_wp2_with (first
      |(go_at_call 127;apply(E.o _).mono;rintro e Z⟨rfl,rfl⟩)
      |(go_at_call 128;apply (I.o _).mono;rintro e Z⟨rfl,rfl⟩))
     go_ret;exact⟨J,J⟩
    |true=>
     go_in
     go_wp2_with (first
      |(go_at_call 127;apply(E.o _).mono;rintro e Z⟨rfl,rfl⟩)
      |(go_at_call 128;apply (I.o _).mono;rintro e Z⟨rfl,rfl⟩))
     go_ret;exact⟨J,J⟩
  rw[show(vb (0<=x)&&vb (x<8)&&s&&t)=false by simp[O]];go_in
  go_wp2
  go_ret;exact⟨J,J⟩
 rw[show(vb (0<=x)&&vb (x<8)&&s&&t)=false by simp[U]];go_in
 go_wp2
 go_ret;exact⟨J,J⟩
def J5 p(w:M):Ë 87 #[.agg #[.q p.b,.q p.h,.q p.a]] w λe w'=>e=.r (.bool (Lm p))/\w'=w.alloc (.c #[.q p.b,.q p.h,.q p.a] 68):=by
 let h:=WU p.b p.h p.a _ _ w (λw'=>PU _ w') (λw'=>Pz _ w');rw[show (vb _ && vb _ && vb _ && vb _)=Lm p by
  unfold Lm;simp[Bool.and_assoc]]at h
 exact h
def Oa (ps:List Pk)(j:Nat):=∀(i:Nat) q,i<j->ps[i]? = A q->Lm q=true/\Ò ps i<=q.a
def Mr{ps k p}(h:ps[k]? = A p):Ò ps (k+1)=p.a:=by simp[Ò];rw[h]
def bM (a:oA) n cap(w:M) ad(E:Sc w ad)(G:n<=s7)(h:300<n):s8 sr 42 #[.s a n cap] w λe w'=>e=.r (.f 255 (.p (A (ad 1))))/\w'=w:=by
 unfold s7 at G;let I:=E.a;go_in
 go_wp2
 go_ret;exact⟨J,J⟩
def L8 a cap ps w(V:AL w a ps)(h:Ar ps):s8 sr 42 #[.s a ps.length cap] w λe w'=>e=.returned .n/\zW w w':=by
 by_cases O:ps=[]
 .
  subst O;show s8 sr 42 #[.s a 0 cap] w _
  clear V;go_in
  go_wp2
  apply ū 1
  rw[Ř];go_wp2
  go_ret;exact⟨J,br⟩
 obtain⟨b,off,rfl,I,ai⟩:=V.h (by cases ps with|nil=>exact absurd J O|cons p r=>simp);have am:=Io ai;have z:=Io h;have k:=h.j;clear V h ai O;generalize ac:ps.length=n at*;have ap:=(show Hid (ps.length=n)from ac)
 clear ac;go_in
 go_wp2
 go_loopw[3,12] (λl i wr=>∃k:Nat,k<=n/\i=.q k/\l=.q (Ò ps k)/\zW w wr)(λ_ i _=>n-(intOf i).toNat)
 case atStart=>exact⟨0,uD _,J,J,br⟩
 case round=>
  obtain⟨k,i,rfl,rfl,E⟩:=hrel;have U:=Io E;by_cases i:k<n
  .
   obtain⟨p,G,-⟩:=Ao ps k (ap.o▸i);have⟨aa,Y,Z⟩:=am.o k p G;have l:wr.cell? (C b (off+k*3))=A (.q p.b):=E.cell (p:=(C b (off+k*3))) I▸aa
   have l:wr.cell? (C b (off+k*3+1))=A (.q p.h):=E.cell (p:=(C b (off+k*3+1))) I▸Y
   have l:wr.cell? (C b (off+k*3+2))=A (.q p.a):=E.cell (p:=(C b (off+k*3+2))) I▸Z
   have⟨ab,l⟩:=z.o.d k p G;have al:=Io (Mr G);have ak:=Io (λw'=>by
    have:=J5 p w';rwa[ab]at this)
   clear aa Y Z G ab E;have b:¬p.a<Ò ps k:=N;generalize Ò ps k=L at*;generalize p.b=x at*;generalize p.h=y at*;generalize p.a=z at*;go_wp2_with (go_at_call 87;apply(ak.o _).mono;rintro e w'⟨rfl,rfl⟩)
   let b:=U.o.size;go_roundw
   case rel=>exact⟨k+1,N,nd,al.o▸rfl,(U.o.alloc b _).alloc so _⟩
   case measure=>simp[intOf];omega
  go_wp2
  go_ret;exact⟨J,U.o⟩
def Ul (ps:List Pk)(j:Nat)(p:Pk)(k:Nat):=(Lm p=false/\k=1)\/(Lm p=true/\p.a<Ò ps j/\k=4)
def oJ ps:Ar ps\/300<ps.length\/(ps.length<=300/\∃j p k,ps[j]? = A p/\Oa ps j/\Ul ps j p k):=by
 by_cases Z:300<ps.length
 exact .inr (.inl Z)
 let h:∀j,j<=ps.length->Oa ps j\/∃i p k,ps[i]? = A p/\Oa ps i/\Ul ps i p k:=by
  intro j;induction j with
  |zero=>intro _;exact .inl λi q U=>N
  |succ j O=>
   intro h;obtain h|h:=O N
   .
    obtain⟨p,E,-⟩:=Ao ps j N;cases G:Lm p with
    |false=>exact .inr ⟨j,p,1,E,h,.inl ⟨G,J⟩⟩
    |true=>
     by_cases V:p.a<Ò ps j
     exact .inr ⟨j,p,4,E,h,.inr ⟨G,V,J⟩⟩
     refine .inl λi q U I=>?_
     by_cases Y:i<j
     exact h i q Y I
     obtain rfl:i=j:=N;obtain rfl:=Ö (E.symm.trans I);exact⟨G,N⟩
   exact .inr h
 obtain h|h:=h ps.length lr
 .
  exact .inl ⟨N,λi p E=>h i p (by
   obtain h|h:=nR i ps.length
   exact h
   simp[ą h]at E) E⟩
 exact .inr (.inr ⟨N,h⟩)
def qh a cap ps(w:M) ad(an:Sc w ad)(ak:AL w a ps)(aW:ps.length<=300) j p(ai:ps[j]? = A p)(aj:Oa ps j) k(al:Ul ps j p k):s8 sr 42 #[.s a ps.length cap] w λe w'=>zW w w'/\∃B,e=.r (.f 119 (.pp B 0))/\w.heap.size<=B/\B<w'.heap.size/\w'.cell? (C B 0)=A (.q j)/\w'.cell? (C B 1)=A (.f 255 (.p (A (ad k)))):=by
 have a1:j<ps.length:=by
  obtain h|h:=nR j ps.length
  exact h
  simp[ą h]at ai
 obtain⟨b,off,rfl,aa,ap⟩:=ak.h N;have y:=Io ap;have aw:=Io aj;have X:=Io an;have av:=Io ai;have W:=Io al;clear ak aj ap an ai al;generalize h:ps.length=n at*;have aL:=(show Hid (ps.length=n)from h)
 clear h;go_in
 go_wp2
 go_loopw[3,12] (λl i wr=>∃q:Nat,q<=j/\i=.q q/\l=.q (Ò ps q)/\zW w wr)(λ_ i _=>n-(intOf i).toNat)
 case atStart=>exact⟨0,uD _,J,J,br⟩
 case round=>
  obtain⟨q,a0,rfl,rfl,E⟩:=hrel;have O:=Io E;have ab:=E.size;let aq:q<n:=N;obtain⟨r,I,-⟩:=Ao ps q (aL.o▸aq);have⟨Z,V,Y⟩:=y.o q r I;have a2:wr.cell? (C b (off+q*3))=A (.q r.b):=E.cell (p:=(C b (off+q*3))) aa▸Z
  have a3:wr.cell? (C b (off+q*3+1))=A (.q r.h):=E.cell (p:=(C b (off+q*3+1))) aa▸V
  have a4:wr.cell? (C b (off+q*3+2))=A (.q r.a):=E.cell (p:=(C b (off+q*3+2))) aa▸Y
  by_cases ac:q<j
  .
   have⟨G,aB⟩:=aw.o q r ac I;have l:=Io (Mr I);have U:=Io (λw'=>by
    have:=J5 r w';rwa[G]at this)
   clear Z V Y I G E;have aN:¬r.a<Ò ps q:=N;generalize Ò ps q=L at*;generalize r.b=x at*;generalize r.h=y at*;generalize r.a=z at*;go_wp2_with (go_at_call 87;apply(U.o _).mono;rintro e w'⟨rfl,rfl⟩)
   go_roundw
   case rel=>exact⟨q+1,N,nd,l.o▸rfl,(O.o.alloc ab _).alloc so _⟩
   case measure=>simp[intOf];omega
  obtain rfl:q=j:=N;obtain rfl:=Ö (I.symm.trans av.o);let aG:=jf (((bC wr.heap.size wr).alloc lr (.c #[.q r.b,.q r.h,.q r.a] 68)).alloc sm (.c #[.q r.b,.q r.h,.q r.a] 68)) (jf O.o X.o.a);let aE:=jf (((bC wr.heap.size wr).alloc lr (.c #[.q r.b,.q r.h,.q r.a] 68)).alloc sm (.c #[.q r.b,.q r.h,.q r.a] 68)) (jf O.o X.o.b);obtain⟨G,rfl⟩|⟨G,aB,rfl⟩:=W.o
  .
   have U:=Io (λw'=>by
    have:=J5 r w';rwa[G]at this)
   clear Z V Y I G E aE ac;generalize Ò ps q=L at*;generalize r.b=x at*;generalize r.h=y at*;generalize r.a=z at*;go_wp2_with (go_at_call 87;apply(U.o _).mono;rintro e w'⟨rfl,rfl⟩)
   go_ret;refine⟨((O.o.alloc ab _).alloc so _).alloc so _,_,J,?_,?_,?_,?_⟩
   omega
   simp
   rw[Ŏ _ _ _ _ sm];rfl
   rw[Ŏ _ _ _ _ sm];rfl
  have U:=Io (λw'=>by
   have:=J5 r w';rwa[G]at this)
  clear Z V Y I G E aG ac;generalize Ò ps q=L at*;generalize r.b=x at*;generalize r.h=y at*;generalize r.a=z at*;go_wp2_with (go_at_call 87;apply(U.o _).mono;rintro e w'⟨rfl,rfl⟩)
  go_ret;refine⟨((O.o.alloc ab _).alloc so _).alloc so _,_,J,?_,?_,?_,?_⟩
  omega
  simp
  rw[Ŏ _ _ _ _ sm];rfl
  rw[Ŏ _ _ _ _ sm];rfl
def dZ (a:oA) n cap(w:M)(I:n<=s7)(h:300<n):s8 sr 27 #[.s a n cap] w λe w'=>e=.r (.agg #[.q 2,.q (-1)])/\zW w w':=by
 unfold s7 at I;let G:zW w (w.alloc (.c #[.q 0,.q 0] 39)):=ba;go_in
 go_wp21;apply(Cf 2 _).mono
 rintro e E⟨rfl,E⟩;have⟨V,U,Y,Z⟩:=(EE w ..).later E;have O:=Io (G.tr E);clear E G;go_wp21;exact Ę (v:=.agg #[.q 2,.q (-1)]) (by simp[uK,AT,go_sem,V,U]) J ⟨J,(O.o.setCell lr _).setCell lr _⟩
def pC{x y z}(h:Lm ⟨x,y,z⟩=false):x<0\/(¬x<0/\8<=x)\/(¬x<0/\¬8<=x/\y<1)\/(¬x<0/\¬8<=x/\¬y<1/\1500<y)\/(¬x<0/\¬8<=x/\¬y<1/\¬1500<y/\z<0)\/(¬x<0/\¬8<=x/\¬y<1/\¬1500<y/\¬z<0/\1099511627776<z):=by
 have:=j7 h;simp only at this;omega
def UJ a cap ps w(be:AL w a ps)(bK:ps.length<=300) j(b3:j<=ps.length)(a5:Oa ps j)(c p:Int)
  (bb:(j=ps.length/\c=0/\p= -1)\/(∃q k,ps[j]? = A q/\Ul ps j q k/\c=k+1/\p=j)):
  Calls sr 27 #[.s a ps.length cap] w λe w'=>e=.r (.agg #[.q c,.q p])/\zW w w':=by
 have ai:zW w (w.alloc (.c #[.q 0,.q 0] 39)):=ba;obtain⟨b,off,I,ac,bf⟩:∃b off,(ps=[]\/b<w.z)/\(∀(i:Nat) p,ps[i]? = A p->w.cell? (C b (off+i*3))=A (.q p.b)/\w.cell? (C b (off+i*3+1))=A (.q p.h)/\w.cell? (C b (off+i*3+2))=A (.q p.a))/\(ps=[]\/a=A (C b off)):=by
  obtain rfl|⟨b,off,e,I,ac⟩:=be
  . exact⟨0,0,.inl J,λi p h=>by simp at h,.inl J⟩
  exact⟨b,off,.inr I,ac,.inr e⟩
 have Z:=qX ac;have o:=qX bf;have r:=qX I;have D:=qX a5;have ak:=(show Hid ((j=ps.length/\c=0/\p= -1)\/(∃q k,ps[j]? = A q/\Ul ps j q k/\c=k+1/\p=j))from bb)
 clear be a5 ac bf bb I;generalize bk:ps.length=n at*;have ap:=(show Hid (ps.length=n)from bk)
 clear bk;go_in
 go_wp2_with fail;go_loopw[3] (λi wr=>∃q:Nat,q<=j/\i=.q q/\zW w wr/\Š w wr (.q 0) (.q 0))(λi _=>n-(intOf i).toNat)
 case atStart=>exact⟨0,uD _,J,ai,EE w _ _ _⟩
 case round=>
  obtain⟨q,bh,rfl,E,G⟩:=hrel;have ao:=qX E;have aL:=qX G;have aq:=E.size;by_cases sd:q<n
  .
   have ax:ps≠[]:=λe=>by have:=ap.o;rw[e]at this;simp at this;omega
   obtain rfl:=o.o.resolve_left ax;have I:=r.o.resolve_left ax;obtain⟨⟨x,y,z⟩,a1,-⟩:=Ao ps q (by rw[ap.o];exact sd);obtain⟨o,r,am⟩:=Z.o q _ a1;have sd:wr.cell? (C b (off+q*3))=A (.q x):=by rw[E.cell (p:=(C b (off+q*3))) I];exact o
   have H:wr.cell? (C b (off+q*3+1))=A (.q y):=by rw[E.cell (p:=(C b (off+q*3+1))) I];exact r
   have F:wr.cell? (C b (off+q*3+2))=A (.q z):=by rw[E.cell (p:=(C b (off+q*3+2))) I];exact am
   have aj:=qX a1;clear o r am a1 ax;by_cases Y:Lm ⟨x,y,z⟩=true
   .
    have o:=Bw Y;simp only at o;obtain⟨h,h,h,h,h,h⟩:=o;have aC:=qX Y;have aI:Hid (q=0\/∃x' aw O,ps[q-1]? = A ⟨x',aw,O⟩/\Ò ps q=O/\1<=q):=by
     obtain h|h:=Ģ q
     . exact .inl h
     obtain⟨⟨x',aw,O⟩,al,-⟩:=Ao ps (q-1) (by rw[ap.o];omega);have:=Mr al;rw[show q-1+1=q by omega]at this;exact .inr ⟨x',aw,O,al,this,h⟩
    clear Y;obtain rfl|⟨x',aw,O,al,av,b'⟩:=aI.o
    .
     have a4:0<j\/j=0:=N;have a0:Hid (0<j):=by
      obtain h|rfl:=a4
      . exact h
      obtain⟨h,-⟩|⟨r,k,U,aa,-,-⟩:=ak.o
      . omega
      obtain rfl:r=⟨x,y,z⟩:=Ö (U.symm.trans aj.o);obtain⟨h,-⟩|⟨-,h,-⟩:=aa
      . rw[aC.o]at h;cases h
      simp[Ò]at h;omega
     clear E G ai a4 aI;have h:wr.cell? (C b off)=A (.q x):=by simpa using sd
     have h:wr.cell? (C b (off+1))=A (.q y):=by simpa using H
     have h:wr.cell? (C b (off+2))=A (.q z):=by simpa using F
     clear sd H F;go_wp2
     go_quiet (fail);go_wp2_with fail;have F:=a0.o;go_roundw
     case rel=>exact⟨1,N,J,ì (ao.o.alloc aq _) _,aL.o.later (ì ba _)⟩
     case measure=>simp[intOf];omega
    have am:=(Z.o (q-1) _ al).2.2;have h:wr.cell? (C b (off+(q-1)*3+2))=A (.q O):=by rw[E.cell (p:=(C b (off+(q-1)*3+2))) I];exact am
    have i:(wr.alloc (.c #[.q x,.q y,.q z] 68)).cell? (C b (off+(q-1)*3+2))=A (.q O):=jf ba h;have b:0<q:=N;have b:vb ((0:Int)<(q:Int))=true:=ď N;clear am al aI;by_cases aE:z<O
    .
     have F:vb (z<O)=true:=ď aE;have V:Hid (q=j/\c=5/\p=q):=by
      by_cases an:q<j
      . have:=(D.o q _ an aj.o).2;rw[av]at this;simp only at this;omega
      obtain rfl:q=j:=N;obtain⟨h,-⟩|⟨r,k,U,aa,rfl,rfl⟩:=ak.o
      . omega
      obtain rfl:=Ö (U.symm.trans aj.o);obtain⟨h,-⟩|⟨-,h,rfl⟩:=aa
      . rw[aC.o]at h;cases h
      exact⟨J,J,J⟩
     obtain⟨rfl,rfl,rfl⟩:=V.o;clear E ai av V bh;have Z:zW wr (wr.alloc (.c #[.q x,.q y,.q z] 68)):=ba;have aB:=Io (ao.o.trans (Z.mono aq));obtain⟨aW,aN,sd,H⟩:=G.later Z;clear Z G;go_wp2
     go_quiet (fail);go_wp2_with fail;exact Ę (v:=.agg #[.q 5,.q q]) (by simp[uK,AT,go_sem,aW,aN]) J ⟨J,((ì aB.o _).setCell lr _).setCell lr _⟩
    have a0:Hid (q<j):=by
     by_cases an:q<j
     . exact an
     obtain rfl:q=j:=N;obtain⟨h,-⟩|⟨r,k,U,aa,-,-⟩:=ak.o
     . omega
     obtain rfl:=Ö (U.symm.trans aj.o);obtain⟨h,-⟩|⟨-,h,-⟩:=aa
     . rw[aC.o]at h;cases h
     rw[av]at h;exact absurd h aE
    have F:=ĕ aE;clear E G ai av;go_wp2
    go_quiet (fail);go_wp2_with fail;have F:=a0.o;go_roundw
    case rel=>exact⟨q+1,N,by go_num,ì (ao.o.alloc aq _) _,aL.o.later (ì ba _)⟩
    case measure=>simp[intOf];omega
   have bg:Lm ⟨x,y,z⟩=false:=by simpa using Y
   have V:Hid (q=j/\c=2/\p=q):=by
    by_cases an:q<j
    . exact absurd (D.o q _ an aj.o).1 Y
    obtain rfl:q=j:=N;obtain⟨h,-⟩|⟨r,k,U,aa,rfl,rfl⟩:=ak.o
    . omega
    obtain rfl:=Ö (U.symm.trans aj.o);obtain⟨-,rfl⟩|⟨h,-,-⟩:=aa
    . exact⟨J,J,J⟩
    exact absurd h Y
   obtain⟨rfl,rfl,rfl⟩:=V.o;have a2:=(show Hid _ from pC bg)
   clear E ai V bh Y bg;have Z:zW wr (wr.alloc (.c #[.q x,.q y,.q z] 68)):=ba;have aB:=Io (ao.o.trans (Z.mono aq));obtain⟨aW,aN,sd,H⟩:=G.later Z;clear Z G;obtain ab|⟨ab,G⟩|⟨ab,G,aG⟩|⟨ab,G,aG,bd⟩|⟨ab,G,aG,bd,r⟩|⟨ab,G,aG,bd,r,b⟩:=a2.o
   all_goals
    clear a2;go_wp2_with fail;exact Ę (v:=.agg #[.q 2,.q q]) (by simp[uK,AT,go_sem,aW,aN]) J ⟨J,(aB.o.setCell lr _).setCell lr _⟩
  have V:Hid (c=0/\p= -1):=by
   obtain⟨-,ab,G⟩|⟨r,k,U,-,-,-⟩:=ak.o
   . exact⟨ab,G⟩
   have:j<ps.length:=by
    obtain h|h:=nR j ps.length
    . exact h
    simp[ą h]at U
   rw[ap.o]at this;omega
  obtain⟨rfl,rfl⟩:=V.o;clear E G ai;go_wp2_with fail;refine(Jw _).mono ?_
  rintro e b⟨rfl,E⟩;obtain⟨ac,b,h,h⟩:=aL.o.later E;have h:=Io (ao.o.tr E);clear E;go_wp2_with fail;exact Ę (v:=.agg #[.q 0,.q (-1)]) (by simp[uK,AT,go_sem,ac,b]) J ⟨J,(h.o.setCell lr _).setCell lr _⟩
def Errs9.x{w:M}{ad}(h:Errs9 w ad):Sc w ad:=⟨h.a,h.b⟩
def Ky (ps:List Pk)(c p:Int):=
 (300<ps.length/\c=2/\p= -1)\/
 (ps.length<=300/\∃(j:Nat)(q:Pk)(k:Nat),ps[j]? = A q/\Oa ps j/\Ul ps j q k/\c=k+1/\p=j)\/
 (Ar ps/\c=0/\p= -1)
def gL ps:∃c p,Ky ps c p:=by
 obtain h|h|⟨h,j,q,k,E,G,I⟩:=oJ ps
 exact⟨0,-1,.inr (.inr ⟨h,J,J⟩)⟩
 exact⟨2,-1,.inl ⟨h,J,J⟩⟩
 exact⟨k+1,j,.inr (.inl ⟨h,j,q,k,E,G,I,J,J⟩)⟩
def Ky.d{ps c p}(h:Ky ps c p):c=0/\p= -1/\Ar ps\/0<c:=by
 obtain⟨_,h,_⟩|⟨_,j,q,k,_,_,_,h,_⟩|⟨h,E,G⟩:=h
 exact .inr N
 exact .inr N
 exact .inl ⟨E,G,h⟩
def Ya a cap ps w(G:AL w a ps)(Z:ps.length<=cap)(O:cap<=s7) c p(h:Ky ps c p):qW 27 #[.s a ps.length cap] w (.agg #[.q c,.q p]):=by
 obtain⟨h,rfl,rfl⟩|⟨h,j,q,k,I,Y,i,rfl,rfl⟩|⟨h,rfl,rfl⟩:=h
 exact dZ a ps.length cap w (rX Z O) h
 .
  let V:j<=ps.length:=by
   obtain E|E:=nR j ps.length
   omega
   simp[ą E]at I
  exact UJ a cap ps w G h j V Y _ _ (.inr ⟨q,k,I,i,J,J⟩)
 exact UJ a cap ps w G h.j ps.length lr (λi q _ U=>h.d i q U) 0 (-1) (.inl ⟨J,J,J⟩)
def Yh a cap ps(w:M) ad(E:Errs9 w ad)(O:AL w a ps)(ab:ps.length<=cap)(V:cap<=s7) c p(h:Ky ps c p):Ë 42 #[.s a ps.length cap] w λe w'=>∃I,e=.r I/\Bo w' I c p/\zW w w':=by
 obtain⟨h,rfl,rfl⟩|⟨h,j,q,k,B,Y,U,rfl,rfl⟩|⟨h,rfl,rfl⟩:=h
 .
  apply(bM a ps.length cap w ad E.x (rX ab V) h).mono
  rintro e w'⟨rfl,rfl⟩;exact⟨_,J,CJ E 1 dc,br⟩
 .
  apply(qh a cap ps w ad E.x O h j q B Y k U).mono
  rintro e w'⟨G,B,rfl,-,-,q,Y⟩;let Z:k<9:=by obtain⟨-,rfl⟩|⟨-,-,rfl⟩:=U<;>omega
  exact⟨_,J,⟨FZ (E.d G) k Z j B q Y,λh=>N,λ_=>⟨_,_,J⟩⟩,G⟩
 apply(L8 a cap ps w O h).mono
 rintro e w'⟨rfl,G⟩;exact⟨_,J,Oy _,G⟩
end Go.Proofs.YtaoikkhlnhfkfaaGreatDoor
