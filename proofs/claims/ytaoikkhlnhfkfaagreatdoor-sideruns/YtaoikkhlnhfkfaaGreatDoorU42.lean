import Derived.Test.YtaoikkhlnhfkfaaGreatDoorU00
import Derived.Test.YtaoikkhlnhfkfaaGreatDoorU41
import Derived.Test.YtaoikkhlnhfkfaaGreatDoorU14
import Derived.OwnWalk
import Derived.Test.YtaoikkhlnhfkfaaGreatDoorU33
set_option maxHeartbeats 4000000
set_option maxRecDepth 100000
set_option linter.defProp false
set_option linter.unusedSimpArgs false
set_option linter.unusedVariables false
namespace Go.Proofs.YtaoikkhlnhfkfaaGreatDoor
open Go renaming Addr->xr,Calls->s8,World->tz,results_tmp3->EY
open Option renaming some->A,none->sA
open List renaming range->tW,getD->AD
open Proofs.Tryz renaming prog->sr
open Exit renaming inBlock->CI
open Go.RowKit
def FL (cs:List lI)(ps:List Pk)(ad:Nat->xr)(w:M)(e:Ending)(w':M):=
 zW w w'/\((∃(i F:Nat),Bz (Bf cs) ps i/\(∀j,j<i ->¬Bz (Bf cs) ps j)/\e=.r (.t #[.sn,.f 119 (.pp F 0)])/\w'.cell? (C F 0)=A (.q (i:Int))/\w'.cell? (C F 1)=A (.f 255 (.p (A (ad 3)))))\/
  (∃I G E L,(∀i,¬Bz (Bf cs) ps i)/\è (Bf cs) ps E/\BD E ps.length L/\e=.r (.t #[.s I (Aq ps E L).length G,.n])/\CU w' I G (Aq ps E L)))
structure FB (ps:List Pk)(f:Nat)(xs:Nat->Pk):Prop where
 b:∀i p,ps[i]? = A p->(xs i).b=p.b/\(xs i).h=p.h
 h:∀i p,ps[i]? = A p->f<=Aj ps i->xs i=p
def DL (n:Nat)(xs:Nat->Pk)(i:Nat):=if i<n then(xs i).a else 0
section
variable {cs:Nat->List (Int×Int)}{ps:List Pk}{f:Nat}{z:Int}{xs ys:Nat->Pk}
def FB.j (O:Ar ps)(h:FB ps f xs):∀i,i<ps.length->((xs i).b==(f:Int))=(Aj ps i==f):=λi G=>by
 have e:=ë G;rw[(h.b i _ e).1];have:=TP O e f;by_cases E:Aj ps i=f
 . rw[Ł.2 (this.2 E),Ł.2 E]
 rw[Α.2 (λI=>E (this.1 I)),Α.2 E]
def FB.E (G:Ar ps)(h:FB ps f xs):∀(r i:Nat),(A9 ps f ps.length)[r]? = A i->(Bv ps f ps.length)[r]? = A (xs i):=λr i O=>by
 obtain⟨I,U,-,E⟩:=(Fz G f ps.length lr).2 r i O;have e:=ë I;rw[E,e,h.h i _ e N]
def kW (E:Ar ps)(U:cs f=[])(h:FB ps f xs)(I:BL cs ps f z (DL ps.length xs)):FB ps (f+1) xs/\BL cs ps (f+1) z (DL ps.length xs):=by
 refine⟨⟨h.b,λi p V Y=>h.h i p V N⟩,I.b E (out:=Bv ps f ps.length) (by unfold Dy;rw[Æ U]) (λr i G=>?_) (λ_ _=>J)⟩;have O:=((Fz E f ps.length lr).2 r i G).1;unfold DL;rw[Æ O,AQ (h.E E r i G)]
def gJ (O:Ar ps)(ac:Bq (cs f))(aj:cs f≠[])(h:FB ps f xs)(ab:BL cs ps f z (DL ps.length xs)){s}(Z:shape (cs f) (Bv ps f ps.length)=A s)(Y:∀(r i:Nat),(A9 ps f ps.length)[r]? = A i->s.p[r]? = A (ys i))(V:∀i,i<ps.length->i ∉ A9 ps f ps.length->ys i=xs i):FB ps (f+1) ys/\BL cs ps (f+1) z (DL ps.length ys):=by
 have e:=(Sd O f ps.length lr).1;have X:=I4 ac _ s e Z;refine⟨⟨λi p E=>?_,λi p E e=>?_⟩,ab.b O (out:=s.p) (by unfold Dy;rw[Ä aj,Z];rfl) (λr i U=>?_) (λi E=>?_)⟩
 .
  by_cases I:i∈A9 ps f ps.length
  .
   let⟨r,U,e⟩:=j3 I;have G:(A9 ps f ps.length)[r]? = A i:=by rw[ë U,e]
   have:=X.d r _ _ (h.E O r i G) (Y r i G);rw[this.1,this.2.1];exact h.b i p E
  rw[V i (Ap E) I];exact h.b i p E
 .
  have I:i ∉ A9 ps f ps.length:=λI=>by have:=(OE.1 I).2;omega
  rw[V i (Ap E) I];exact h.h i p E N
 . have G:=((Fz O f ps.length lr).2 r i U).1;unfold DL;rw[Æ G,AQ (Y r i U)]
 unfold DL;by_cases G:i<ps.length
 . rw[Æ G,Æ G,V i G E]
 rw[Ä G,Ä G]
def gI (E:Ar ps)(V:cs f≠[])(h:FB ps f xs)(G:BL cs ps f z (DL ps.length xs)){r i p s}(Z:(A9 ps f ps.length)[r]? = A i)(aa:(Bv ps f ps.length)[r]? = A p)(Y:shape (cs f) ((Bv ps f ps.length).take r)=A s)(ab:Dn s p=sA):FB ps (f+1) xs/\BL cs ps (f+1) (if z<0\/(i:Int)<z then(i:Int)else z) (DL ps.length xs):=by
 let⟨O,I⟩:=XG E V Z aa Y ab;exact⟨⟨h.b,λj q U X=>h.h j q U N⟩,G.stuck E O I⟩
end
def GN (n:Nat)(z:Int):=if z<0 then(n:Int)else z
def sP{ps xs}(h:∀i p,ps[i]? = A p->(xs i).b=p.b/\(xs i).h=p.h){i}(E:i<ps.length):I7 ps (DL ps.length xs) i=xs i:=by
 have e:=ë E;let⟨G,I⟩:=h i _ e;rw[FN e,<-G,<-I];unfold DL;rw[Æ E]
def oO{w:M}{g off n I h}(G:Hz w g off n I h):AL w (sa g off) (((tW n).map h).map I):=by
 refine .inr ⟨g,off,J,G.G,λi p V=>?_⟩;have E:i<n:=by have:=Ap V;simpa using this
 have e:I (h i)=p:=by simpa[E]using V
 have U:=G.e i E;have Y:=G.a i E;have O:=G.k i E;rw[e]at U Y O;exact⟨U,Y,O⟩
def je{w:M}{B g cap ps}(h:CF w B (.sl g 0 ps.length cap) ps)(I:g<w.heap.size):Hz w g 0 ps.length (λi=>ps.getD i ⟨0,0,0⟩) (λi=>i):=by
 refine⟨I,λi G=>?_,λi G=>?_,λi G=>?_,λj=>World.ownsRow.frozenAt h j⟩
 all_goals
  have e:=ë G;have E:=Vh ps i ps[i] e;rw[Ă,World.ownsRow.cellAt h _ N];simp only[AD,e,é]
 . exact E.1
 . exact E.2.1
 exact E.2.2
def Xi (aq:oA) a8(cs:List lI)(Y:oA) U w ad(aI:Errs9 w ad)(aB:EW w aq cs)(ac:cs.length=8)(ao:Db cs 8)(ab:CU w Y U []):s8 sr 43 #[.s aq cs.length a8,.s Y 0 U] w λe w'=>FL cs [] ad w e w':=by
 have aw:=(show Hid (Ë 88 #[.s Y 0 U] w λe w'=>∃v,e=.r v/\CF w' w.heap.size v []/\zW w w')from O9 Y U [] w ab.h (by simp) ab.a)
 have T:=Io aI;have r9:=Io ao;have S:=Io ac;obtain⟨b,off,rfl,-,an⟩:=aB.h (by omega);have Q:=Io an;have P:Hid (∀(G:oA)(E:Nat)(W:tz),zW w W->E<=maxLen->(G=sA->E=0)->FL cs [] ad w (.r (.t #[.s G 0 E,.n])) W):=λG E W n aa v=>by
  have O:∀i,¬Bz (Bf cs) [] i:=λi h=>by obtain⟨p,s,aa,-⟩:=h;simp at aa
  let⟨al,i⟩:=rO (cs:=Bf cs) Ku O;exact⟨n,.inr ⟨G,E,al,[],O,i,BD.c al,J,.inl J,uD _,aa,λh=>⟨J,v h⟩⟩⟩
 rw[ac];clear aI ao aB ab an ac;go_in
 go_wp2_with fail;apply aw.o.mono
 rintro e b⟨v,rfl,ak,aW⟩;obtain⟨G,E,rfl,-,aN,-,-,aj⟩:=ak.open;have am:Hid (E<=maxLen/\(G=sA->E=0)):=⟨aN,λh=>(aj h).2⟩
 have aE:=Io aW;simp only[Ġ]at*;clear ak aN aj aW aw;go_wp2_with fail;go_loopg[7,16] 8 (λi p n wr=>∃k:Nat,p=.int .i64 0/\n=.int .i64 k/\k<=8/\8-k<=i/\Hid (zW w wr))
 case atStart=>exact⟨0,J,J,uD _,lr,aE⟩
 case round=>
  clear aE;obtain⟨k,rfl,rfl,h,h,I⟩:=hrel;by_cases av:k<8
  .
   have R:(k:Int)<8:=by omega
   obtain⟨ls,ai,-⟩:=Ao cs k (by rw[S.o];exact av);obtain⟨a',cap,ax,aL,S,Z,-⟩:=Q.o k ls ai;have Q:=jf I.o ax;have ap:=qY ai aL;let⟨n,O⟩:=ex ls.length;have aC:=Io O;rw[O]at Q;clear ai ax aL S Z O;by_cases V:n=0
   .
    have Z:=Io (Hg a' n cap wr true (by simp;exact V));clear V;go_wp2_with fail;apply Z.o.mono
    rintro e w2⟨rfl,rfl⟩;go_wp2
    go_roundg (8-(k+1))
    case measure=>omega
    case rel=>exact⟨k+1,J,by go_num,by omega,lr,I⟩
   have Z:=Io (Hg a' n cap wr false (by simp;omega));have aG:Bq ls:=by
    obtain h|h:=r9.o k ls av ap.o.1
    . exact absurd (by rw[<-aC.o,h];rfl) V
    exact h
   have h:Hid (qW 89 #[.s a' n cap,.s G 0 E,.int .i64 k] wr (.int .i64 0)):=by
    have:=Vg a' cap ls G E (k:Int) wr ad (T.o.d I.o) (ap.o.2.d I.o) aG;rwa[aC.o]at this
   clear aG V;go_wp2_with fail;apply Z.o.mono
   rintro e w2⟨rfl,rfl⟩;go_wp2_with fail;apply h.o.mono
   rintro e h⟨rfl,a0⟩;have i:=Io (I.o.tr a0);clear a0;go_wp2
   go_roundg (8-(k+1))
   case measure=>omega
   case rel=>exact⟨k+1,J,by go_num,by omega,lr,i⟩
  have R:¬(k:Int)<8:=by omega
  have h:Hid (Ë 90 #[.s G 0 E,.func (.func 91) #[] #[]] wr λe w'=>e=.r (.t #[])/\w'=wr):=Ty G E _ wr;go_wp2_with fail;apply h.o.mono
  rintro e w2⟨rfl,rfl⟩;go_wp2
  go_ret2;exact P.o G E _ I.o am.o.1 am.o.2
def Xb (b1:oA) cn(cs:List lI)(aq:oA) am ps(w:M) ad(b':Errs9 w ad)(b9:EW w b1 cs)(a5:cs.length=8)(bn:Db cs 8)(be:CU w aq am ps)(aI:Ar ps)(bZ:0<ps.length):s8 sr 43 #[.s b1 cs.length cn,.s aq ps.length am] w λe w'=>FL cs ps ad w e w':=by
 have cp:=aI.j;have bd:=(show Hid (Ë 88 #[.s aq ps.length am] w λe w'=>∃v,e=.r v/\CF w' w.z v ps/\zW w w')from O9 aq am ps w be.h N be.a)
 have r7:=Io b';have cg:=Io bn;have co:=Io a5;have U:=Io aI;obtain⟨b,off,rfl,-,cb⟩:=b9.h N;have cf:=Io cb;let⟨r9,b⟩:=ex ps.length;have I:=Io b;rw[a5];rw[b]at bd bZ cp⊢;clear b' bn b9 be aI cb a5 b;go_in
 go_wp2_with fail;apply bd.o.mono
 rintro e w1⟨v,rfl,aw,aB⟩;obtain⟨g,ak,rfl,ce,bw⟩:∃g h,v=.sl g 0 ps.length h/\w.z<=g/\g<w1.z:=by
  let⟨g,h,cC,aB,ct⟩:=World.ownsRow.form aw (by rw[I.o];exact bZ);exact⟨g,h,cC,aB,ct⟩
 have j:=je aw bw;obtain⟨cU,cT,cl,a1,k,-,-,-⟩:=aw.open;injection cl with cx cR ci
 subst ci;rw[I.o]at j a1⊢;have K:=qY a1 k;have ap:=qY aB ce;have bK:=Io j;clear aw k a1 aB bd j cx ce bw;go_wp2_with fail;go_loopg[7,16] 8 (λcE cH ck wr=>∃(k:Nat)(z:Int)(xs:Nat->Pk),cH=.q (GN r9 z)/\ck=.q (k:Int)/\k<=8/\8-k<=cE/\Hid (FB ps k xs/\BL (Bf cs) ps k z (DL r9 xs))/\Hid (Hz wr g 0 r9 xs (λi=>i)/\Ç (λq=>q=g) w1 wr))
 case atStart=>
  refine⟨0,-1,λi=>ps.getD i ⟨0,0,0⟩,J,J,uD _,lr,⟨⟨λi p G=>?_,λi p G _=>?_⟩,Ot _⟩,bK.o,Ç.I _ _⟩
  . simp[AD,G]
  simp[AD,G]
 case round=>
  clear bK;obtain⟨k,z,xs,rfl,rfl,cQ,cS,Y,H⟩:=hrel;have Z:=Io (ap.o.1.trans (H.o.2.d ap.o.1.size λq L=>by rw[L];exact ap.o.2));have R:0<=GN r9 z/\GN r9 z<=r9:=by
   unfold GN;obtain h|⟨i,E,O⟩:=Y.o.2.range
   . rw[Æ N];omega
   rw[Ä N];rw[I.o]at O;omega
  by_cases b6:k<8
  .
   have cG:(k:Int)<8:=N;obtain⟨ls,av,-⟩:=Ao cs k (by rw[co.o];exact b6);obtain⟨a',cap,bs,b3,cv,cq,-⟩:=cf.o k ls av;have cj:=jf Z.o bs;have ab:=qZ av b3 (K4 av);let⟨n,q⟩:=ex ls.length;have ao:=Io q;rw[q]at cj;let⟨S,bh⟩:=ex (GN r9 z);have a2:=Io bh;rw[bh]at R⊢;clear av bs b3 cv cq q bh;by_cases aa:n=0
   .
    have r:=Io (Hg a' n cap wr true (by simp;exact aa));have aj:Hid (FB ps (k+1) xs/\BL (Bf cs) ps (k+1) z (DL r9 xs)):=by
     have cD:Bf cs k=[]:=by rw[ab.o.2.2];exact Ğ.1 (ao.o.trans aa)
     have:=Y.o;rw[<-I.o]at this⊢;exact kW U.o cD this.1 this.2
    clear aa;go_wp2_with fail;apply r.o.mono
    rintro e Q⟨rfl,rfl⟩;go_wp2
    go_roundg (8-(k+1))
    case measure=>omega
    case rel=>exact⟨k+1,z,xs,by rw[a2.o],by go_num,N,lr,aj,H⟩
   have r:=Io (Hg a' n cap wr false (by simp;omega));have s:Bf cs k≠[]:=λh=>aa (by rw[<-ao.o,<-ab.o.2.2,h];rfl)
   have q:Bq ls:=by
    obtain h|h:=cg.o k ls b6 ab.o.1
    . exact absurd (by rw[<-ao.o,h];rfl) aa
    exact h
   have P:Hid (Ë 89 #[.s a' n cap,.sl g 0 r9 ak,.q (k:Int)] wr λe w'=>TT g 0 r9 xs ps k ls wr e w'):=by
    have E:=Y.o.1.j U.o;have O:=Y.o.1.E U.o;rw[I.o]at E O;have:=WP a' cap ls g 0 r9 ak xs ps k wr ad (r7.o.d Z.o) (ab.o.2.1.d Z.o) q H.o.1 I.o U.o E O;rwa[ao.o]at this
   have L:=qY q s;clear q aa s;go_wp2_with fail;apply r.o.mono
   rintro e Q⟨rfl,rfl⟩;go_wp2_with fail;apply P.o.mono
   rintro e w3⟨al,⟨s,bg,V,rfl,ac,se,Q⟩|⟨r,i,p,s,ax,p,V,bx,rfl,ac⟩⟩
   .
    have aj:Hid (FB ps (k+1) bg/\BL (Bf cs) ps (k+1) z (DL r9 bg)):=by
     have E:=Y.o;have O:=L.o;have s:=ab.o.2.2;rw[<-I.o]at E V se Q⊢;rw[<-s]at O V;exact gJ U.o O.1 O.2 E.1 E.2 V se Q
    have r:=qY ac (H.o.2.G al);clear al V ac se Q P;go_wp2
    go_roundg (8-(k+1))
    case measure=>omega
    case rel=>exact⟨k+1,z,bg,by rw[a2.o,show min S (r9:Int)=S by omega],by go_num,N,lr,aj,r⟩
   have cy:i<r9:=by
    have:=(OE.1 (ĵ ax)).1;exact this
   have aj:Hid (FB ps (k+1) xs/\BL (Bf cs) ps (k+1) (if z<0\/(i:Int)<z then(i:Int)else z) (DL r9 xs)):=by
    have E:=Y.o;have O:=L.o;have s:=ab.o.2.2;rw[<-I.o]at E ax p V⊢;rw[<-s]at V;exact gI U.o O.2 E.1 E.2 ax p V bx
   have r:=qY ac (H.o.2.G al);have cJ:Hid (GN r9 (if z<0\/(i:Int)<z then(i:Int)else z)=min S (i:Int)):=by
    show _=_
    rw[<-a2.o];unfold GN;by_cases E:z<0
    . have e:(if z<0\/(i:Int)<z then(i:Int)else z)=(i:Int):=Æ (.inl E);rw[e,Ä N,Æ E];omega
    by_cases O:(i:Int)<z
    . have e:(if z<0\/(i:Int)<z then(i:Int)else z)=(i:Int):=Æ (.inr O);rw[e,Ä N,Ä E];omega
    have e:(if z<0\/(i:Int)<z then(i:Int)else z)=z:=Ä N;rw[e,Ä E];omega
   clear al V ac ax p bx P;go_wp2
   go_roundg (8-(k+1))
   case measure=>omega
   case rel=>exact⟨k+1,_,xs,by rw[cJ.o],by go_num,N,lr,aj,r⟩
  have cG:¬(k:Int)<8:=N;obtain rfl:k=8:=N;by_cases an:z<0
  .
   have cc:GN r9 z=r9:=by unfold GN;rw[Æ an]
   rw[cc];have cN:¬(r9:Int)<(r9:Int):=N;have aW:∀f,f<8->∃out,Dy (Bf cs) ps f=A out/\∀(r i:Nat),(A9 ps f ps.length)[r]? = A i->DL r9 xs i=Ay out r:=by
    obtain⟨-,h⟩|⟨i,h,-⟩:=Y.o.2
    . exact h
    omega
   have b5:∀i,¬Bz (Bf cs) ps i:=λi G=>by
    have cI:i<ps.length:=by obtain⟨p,s,E,-⟩:=G;exact Ap E
    obtain⟨out,E,-⟩:=aW _ (Kn U.o cI);exact OA U.o E J G
   have ai:=qY b5 aW;have p:Hid (AY wr g 0 r9 (I7 ps (DL r9 xs)) (λi=>i) wr):=by
    have e:=λi G=>by
     have:=sP Y.o.1.b (i:=i) (by rw[I.o];exact G);rwa[I.o]at this
    refine⟨⟨H.o.1.G,λi G=>?_,λi G=>?_,λi G=>?_,H.o.1.d⟩,Ç.I _ _⟩
    . rw[e i G];exact H.o.1.e i G
    . rw[e i G];exact H.o.1.a i G
    rw[e i G];exact H.o.1.k i G
   have ca:=Io (WE wr g 0 r9 ak _ wr p.o N);clear cc aW b5 an R;go_wp2_with fail;apply ca.o.mono
   rintro e Q⟨rfl,h,b7,j⟩;have aC:Hid (FL cs ps ad w (.r (.t #[.sl g 0 r9 ak,.n])) Q):=by
    have cA:=b7.p λi G=>by
     show(I7 ps (DL r9 xs) i).a=_
     have e:ps[i]? = A (ps[i]'(by rw[I.o];exact G)):=ë _;rw[FN e]
    have cm:=oO j.row;have bq:(Aq ps (DL r9 xs) ((tW r9).map h)).length=r9:=by simp[Aq]
    refine⟨Z.o.trans (j.r.d Z.o.size λq L=>by rw[L];exact ap.o.2),.inr ⟨A (C g 0),ak,DL r9 xs,(tW r9).map h,ai.o.1,ai.o.2,by rw[I.o];exact cA,by rw[bq],⟨cm,by rw[bq];exact K.o.1,K.o.2,nofun⟩⟩⟩
   clear b7 j ca p;go_wp2
   go_ret2;exact aC.o
  obtain⟨i,b8,b,-,g⟩:∃i:Nat,z=i/\Bz (Bf cs) ps i/\Aj ps i<8/\∀j,Bz (Bf cs) ps j->Aj ps j<8->i<=j:=by
   obtain⟨h,-⟩|h:=Y.o.2
   . omega
   exact h
  have bt:GN r9 z=(i:Int):=by unfold GN;rw[Ä an];exact b8
  have cy:i<r9:=by obtain⟨p,s,E,-⟩:=b;have:=Ap E;rw[I.o]at this;exact this
  have cL:(i:Int)<(r9:Int):=N;have ai:Hid (Bz (Bf cs) ps i/\∀j,j<i ->¬Bz (Bf cs) ps j):=⟨b,λj cM cd=>by
   have ch:j<ps.length:=by obtain⟨p,s,E,-⟩:=cd;exact Ap E
   have:=g j cd (Kn U.o ch);omega⟩
  have cP:=(r7.o.d Z.o).l;rw[bt];clear b8 b g bt an R;go_wp2
  go_region;have aC:Hid (FL cs ps ad w (.r (.t #[.sn,.f 119 (.pp wr.z 0)])) (wr.alloc (.c #[.q (i:Int),.f 255 (.p (A (ad 3)))] 123)).drew):=⟨ì (Z.o.alloc Z.o.size _) 1,.inl ⟨i,wr.z,ai.o.1,ai.o.2,J,sm,sm⟩⟩
  go_wp2
  go_ret2;exact aC.o
def az (I:oA) O(cs:List lI)(G:oA) E ps(w:M) ad(aa:Errs9 w ad)(ab:EW w I cs)(Z:cs.length=8)(V:Db cs 8)(Y:CU w G E ps)(ac:Ar ps):Ë 43 #[.s I cs.length O,.s G ps.length E] w λe w'=>FL cs ps ad w e w':=by
 obtain U|U:=Ģ ps.length
 . obtain rfl:=Ğ.1 U;exact Xi I O cs G E w ad aa ab Z V Y
 exact Xb I O cs G E ps w ad aa ab Z V Y ac U
def VC (w:M)(g:Vl)(c p:Int):=∀W,zW w W->Ë 17 #[g] W λe w'=>∃E,e=.r E/\Bo w' E c p/\zW W w'
section
variable (ca:Option xr)(m ccap:Nat)(kb:ByteArray)(per:Int)(na:Option xr)(r ncap:Nat)(pa:Option xr)(n pcap:Nat)(w:tz)
def Y7 c p(Z:0<c)(h:VC w (.agg #[.s ca m ccap,.st kb,.q per,.s na r ncap]) c p):s8 sr 20 #[.agg #[.s ca m ccap,.st kb,.q per,.s na r ncap],.s pa n pcap] w λe w'=>M0 c p w e w':=by
 have G:zW w (w.alloc (.c #[.s ca m ccap,.st kb,.q per,.s na r ncap] 36)):=ba;have U:=(show Hid (Ë 17 #[.agg #[.s ca m ccap,.st kb,.q per,.s na r ncap]] (w.alloc (.c #[.s ca m ccap,.st kb,.q per,.s na r ncap] 36)) λe w'=>∃E,e=.r E/\Bo w' E c p/\Below (w.alloc (.c #[.s ca m ccap,.st kb,.q per,.s na r ncap] 36)).z (w.alloc (.c #[.s ca m ccap,.st kb,.q per,.s na r ncap] 36)) w')from h _ G)
 have Y:=Io G;clear h G;go_in
 go_wp2_with fail;apply U.o.mono
 rintro e G⟨E,rfl,I,O⟩;obtain⟨E,v,rfl⟩:=I.b N;have V:Hid (M0 c p w (.r (.t #[.sn,.sn,.f E v])) G):=⟨sA,0,sA,0,_,J,I,Y.o.tr O⟩
 clear I O U;go_wp2_with fail
 (try simp only[CI,Exit.then])
 apply Ę (EY J _ _ _) J
 exact V.o
def di c p(ac:0<c)(h:VC w (.agg #[.s ca m ccap,.st kb,.q per,.s na r ncap]) 0 (-1))(U:∀W,zW w W->Ë 42 #[.s pa n pcap] W λe w'=>∃E,e=.r E/\Bo w' E c p/\zW W w'):s8 sr 20 #[.agg #[.s ca m ccap,.st kb,.q per,.s na r ncap],.s pa n pcap] w λe w'=>M0 c p w e w':=by
 have O:zW w (w.alloc (.c #[.s ca m ccap,.st kb,.q per,.s na r ncap] 36)):=ba;have Y:=(show Hid (Ë 17 #[.agg #[.s ca m ccap,.st kb,.q per,.s na r ncap]] (w.alloc (.c #[.s ca m ccap,.st kb,.q per,.s na r ncap] 36)) λe w'=>∃E,e=.r E/\Bo w' E 0 (-1)/\Below (w.alloc (.c #[.s ca m ccap,.st kb,.q per,.s na r ncap] 36)).z (w.alloc (.c #[.s ca m ccap,.st kb,.q per,.s na r ncap] 36)) w')from h _ O)
 have Z:=Io O;have v:=Io U;clear h O U;go_in
 go_wp2_with fail;apply Y.o.mono
 rintro e G⟨E,rfl,G,I⟩;obtain rfl:=G.a J;have V:=Io (Z.o.tr I);clear G I Y;go_wp2_with fail;apply(v.o _ V.o).mono
 rintro e O⟨E,rfl,G,I⟩;obtain⟨Y,v,rfl⟩:=G.b N;have Z:Hid (M0 c p w (.r (.t #[.sn,.sn,.f Y v])) O):=⟨sA,0,sA,0,_,J,G,V.o.tr I⟩
 clear G I;go_wp2_with fail
 (try simp only[CI,Exit.then])
 apply Ę (EY J _ _ _) J
 exact Z.o
end
def Qq (Y:oA) V(cs:List lI)(G:bA) per(O:oA) U(I:lZ)(aI:oA) av ps(w:M) ad(aG:Errs9 w ad)(aB:CS w Y V cs O U I)(a9:CU w aI av ps)(E:M5 cs (Ê G.toList) per I)(aw:Ar ps):s8 sr 20 #[.agg #[.s Y cs.length V,.st G,.q per,.s O I.length U],.s aI ps.length av] w λe w'=>
   (∀i,Bz (Bf cs) ps i->(∀j,j<i->¬Bz (Bf cs) ps j)->M0 4 i w e w')/\((∀i,¬Bz (Bf cs) ps i)->Uk cs (Ê G.toList) per I ps w e w'):=by
 let⟨k,h⟩:=ex (Ê G.toList);rw[h]at E⊢;let⟨m,L⟩:=ex cs.length;let⟨r,q⟩:=ex I.length;let⟨n,F⟩:=ex ps.length;have ck:Hid (∀W,zW w W->qW 17 #[.agg #[.s Y m V,.st G,.q per,.s O r U]] W .n):=λW l=>by
  have ch:GV cs (Ê G.toList) per I 0 (-1):=by
   rw[h];exact .inr (.inr ⟨E.len,E.a,J,.inr ⟨E.d.1,E.d.2,.inr ⟨E.e.1,E.e.2,0,E.j,J⟩⟩⟩)
  have:=J3 Y V cs G per O U I W ad 0 (-1) (aG.d l) (aB.d l) ch;rw[L,q]at this;apply this.mono
  rintro e w'⟨K,rfl,n,Z⟩;rw[n.a J];exact⟨J,Z⟩
 have ci:=Io (λW l=>by
  have:=L8 aI av ps W (a9.h.d l) aw;rwa[F]at this)
 have ca:=Io (λW l=>by
  have:=az Y V cs aI av ps W ad (aG.d l) (aB.a.d l) E.len E.a (a9.d l) aw;rwa[L,F]at this)
 let⟨b,bf⟩:=ex (decide (k≠0));have cd:=Io (Ut G k h b bf);have b9:zW w (w.alloc (.c #[.s Y m V,.st G,.q per,.s O r U] 36)):=ba;have b:=EA w (.s Y m V) G per (.s O r U) 36;have cf:=Io b;have b3:=Io b9;have bw:=Io aG;have cg:=Io aB.j;have m:=qZ E aw q;have cb:Hid (LU (Bf cs)):=λf l=>by
  obtain⟨ls,X,-⟩:=Ao cs f (by rw[E.len];exact l);rw[K4 X];exact E.a f ls l X
 rw[L,q,F];clear aG aB a9 E aw h L q F bf b9 b;go_in
 go_wp2_with fail;apply(ck.o _ b3.o).mono
 rintro e w1⟨rfl,n⟩;have bq:=Io (b3.o.tr n);have co:=Io (cf.o.later n);clear n;go_wp2_with fail;apply(ci.o _ bq.o).mono
 rintro e w2⟨rfl,Z⟩;have l:=Io (bq.o.tr Z);have b1:=Io (co.o.later Z);have b6:=b1.o.e;clear Z;go_wp2_with fail;apply(ca.o _ l.o).mono
 rintro e se⟨X,⟨i,F,b4,q,rfl,bg,n⟩|⟨S,R,f,L,K,r9,P,rfl,bK⟩⟩
 .
  have T:=Io (l.o.tr X);have Q:Hid (M0 4 i w (.r (.t #[.sn,.sn,.f 119 (.pp F 0)])) se):=by
   refine⟨sA,0,sA,0,_,J,⟨?_,λh=>absurd h dc,λ_=>⟨_,_,J⟩⟩,T.o⟩;have:=FZ (bw.o.d T.o) 3 N (i:Int) F bg n;simpa using this
  have b:=qY b4 q;clear X b4 q bg n b6;go_wp2_with fail
  (try simp only[CI,Exit.then])
  apply Ę (EY J _ _ _) J
  refine⟨λq n Z=>?_,λh=>absurd b.o.1 (h i)⟩;obtain rfl:q=i:=by
   obtain h|h|h:=θ q i
   . exact absurd n (b.o.2 q h)
   . exact h
   exact absurd b.o.1 (Z i h)
  exact Q.o
 have T:=Io (l.o.tr X);have b:=Io (b1.o.later X);have Z:=qZ K r9 P;have b':=Io (r9.y m.o.2.1 cb.o P);have bs:=Io bK;let⟨q,n⟩:=ex ((Aq ps f L).length);have bj:=Io n;rw[n];have cn:=b.o.a;have cl:=b.o.k;have cq:=b.o.l;have Q:Hid (∀W,zW se W->W.cell? (C w.z 1)=A (.st G)/\W.cell? (C w.z 2)=A (.q per)/\W.cell? (C w.z 3)=A (.s O r U)):=λW l=>⟨jf l b.o.a,jf l b.o.k,jf l b.o.l⟩
 have bx:Hid (zW se se.drew):=ì br 1;have ce:Hid (∀F b W,zW se W->Uq W k F b->Ë F (#[.s S q R,.q per,.s O r U]++b) W λe w'=>Ja k per I (Aq ps f L) 0 W e w'):=λF b W l h=>by
  have bZ:=T.o.tr l;have:=h.v S R (Aq ps f L) per O U I W ad 0 br (bw.o.d bZ) (bs.o.d l) (cg.o.d bZ) b'.o (.inr ⟨m.o.1.e.1,m.o.1.e.2,0,m.o.1.j,J⟩);rwa[bj.o,m.o.2.2]at this
 clear X K r9 P bK n b6;go_wp2_with fail;go_region_held3 (λw'=>w'.cell? (C w.z 1)=A (.st G)/\w'.cell? (C w.z 2)=A (.q per)/\w'.cell? (C w.z 3)=A (.s O r U))
  (first|exact bd|exact Q.o _ bx.o)
  (first
  |(go_at_call 35;apply(cd.o _).mono;rintro e l⟨se,cx,rfl,b8,cc,ct,cm⟩;have n:=Io ((by exact bx.o.tr b8));have bd:=Q.o l n.o;obtain⟨F,b,rfl,h⟩:=cm m.o.1.d.1;have cv:=h.call;have cp:=Io h;clear b8 cc h)
  |(apply (ce.o F b l n.o cp.o).mono;rintro e m⟨F,bt,r,K,rfl,h,b,b5⟩;have bd:=Q.o m (n.o.tr b);have b7:Hid (Bo m K 0 (-1)/\zW l m/\∃l,bt=l.length/\JI m F r l/\CX k per (Aq ps f L) I l):=⟨h,b,b5 J⟩;clear h b b5))
 all_goals
  let⟨h,b,l,se,bk,X⟩:=b7.o;obtain rfl:=h.a J;have Q:Hid (Uk cs k per I ps w (.r (.t #[.s S q R,.s F bt r,.n])) m):=by
   have k:=n.o.tr b;refine⟨S,R,F,r,Aq ps f L,l,by rw[bj.o,se],bs.o.d k,bk,⟨f,L,Z.o.2.1,Z.o.2.2,J,X⟩,T.o.tr k⟩
  clear h b se bk X b7 bd cn cl cq;go_wp2_with fail
  (try simp only[CI,Exit.then])
  apply Ę (EY J _ _ _) J
  exact⟨λi h _=>absurd h (Z.o.1 i),λ_=>Q.o⟩
def RS:rF where
 a:=J3
 b:=λV O Q U per G I r9 T Z se w R c p S P Y h r7=>by
  obtain⟨h,-⟩|⟨E,h,-⟩|⟨E,K,i,L,H,rfl,rfl⟩|⟨-,-,-,rfl,-⟩:=h
  . exact Y7 V _ O U per G _ I T _ Z w c p r7 λW X=>J3 V O Q U per G I r9 W R c p (S.d X) (P.d X) h
  . refine di V _ O U per G _ I T _ Z w c p r7 (λW X=>J3 V O Q U per G I r9 W R 0 (-1) (S.d X) (P.d X) ?_) (λW X=>Yh T Z se W R (S.d X) (Y.h.d X) Y.b Y.max c p h);exact .inr (.inr ⟨E.len,E.a,J,.inr ⟨E.d.1,E.d.2,.inr ⟨E.e.1,E.e.2,0,E.j,J⟩⟩⟩)
  . exact(Qq V O Q U per G I r9 T Z se w R S P Y E K).mono λ_ _ h=>h.1 i L H
  omega
 g:=λV O Q U per G I r9 T Z se w R S P Y E K L=>(Qq V O Q U per G I r9 T Z se w R S P Y E K).mono λ_ _ h=>h.2 L
def dM Y I B off n cap i(U:oA) m O(ai:bA) per(V:oA) r Z(a:oA) len aa(w:M)(R:Vl->Vl->M->Prop)
  (aj:CE w Y (.s U m O) ai per (.s V r Z))(ap:w.cell? (C I 0)=A (.sl B off n cap))(aq:i<n)(av:w.cell? (C B (off+i))=A (.s a len aa))
  (G:∀W,zW w W->Ë 20 #[.agg #[.s U m O,.st ai,.q per,.s V r Z],.s a len aa] W λe w'=>zW W w'/\∃u x y,e=.r (.t #[u,x,y])/\R x y w'):
  Calls sr 19 #[.q i,.pp Y 0,.pp I 0] w λe w'=>zW w w'/\∃x y,e=.r (.t #[x,y])/\R x y w':=by
 have E:decide ((i:Int)<0)=false:=ĕ N;have E:decide ((i:Int)<(n:Int))=true:=ď N;have E:=qX G;obtain⟨S,S,S,S⟩:=aj;clear G;go_in
 go_wp2_with fail;go_region_with (first
  |(go_simp;go_at_call 20;go_must (refine(E.o _ ?_).mono ?_;exact br.drew;rintro e X⟨E,u,x,y,rfl,S⟩;have T:Hid (Below w.drew.z w.drew X/\R x y X):=⟨E,S⟩;clear E S))
  |fail)
 all_goals (go_wp2_with fail)
 all_goals (go_ret2;exact⟨(ì br 1).trans (T.o.1.mono lr),x,y,J,T.o.2⟩)
def Xz (cs:List lI)(k:Nat)(per:Int)(I:lZ)(ps:List Pk)(ad:Nat->xr)(e:Ending)(w':M):=Errs9 w' ad/\
 ((∃c p E G O,XR cs k per I ps c p/\0<c/\e=.r (.t #[.s E 0 G,O])/\Bo w' O c p)\/
 (∃E G qs l,XR cs k per I ps 0 (-1)/\JU (Bf cs) k per I ps qs l/\e=.r (.t #[.s E l.length G,.n])/\JI w' E G l))
def qn (Y:oA) U(cs:List lI)(I:bA) per(Z:oA) aa(E:lZ)(ai:oA) ab ps(w:M) ad(ac:Errs9 w ad)(am:CS w Y U cs Z aa E)(an:CU w ai ab ps):Ë 20 #[.agg #[.s Y cs.length U,.st I,.q per,.s Z E.length aa],.s ai ps.length ab] w λe w'=>zW w w'/\∃u x y,e=.r (.t #[u,x,y])/\Xz cs (Ê I.toList) per E ps ad (.r (.t #[x,y])) w':=by
 let⟨c,p,h⟩:=vQ cs (IX I.toList) per E ps;by_cases l:0<c
 .
  apply(RS.b Y U cs I per Z aa E ai ab ps w ad c p ac am an h l).mono
  rintro e w'⟨S,T,X,W,i,rfl,V,G⟩;exact⟨G,_,_,_,J,ac.d G,.inl ⟨c,p,X,W,i,h,l,J,V⟩⟩
 obtain⟨-,O⟩|⟨-,-,O⟩|⟨-,-,i,-,-,O,-⟩|⟨V,G,i,c,c⟩:=h
 . exact absurd O l
 . exact absurd O l
 . omega
 apply(RS.g Y U cs I per Z aa E ai ab ps w ad ac am an V G i).mono
 rintro e w'⟨S,T,X,W,O,l,rfl,-,h,p,c⟩;exact⟨c,_,_,_,J,ac.d c,.inr ⟨X,W,O,l,.inr (.inr (.inr ⟨V,G,i,J,J⟩)),p,J,h⟩⟩
open Go.Conc
variable {U:Vl}{c:Int}{a Y:oA}{ps:List Pk}{l:List Sn}{cs:List lI}{Z:Nat}{T:Nat ->Nat}
def pO:Vl->Bool
 |.int .u64 _=>false
 |.int .u32 _=>false
 |_=>true
structure Ci (w w1:M):Prop where
 h:w.heap.size<=w1.heap.size
 E:∀a x,w.cell? a=A x->pO x=true->w1.cell? a=A x
section
variable {w w1:tz}
def Errs9.t{ad}(E:Errs9 w ad)(h:Ci w w1):Errs9 w1 ad:=
 ⟨h.E _ _ E.g J,h.E _ _ E.e J,h.E _ _ E.a J,h.E _ _ E.k J,h.E _ _ E.l J,h.E _ _ E.b J,h.E _ _ E.p J,h.E _ _ E.q J,h.E _ _ E.r J,h.E _ _ E.i J⟩
def Dm.t{a}(E:Dm w U c a)(h:Ci w w1):Dm w1 U c a:=by
 obtain E|⟨X,I,k,G,e,E|⟨Z,V,O,Y⟩⟩:=E
 . exact .inl E
 . exact .inr ⟨X,I.t h,k,G,e,.inl E⟩
 exact .inr ⟨X,I.t h,k,G,e,.inr ⟨Z,V,h.E _ _ O J,h.E _ _ Y J⟩⟩
def Bo.t{p}(E:Bo w U c p)(h:Ci w w1):Bo w1 U c p:=⟨E.code.t h,E.a,E.b⟩
def Cr.t{ls:lI}(E:Cr w a ls)(h:Ci w w1):Cr w1 a ls:=by
 obtain E|⟨b,off,U,O,G⟩:=E
 . exact .inl E
 exact .inr ⟨b,off,U,rZ O h.h,λi x y I=>⟨h.E _ _ (G i x y I).1 J,h.E _ _ (G i x y I).2 J⟩⟩
def Bc.t{xs:lZ}(E:Bc w a xs)(h:Ci w w1):Bc w1 a xs:=by
 obtain E|⟨b,off,I,G,O⟩:=E
 . exact .inl E
 exact .inr ⟨b,off,I,rZ G h.h,λi x U=>h.E _ _ (O i x U) J⟩
def AL.t (G:AL w a ps)(h:Ci w w1):AL w1 a ps:=by
 obtain G|⟨b,off,U,O,I⟩:=G
 . exact .inl G
 exact .inr ⟨b,off,U,rZ O h.h,λi p E=>⟨h.E _ _ (I i p E).1 J,h.E _ _ (I i p E).2.1 J,h.E _ _ (I i p E).2.2 J⟩⟩
def F8.t (G:F8 w a l)(h:Ci w w1):F8 w1 a l:=by
 obtain G|⟨b,off,U,O,I⟩:=G
 . exact .inl G
 exact .inr ⟨b,off,U,rZ O h.h,λi p E=>⟨h.E _ _ (I i p E).1 J,h.E _ _ (I i p E).2.1 J,h.E _ _ (I i p E).2.2 J⟩⟩
def EW.t (E:EW w a cs)(h:Ci w w1):EW w1 a cs:=by
 obtain E|⟨b,off,V,U,Y⟩:=E
 . exact .inl E
 refine .inr ⟨b,off,V,rZ U h.h,λi b Z=>?_⟩;let⟨a',cap,G,I,O⟩:=Y i b Z;exact⟨a',cap,h.E _ _ G J,I.t h,O⟩
def CS.t{E:oA}{O}{G:lZ}(g:CS w Y Z cs E O G)(h:Ci w w1):CS w1 Y Z cs E O G:=⟨g.a.t h,g.e,g.h,g.j.t h,g.i,g.k,g.b,g.l⟩
def CU.t (g:CU w Y Z ps)(h:Ci w w1):CU w1 Y Z ps:=⟨g.h.t h,g.b,g.max,g.a⟩
def JI.t (g:JI w Y Z l)(h:Ci w w1):JI w1 Y Z l:=⟨g.j.t h,g.b,g.max,g.a⟩
def CE.t{b}{E:oA}{m k r j}{G:bA}{per}(g:CE w b (.s Y m k) G per (.s E r j))(h:Ci w w1):CE w1 b (.s Y m k) G per (.s E r j):=⟨h.E _ _ g.e J,h.E _ _ g.a J,h.E _ _ g.k J,h.E _ _ g.l J⟩
def Ci.b (h:Am w w1):Ci w w1:=⟨h.h,λ_ _ E _=>h.E E⟩
def Ci.d w t:Ci w (À w t):=⟨lr,λ_ _ E _=>E⟩
def Ci.e{H}(O:DF H w)(G:Bp H w1 w):Ci w w1:=⟨js G.h,λa x I E=>O.E G I (λn e=>by subst e;cases E) λn e=>by subst e;cases E⟩
end
def VA{w:M}{a}{x:Vl}(h:(Õ T w).cell? a=A x):a.off<T a.block/\w.cell? a=A x:=by
 have E:a.off<T a.block:=by
  unfold World.cell? at h;rw[OD]at h;cases G:w.heap[a.block]? with
  |none=>rw[G]at h;cases h
  |some o=>
   rw[G]at h;cases o<;>first|(simp[aY]at h;done)|skip
   simp only[ţ,aY]at h;split at h
   . cases h
   have:=BI h;simp at this
   omega
 exact⟨E,by rw[<-El a E];exact h⟩
def yT{R}{w w1:M}(O:∀b,0<T b->R b)(E:Cz R w w1):Ci (Õ T w) (Õ T w1):=by
 refine⟨by rw[Fq,Fq];exact E.2,λa x U _=>?_⟩;let⟨I,G⟩:=VA U;rw[El a I];exact(E.E (O _ (by omega))).trans G
open Go.Conc.Lib Go.ConcR.Gen
open Go.ConcR (KK WgAt stA smA rd wr mk)
structure Cn where
 (i g:oA)
 (b a:Nat)
 d:List lI
 k:bA
 e:Int
 h:lZ
def Cn.v (g:Cn):Vl:=.agg #[.s g.i g.d.length g.b,.st g.k,.q g.e,.s g.g g.h.length g.a]
def Cn.p (g:Cn)(ps:List Pk)(c p:Int):=XR g.d (Ê g.k.toList) g.e g.h ps c p
def Cn.j (g:Cn)(ps:List Pk)(l:List Sn):=g.p ps 0 (-1)/\∃qs,JU (Bf g.d) (Ê g.k.toList) g.e g.h ps qs l
structure Nt (R:Nat->Prop)(T:Nat->Nat)(ad:Nat->xr)(bg bl n cap:Nat)(la:oA)(g:Cn)(a:Nat->oA)(capi:Nat->Nat)(ps:Nat->List Pk)(w:M):Prop where
 k:Ķ (Ė JF) R T w
 l:∀x,E9 x=true->R x
 s:R bg
 sl:R bl
 d:sr.globals.size<=w.heap.size
 p:∀b,0<T b->R b
 j:Errs9 (Õ T w) ad
 r:CE (Õ T w) bg (.s g.i g.d.length g.b) g.k g.e (.s g.g g.h.length g.a)
 q:CS (Õ T w) g.i g.b g.d g.g g.a g.h
 box:(Õ T w).cell? (C bl 0)=A (.s la n cap)
 m:∀i,i<n->∃B off,la=A (C B off)/\(Õ T w).cell? (C B (off+i))=A (.s (a i) (ps i).length (capi i))
 h:∀i,i<n->CU (Õ T w) (a i) (capi i) (ps i)
section
variable {R:Nat->Prop}{T:Nat->Nat}{ad:Nat->xr}{bg bl n cap:Nat}{la:Option xr}{g:Cn}{a:Nat->Option xr}{capi:Nat->Nat}{ps:Nat->List Pk}{w w1:tz}
def Nt.u (h:Nt R T ad bg bl n cap la g a capi ps w)(O:Cz R w w1):Nt R T ad bg bl n cap la g a capi ps w1:=by
 have E:=yT h.p O;refine⟨λx V=>?_,h.l,h.s,h.sl,rX h.d O.2,h.p,h.j.t E,h.r.t E,h.q.t E,E.E _ _ h.box J,λi U=>?_,λi U=>(h.h i U).t E⟩
 . let⟨c,t,Y,I,G⟩:=h.k x V;exact⟨c,t,Y,(O.1 x V).trans I,G⟩
 let⟨B,off,I,G⟩:=h.m i U;exact⟨B,off,I,E.E _ _ G J⟩
def yR (h:Nt R T ad bg bl n cap la g a capi ps w){i}(hi:i<n):Ď sr 19 (Ca bg bl i) (Õ T w) (Xz g.d (Ê g.k.toList) g.e g.h (ps i) ad):=by
 refine⟨λt=>?_,λe w' h=>?_⟩
 .
  have c:=Ci.d (Õ T w) t;obtain⟨B,off,rfl,e⟩:=h.m i hi;refine(dM bg bl B off n cap i g.i g.d.length g.b g.k g.e g.g g.h.length g.a (a i) (ps i).length (capi i) _ (λx y w'=>Xz g.d (Ê g.k.toList) g.e g.h (ps i) ad (.r (.t #[x,y])) w') (h.r.t c) (c.E _ _ h.box J) hi (c.E _ _ e J) λW e=>?_).mono ?_
  . exact qn g.i g.b g.d g.k g.e g.g g.a g.h (a i) (capi i) (ps i) W ad ((h.j.t c).d e) ((h.q.t c).d e) (((h.h i hi).t c).d e)
  rintro e w'⟨-,x,y,rfl,c⟩;exact c
 obtain⟨c,p,la,lcap,E,-,-,rfl,-⟩|⟨la,lcap,c,l,-,-,rfl,-⟩:=h.2
 . exact⟨_,J⟩
 exact⟨_,J⟩
def Nt.v (h:Nt R T ad bg bl n cap la g a capi ps w) i(G:lF):FC sr JF E9 w.heap.size (Ú sr 19 (Ca bg bl i) (Õ T w)) G (Ú sr 19 (Ca bg bl i) (Õ T w)) (Ô.j R) (Frame.enter sr 19 (Ca bg bl i) .normal) G w:=by
 refine FC.v QY h.k h.l (by decide+kernel) ⟨_,_,Tryz.func19,J⟩ (λj x E=>?_) G
 match j,E with
 |0,E=>cases E;exact VR.int _ _
 |1,E=>cases E;exact VR.ptr ⟨⟨J,h.s⟩,J,J⟩
 |2,E=>cases E;exact VR.ptr ⟨⟨J,h.sl⟩,J,J⟩
 |j+3,E=>simp at E
end
section
variable {F:Nat->Prop}{L:Nat}{r:Ô}{w w':tz}
def VR.b{a:oA}{n c}{v:Vl}(h:VR F r (.s a n c) v):∃a',v=.s a' n c/\Û (AR r) a a':=by
 obtain⟨a',rfl,E⟩:=h.p;exact⟨a',J,E⟩
def JI.e (ac:WR F L r w w'){Y:oA}{Z l}{v:Vl}(h:JI w Y Z l)(ao:VR F r (.s Y l.length Z) v):∃E,v=.s E l.length Z/\JI w' E Z l:=by
 obtain⟨E,rfl,X⟩:=ao.b;refine⟨E,J,?_,h.b,h.max,λW=>?_⟩
 .
  obtain i|⟨b,off,rfl,k,V⟩:=h.j
  . exact .inl i
  cases E with
  |none=>exact X.elim
  |some q=>
   let⟨G,i,s'⟩:=q;let⟨I,i,k⟩:=X;dsimp only at I i k
   subst i k;obtain⟨o,o',-,i,-⟩:=ac.e _ _ I;refine .inr ⟨G,_,J,AZ i,λi p O=>?_⟩;have one:∀{k:Nat}{x:Int},w.cell? (C b k)=A (.q x)->w'.cell? (C G k)=A (.q x):=λ{k x} q=>by
    let⟨u,o,U⟩:=ac.E (a:=(C b k)) (a':=(C G k)) ⟨I,J,J⟩ q;have U:=U.p;rw[o,U]
   exact⟨one (V i p O).1,one (V i p O).2.1,one (V i p O).2.2⟩
 subst W;cases Y with
 |none=>exact h.a J
 |some q=>exact X.elim
end
def nM (g:Cn)(ps:List Pk)(w:M)(u:Vl):=∃E G l,u=.s E l.length G/\JI w E G l/\g.j ps l
def yz (g:Cn)(ps:List Pk)(c:Int):=∃p,g.p ps c p
def mW (R:Nat->Prop)(T:Nat->Nat)(g:Cn)(ps:Nat->List Pk)(ad:Nat->xr):OO:=⟨R,T,JF,E9,λi=>Xz g.d (Ê g.k.toList) g.e g.h (ps i) ad⟩
section
variable {H R:Nat->Prop}{T:Nat->Nat}{ad:Nat->xr}{bg bl n cap:Nat}{la:Option xr}{g:Cn}{a:Nat->Option xr}{capi:Nat->Nat}{ps:Nat->List Pk}{w:tz}
def aS{i w1 r}{U v:Vl}(h:Xz g.d (Ê g.k.toList) g.e g.h (ps i) ad (.r U) w1)(O:VR (Ė JF) r U v):∃x y,v=.t #[x,y]/\Oi true x/\(y=.n\/∃t u,y=.f t u):=by
 obtain⟨c,p,Y,V,a,-,a,E,Z⟩|⟨Y,V,a,l,-,-,E,-⟩:=h.2
 .
  cases E
  obtain⟨a,b,rfl,G,I⟩:=O.j;obtain⟨a',rfl,-⟩:=G.b;obtain⟨a,x,rfl⟩:=Z.b N;obtain⟨u,rfl,-⟩:=I.p;exact⟨_,_,J,⟨_,_,_,J⟩,.inr ⟨_,_,J⟩⟩
 cases E
 obtain⟨a,b,rfl,G,I⟩:=O.j;obtain⟨a',rfl,-⟩:=G.b;obtain rfl:b=.n:=I.p;exact⟨_,_,J,⟨_,_,_,J⟩,.inl J⟩
def jh{w:M}{U:Vl}{c p}(h:Bo w U c p)(Y:0<c):∃k:Nat,c=k+1/\Mh w k U:=by
 obtain⟨-,e,-⟩|⟨G,I,k,E,rfl,⟨e,-⟩|⟨O,e,-,V⟩⟩:=h.code
 . omega
 . exact⟨k,J,E,G,I,.inl e⟩
 exact⟨k,J,E,G,I,.inr ⟨O,e,V⟩⟩
def zu{i}{v:Vl}{w':M}(h:(mW R T g ps ad).B i v w')(aC:Errs9 w' ad):∃u y,v=.t #[u,y]/\Oi true u/\F7 w' (nM g (ps i) w') (yz g (ps i)) u y:=by
 obtain⟨x,r,L,b,c,t,X,G,O,L,a⟩:=h;have G:Xz g.d (Ê g.k.toList) g.e g.h (ps i) ad (.r b) (À x c):=G;obtain⟨u,y,rfl,b,-⟩:=aS G O;have k:MX r:=λz c=>a z (by
  show E9 z=true
  unfold E9;rw[show[3,1,0,4,5,6,7,8,2].contains z=true from List.contains_iff_mem.2 c];simp)
 refine⟨u,y,J,b,?_⟩;obtain⟨c,p,a,z,V,I,Y,Z,E⟩|⟨a,z,W,l,I,Z,E,r⟩:=G.2
 .
  cases Z
  obtain⟨a,b,e,-,U⟩:=O.j;cases e
  have r:Bo (À x t) V c p:=⟨E.code.u λ_=>J,E.a,E.b⟩
  have V:Bo (À w' X) y c p:=r.e L k (aC.u λ_=>J) U;have a:Bo w' y c p:=⟨V.code.u λ_=>J,V.a,V.b⟩
  obtain⟨k,rfl,b⟩:=jh a Y;exact .inr ⟨k,⟨p,I⟩,b⟩
 cases E
 obtain⟨a,b,e,b,U⟩:=O.j;cases e
 obtain rfl:y=.n:=U.p;obtain⟨a,rfl,c⟩:=JI.e (w:=À x t) L (r.t ⟨lr,λ_ _ Y _=>Y⟩) b;exact .inl ⟨J,a,z,l,J,c.t (⟨lr,λ_ _ Y _=>Y⟩),I,W,Z⟩
structure JY (H R:Nat->Prop)(T:Nat->Nat)(ad:Nat->xr)(bg bl n cap:Nat)(la:oA)(g:Cn)(a:Nat->oA)(capi:Nat->Nat)(ps:Nat->List Pk)(w:M):Prop where
 l:n<=100
 j:Errs9 w ad
 d:DF H w
 e:∀b,b<sr.globals.size->b<w.heap.size/\¬H b
 call:Nt R T ad bg bl n cap la g a capi ps w
 f:∀b,R b->b<w.heap.size/\¬H b
def JY.later{w1:M}(h:JY H R T ad bg bl n cap la g a capi ps w)(E:Am w w1):JY H R T ad bg bl n cap la g a capi ps w1:=
 ⟨h.l,h.j.m E,h.d.later E,λb G=>⟨rZ (h.e b G).1 E.h,(h.e b G).2⟩,h.call.u ⟨λb G=>E.g b (h.f b G).1,E.h,E.p⟩,λb G=>⟨rZ (h.f b G).1 E.h,(h.f b G).2⟩⟩
def JY.to (h:JY H R T ad bg bl n cap la g a capi ps w):MS H true n bg bl (mW R T g ps ad) w:=have G:∀r,Cz (λb=>R b\/b<sr.globals.size) w r->Nt R T ad bg bl n cap la g a capi ps r:=λr E=>h.call.u ⟨λb U=>E.1 b (.inl U),E.2,E.p⟩;⟨h.l,h.d,h.e,h.f,QY,λi r V _ E=>(G r E).v i V,λi r Y E=>yR (G r E) Y,λi r r Z v O I=>aS O I⟩
def dR{cs:lF}{Post:Vl->M->Prop}{wks}(h:JY H R T ad bg bl n cap la g a capi ps w)(hw:1<=wks/\wks<=16){b₀:Frame}{a₀}{ops:aO}{i}{rest:lN}{kk:lM}
  (hend:∀(H') x y w',Am w w'->DF H' w'->(∀b,H' b->H b\/w.heap.size<=b)->NL (λi=>nM g (ps i) w') (λi=>yz g (ps i)) n x y w'->AO sr Post H' (G (b₀.at (a₀.put ((ops[i]?).bind (·.dst)) (.t #[x,y])) (.inRegion ops rest::kk)) cs) w'):
  AO sr Post H (IE sr true n wks (ē true bg bl) (b₀.at a₀ (.inRegion ops (i::rest)::kk)::cs)) w:=by
 refine VU h.to (λi w u=>nM g (ps i) w u) (λi=>yz g (ps i)) (λi u l l u W=>?_) (λ_ _ _ _ u l=>zu l (h.j.m u)) hw hend;let⟨la,lcap,l,X,Y,Z⟩:=W;exact⟨la,lcap,l,X,Y.t (.b u),Z⟩
end
end Go.Proofs.YtaoikkhlnhfkfaaGreatDoor
