import Derived.Test.YtaoikkhlnhfkfaaGreatDoorU00
import Derived.Test.YtaoikkhlnhfkfaaGreatDoorU34
import Derived.Test.YtaoikkhlnhfkfaaGreatDoorU12
set_option maxHeartbeats 8000000
set_option maxRecDepth 100000
set_option linter.defProp false
set_option linter.unusedSimpArgs false
set_option linter.unusedVariables false
namespace Go.Proofs.YtaoikkhlnhfkfaaGreatDoor
open Go renaming Ending->Gu,Calls->s8,results->uK,madeCells->sC,World->tz,Value->xn
open Proofs.Tryz renaming prog->sr,results10->LL
open World renaming cell?->sY,frozen?->yj,setCell->LN
open Frame renaming enter->tR
open Go.RowKit
def SY (c p:Int)(w:M)(e:Gu)(w':M):=e=.r (.agg #[.q c,.q p])/\zW w w'
def Tc{p}(h:p):Hid p:=h
def oC{q:Prop}(h:q:=by
  first|refine(Cf _ _).mono ?_|refine(Jw _).mono ?_
  rintro e w3⟨rfl,hb3⟩;have HB3:=qX (HR.o.2.tr hb3);obtain⟨z0,z1,zf0,zf1⟩:=HV.o.2.2.later HB3.o;clear hb3;go_wp2_with fail;exact Ę (v:=.agg #[.q _,.q (-1)]) (by simp[results,Tryz.results10,go_sem,z0,z1]) rfl (HEnd.o _ _ (-1) HB3.o HCP.o.1 HCP.o.2)):q:=h
def m4{q:Prop}(h:q:=by
  go_wp2_with fail;refine(HY.o _ HD.o).mono ?_
  rintro e w2⟨rfl,rfl⟩;go_wp2_with fail;exact oC):q:=h
def o8{q:Prop}(h:q:=by
  have HCP:Hid (2=c/\-1=p):=by
   obtain⟨h1,⟨h2,-⟩|⟨-,-,⟨-,h2⟩|⟨h3,h4,-⟩⟩⟩:=HGt.o
   . omega
   . exact⟨h2.symm,h1.symm⟩
   omega
  obtain⟨d,hd⟩:=HI.o;have HD:=Tc hd;clear hd;exact m4):q:=h
def sQ{q:Prop}(h:q:=by
  by_cases p1:1<=per
  .
   by_cases p2:per<=1000
   .
    obtain⟨d,hd,h1,h2⟩:∃d,Fh _ ns d/\-1=p/\(d:Int)=c:=by
     obtain⟨h1,⟨h2,-⟩|⟨-,-,⟨h2,-⟩|⟨-,-,d,hd,h2⟩⟩⟩:=HGt.o
     . omega
     . exact absurd ⟨p1,p2⟩ h2
     exact⟨d,hd,h1.symm,h2.symm⟩
    have HCP:=qY h2 h1;clear h1 h2;obtain⟨h,hd⟩|⟨h,hd⟩|⟨h,hd⟩|⟨h,hd⟩|⟨h,hd⟩:=hd<;>try omega
    have HD:=Tc hd;clear hd h;by_cases hd0:0<d
    . exact m4
    obtain rfl:d=0:=N;exact m4
   exact o8
  exact o8):q:=h
def nF{q:Prop}(h:q:=by
 have HCP:Hid (2=c/\-1=p):=by
  obtain⟨h1,⟨h2,-⟩|⟨-,-,⟨-,h2⟩|⟨h3,h4,-⟩⟩⟩:=HGt.o
  . omega
  . exact⟨h2.symm,h1.symm⟩
  omega
 by_cases bj:0<r
 . go_wp2_with fail;exact oC
 obtain rfl:r=0:=N;go_wp2_with fail;exact oC):q:=h
def GM (aa:oA) ab(cs:List lI)(V:bA) per(I:oA) O(ns:lZ)(w:M) c p(bd:EW w aa cs)(bn:cs.length<=1000)(a9:Bc w I ns)(b1:ns.length<=1000)(h:GV cs (Ê V.toList) per ns c p):s8 sr 10 #[.agg #[.s aa cs.length ab,.st V,.q per,.s I ns.length O]] w λe w'=>SY c p w e w':=by
 have aG:Hid (∀W ax ac d,zW w W->BK ax ac ns d->Ë 25 #[.s I ns.length O,.q ax,.q ac] W λe w'=>e=.r (.q d)/\w'=W):=λW ax ac d Y hd=>GG I O ns ax ac W (a9.d Y) d hd
 have z:Hid (∀W d,zW w W->EN ns d->Ë 26 #[.s I ns.length O] W λe w'=>e=.r (.q d)/\w'=W):=λW d Y hd=>TG I O ns W N (a9.d Y) d hd
 have l:=qX bd;have aC:=qX h;have r8:=Sa V;obtain⟨k,aW⟩:=ex (Ê V.toList);have b:k<=5:=by rw[<-aW];exact IX _
 rw[aW]at aC r8;obtain⟨m,aB⟩:=ex cs.length;obtain⟨r,aE⟩:=ex ns.length;have Z:=qY aB aE;rw[aB]at bn;rw[aE]at b1 aG z;rw[aB,aE];clear bd a9 h aW aB aE;have am:zW w ((w.alloc (.c #[.s aa m ab,.st V,.q per,.s I r O] 25)).alloc (.c #[.q 0,.q 0] 39)):=ba.alloc sm _;have a5:(w.alloc (.c #[.s aa m ab,.st V,.q per,.s I r O] 25)).heap.size=w.heap.size+1:=sm;have ap:CE ((w.alloc (.c #[.s aa m ab,.st V,.q per,.s I r O] 25)).alloc (.c #[.q 0,.q 0] 39)) w.heap.size (.s aa m ab) V per (.s I r O):=(EA w (.s aa m ab) V per (.s I r O) 25).later ba;have aL:ļ ((w.alloc (.c #[.s aa m ab,.st V,.q per,.s I r O] 25)).alloc (.c #[.q 0,.q 0] 39)) (w.heap.size+1) (.q 0) (.q 0):=by
  have:=MP (w.alloc (.c #[.s aa m ab,.st V,.q per,.s I r O] 25)) (.q 0) (.q 0) 39;rwa[a5]at this
 obtain⟨b,d⟩:=ex ((w.alloc (.c #[.s aa m ab,.st V,.q per,.s I r O] 25)).alloc (.c #[.q 0,.q 0] 39));rw[d]at am ap aL;have HV:=qZ am ap aL;have HEnd:Hid (∀W E U,zW b W->E=c->U=p->SY c p w (.r (.agg #[.q E,.q U])) ((W.setCell (C (w.heap.size+1) 0) (.q E)).setCell (C (w.heap.size+1) 1) (.q U))):=λW E U d aj aq=>by
  have Y:=am.tr d;rw[aj,aq];exact⟨rfl,(Y.setCell (p:=(C (w.heap.size+1) 0)) (œ _) _).setCell (p:=(C (w.heap.size+1) 1)) (œ _) _⟩
 have d:=ap.e;by_cases a6:m=8
 .
  subst a6;clear am ap aL a5;go_in
  go_wp2_with fail;go_loopw[3] (λi wr=>∃j:Nat,j<=8/\i=.q j/\Db cs j/\zW b wr)(λi _=>8-(intOf i).toNat)
  case atStart=>exact⟨0,uD _,J,λi ls ac=>absurd ac (İ _),br⟩
  case round=>
   obtain⟨j,b,rfl,ai,Y⟩:=hrel;have HR:=qY ai Y;have b:=jf Y HV.o.2.1.e;clear ai Y;by_cases y:j<8
   .
    obtain⟨ls,sd,-⟩:=Ao cs j (by rw[Z.o.1];exact y);obtain⟨b,off,rfl,-,G⟩:=l.o.h (by rw[Z.o.1];omega);obtain⟨a',cap,R,L,a3,a1,-⟩:=G j ls sd;have ak:=qX (HV.o.1.tr HR.o.2);have u:=jf ak.o R;have S:Hid (∀W E U,zW w W->DT ls E U->qW 24 #[.s a' ls.length cap] W (.agg #[.q E,.q U])):=λW E U Y ao=>Wo a' cap ls W (L.d Y) a3 a1 E U ao
    have aw:=qX sd;have t:ls.length<=9223372036854775807:=rX a3 (rX a1 (by unfold maxLen;omega));obtain⟨q,a8⟩:=ex ls.length;have al:=qX a8;rw[a8]at u S t;clear G R L a3 a1 sd a8;by_cases a0:q=0
    .
     subst a0;have aN:Hid (Db cs (j+1)):=λi l ac av=>by
      obtain h|h:=nR i j
      . exact HR.o.1 i l h av
      obtain rfl:i=j:=N;obtain rfl:=Ö (aw.o.symm.trans av);exact .inl (Ğ.1 al.o)
     go_wp2
     go_roundw
     case rel=>exact⟨j+1,N,by go_num,aN.o,HR.o.2⟩
     case measure=>simp[intOf];omega
    obtain⟨E,U,ao⟩:=n8 ls;have x:=ao.d;have an:=qX ao;clear ao;go_wp2_with fail;refine(S.o _ E U ak.o an.o).mono ?_
    rintro e l⟨rfl,a2⟩;have hb3:zW wr (l.alloc (.c #[.q E,.q U] 39)):=a2.alloc a2.size _;have HB3:=qX (HR.o.2.tr hb3);obtain⟨z0,z1,zf0,zf1⟩:=HV.o.2.2.later HB3.o;clear a2 hb3;by_cases Q:E=0
    .
     subst Q;have aN:Hid (Db cs (j+1)):=λi l ac av=>by
      obtain h|h:=nR i j
      . exact HR.o.1 i l h av
      obtain rfl:i=j:=N;obtain rfl:=Ö (aw.o.symm.trans av);exact .inr an.o.y.1
     clear z0 z1 zf0 zf1 x;go_wp2
     go_roundw
     case rel=>exact⟨j+1,N,by go_num,aN.o,HB3.o⟩
     case measure=>simp[intOf];omega
    have i:0<E:=N;have HCP:Hid (E=c/\(j:Int)=p):=by
     obtain⟨h,-⟩|⟨-,i,⟨a4,u,aj,aq,aI,t⟩,rfl,ai⟩|⟨-,ai,-⟩:=aC.o
     . exact absurd Z.o.1 h
     .
      obtain rfl:i=j:=by
       obtain h|h|h:=θ i j
       .
        obtain G|G:=HR.o.1 i a4 h aj
        . exact absurd G aq
        have:=aI.g (.inr (.inr ⟨G,J,J⟩));omega
       . exact h
       obtain G|G:=ai j ls h aw.o
       . rw[G]at al;exact absurd al.o.symm a0
       have:=an.o.g (.inr (.inr ⟨G,J,J⟩));omega
      obtain rfl:=Ö (aw.o.symm.trans aj);exact⟨an.o.g aI,J⟩
     obtain G|G:=ai j ls y aw.o
     . rw[G]at al;exact absurd al.o.symm a0
     have:=an.o.g (.inr (.inr ⟨G,J,J⟩));omega
    clear x Q;go_wp2_with fail;exact Ę (v:=.agg #[.q E,.q (j:Int)]) (by simp[uK,LL,go_sem,z0,z1]) J (HEnd.o _ E j HB3.o HCP.o.1 HCP.o.2)
   obtain rfl:j=8:=N;have HGt:Hid (p= -1/\((k=0/\c=9)\/(1<=k/\k<=5/\((¬(1<=per/\per<=1000)/\c=2)\/(1<=per/\per<=1000/\∃d:Nat,Fh k ns d/\c=d))))):=by
    obtain⟨h,-⟩|⟨-,i,⟨a4,u,aj,aq,aI,t⟩,rfl,ai⟩|⟨-,-,h1,h2⟩:=aC.o
    . exact absurd Z.o.1 h
    .
     obtain G|G:=HR.o.1 i a4 (by have:=Ap aj;have:=Z.o.1;omega) aj
     . exact absurd G aq
     have:=aI.g (.inr (.inr ⟨G,J,J⟩));omega
    exact⟨h1,h2⟩
   have b':=jf HR.o.2 HV.o.2.1.a;have b:=jf HR.o.2 HV.o.2.1.k;have b:=jf HR.o.2 HV.o.2.1.l;have ak:=qX (HV.o.1.tr HR.o.2);obtain⟨y,j,x,u,d,l,q,t,b,i⟩:=r8;rcases(show k=0\/k=1\/k=2\/k=3\/k=4\/k=5 by omega)with rfl|rfl|rfl|rfl|rfl|rfl
   all_goals simp+decide only[]at y j x u d l q t b i
   .
    have HCP:Hid (9=c/\-1=p):=by
     obtain⟨h1,⟨-,h2⟩|⟨h2,-⟩⟩:=HGt.o
     . exact⟨h2.symm,h1.symm⟩
     omega
    by_cases i:1<=per
    . go_wp2_with fail;exact oC
    go_wp2_with fail;exact oC
   .
    by_cases i:1<=per
    .
     by_cases k:per<=1000
     .
      have HCP:Hid (p= -1/\((c=3/\ns≠[])\/(c=0/\ns=[]))):=by
       obtain⟨h1,⟨h2,-⟩|⟨-,-,⟨h2,-⟩|⟨-,-,d,hd,h2⟩⟩⟩:=HGt.o
       . omega
       . exact absurd ⟨i,k⟩ h2
       obtain⟨-,⟨rfl,h⟩|⟨rfl,h⟩⟩|⟨h,-⟩|⟨h,-⟩|⟨h,-⟩|⟨h,-⟩:=hd
       . exact⟨h1,.inl ⟨h2,h⟩⟩
       . exact⟨h1,.inr ⟨h2,h⟩⟩
       all_goals omega
      by_cases b:0<r
      .
       have HCP:Hid (3=c/\-1=p):=by
        obtain⟨h1,⟨h2,-⟩|⟨-,h2⟩⟩:=HCP.o
        . exact⟨h2.symm,h1.symm⟩
        rw[h2]at Z;have:=Z.o.2;simp at this
        omega
       go_wp2_with fail;exact oC
      have HCP:Hid (0=c/\-1=p):=by
       obtain⟨h1,⟨-,h2⟩|⟨h2,-⟩⟩:=HCP.o
       . exact absurd (Ğ.1 (by have:=Z.o.2;omega)) h2
       exact⟨h2.symm,h1.symm⟩
      obtain rfl:r=0:=N;go_wp2_with fail;exact oC
     exact nF
    exact nF
   .
    have HY:=Tc λd=>aG.o wr 0 100 d ak.o
    have HI:=Tc (Dt 0 100 ns);exact sQ
   .
    have HY:=Tc λd=>aG.o wr 0 1099511627776 d ak.o
    have HI:=Tc (Dt 0 1099511627776 ns);exact sQ
   .
    have HY:=Tc λd=>aG.o wr 1 3000 d ak.o
    have HI:=Tc (Dt 1 3000 ns);exact sQ
   have HY:=Tc λd=>z.o wr d ak.o
   have HI:=Tc (Nu ns);exact sQ
 have HCP:Hid (3=c/\-1=p):=by
  obtain⟨-,h1,h2⟩|⟨h,-⟩|⟨h,-⟩:=aC.o
  . exact⟨h1.symm,h2.symm⟩
  . exact absurd (Z.o.1.symm.trans h) a6
  exact absurd (Z.o.1.symm.trans h) a6
 have b:((m:Int)==8)=false:=by simpa using (show(m:Int)≠8 by omega)
 clear am ap aL a5;go_in
 go_wp2_with fail;refine(Cf 3 _).mono ?_
 rintro e b⟨rfl,hb3⟩;have HB3:=qX hb3;obtain⟨z0,z1,zf0,zf1⟩:=HV.o.2.2.later HB3.o;clear hb3;go_wp2_with fail;exact Ę (v:=.agg #[.q 3,.q (-1)]) (by simp[uK,LL,go_sem,z0,z1]) J (HEnd.o _ 3 (-1) HB3.o HCP.o.1 HCP.o.2)
def Š.block{w w1 w2:M}{x y:Vl}(h:Š w w1 x y)(E:w2.heap[w.heap.size]? = w1.heap[w.heap.size]?):Š w w2 x y:=by
 obtain⟨O,G,U,I⟩:=h;unfold sY at O G;unfold yj at U I;refine⟨?_,?_,?_,?_⟩
 .
  unfold sY;dsimp only at O⊢
  rw[E];exact O
 .
  unfold sY;dsimp only at G⊢
  rw[E];exact G
 .
  unfold yj;dsimp only at U⊢
  rw[E];exact U
 unfold yj;dsimp only at I⊢
 rw[E];exact I
def mb (x y z x' G E:Int):=x==x'&&(y==G&&z==E)
def zi x y z x' G E:mb x y z x' G E=true↔(⟨x,y,z⟩:Sn)=⟨x',G,E⟩:=by simp[mb]
def sU x y z:=(zi x y z x y z).2 J
def Tryz.W:sr.eqGuardType sr.depth 75=false:=kr
def Tryz.Q:sr.underlying 75=some (.struct (sr.fieldsOf 75)):=by simp[Program.fieldsOf]
def Tryz.B:(sr.fieldsOf 75).toList=[{name:= "Packet",type:=3,offset:=0,embedded:=false,tag:= "",pkgPath:= "",byteOffset:=0},{name:= "From",type:=3,offset:=1,embedded:=false,tag:= "",pkgPath:= "",byteOffset:=8},{name:= "To",type:=3,offset:=2,embedded:=false,tag:= "",pkgPath:= "",byteOffset:=16}]:=by simp[Program.fieldsOf]
def Tryz.Y (w:M) x y z:(part 3 #[.q x,.q y,.q z] 0).run sr w=.ok (.q x) w:=kr
def Tryz.Z (w:M) x y z:(part 3 #[.q x,.q y,.q z] 1).run sr w=.ok (.q y) w:=kr
def Tryz.wR (w:M) x y z:(part 3 #[.q x,.q y,.q z] 2).run sr w=.ok (.q z) w:=kr
def Tryz.MY (w:M) x y z x' E G:(binOp .neq 75 (.agg #[.q x,.q y,.q z]) (.agg #[.q x',.q E,.q G])).run sr w=.ok (.bool (!(mb x y z x' E G))) w:=by
 rw[run_neq_struct,run_equalIn_struct _ 9999 _ _ _ Tryz.Q kr,Tryz.B];have O:("Packet" :String)≠ "_" := dc
 have I:("From")≠ "_" := dc
 have U:("To")≠ "_" := dc
 simp only[Op.eqFields,ő,Tryz.Y,Tryz.Z,Tryz.wR,Λ,run_equalIn_int _ _ 3 _ _ _ _ Tryz.underlying3,Sem.run_ite,mb];cases x==x'<;>cases y==E<;>cases z==G<;>rfl
def TL (per:Int)(ps:List Pk)(w:M)(e:Gu)(w':M):=∃v,e=.r v/\Dz w' w.heap.size v (Cs per ps ps.length)/\zW w w'
def pP (a:oA) cap ps per(w:M)(U:AL w a ps)(G:Ar ps)(ac:1<=per)(aa:per<=1000):s8 sr 51 #[.s a ps.length cap,.q per] w λe w'=>TL per ps w e w':=by
 have X:=G.j;have V:Hid (∀w',w'=w.alloc (.c (sC #[.q 0] ps.length) 3)->Ë 94 #[.s a ps.length cap,.q per,.sl w.z 0 ps.length ps.length] w' λe Y=>TL per ps w e Y):=λw' e=>by
  subst e;have O:zW w (w.alloc (.c (sC #[.q 0] ps.length) 3)):=ba;refine(Ns a cap ps per (sa w.z 0) ps.length (List.replicate ps.length 0) _ (U.d O) (kE w ps.length 3) sm G ac aa).mono ?_
  rintro e Y⟨v,l,rfl,I,E,Y,Z⟩;have n:l=Cs per ps ps.length:=E.u (Uu G _ (λi=>by
   rw[kA,List.getElem?_replicate];split<;>rfl)) (by rw[Y,NN])
  subst n;exact⟨v,J,BA I sm,O.trans (Z.mono sm)⟩
 obtain⟨n,Z⟩:=ex ps.length;rw[Z]at X V⊢;have i:∀w':M,(Instr.makeSlice 23 (.q n) (.q n)).run sr w'=.ok (.sl w'.z 0 n n) (w'.alloc (.c (sC #[.q 0] n) 3)):=λw'=>by
  obtain⟨v,E,l,I,i⟩:=ó Tryz.b;have:=Ŭ (P:=sr) w' 23 3 v (.q 0) Tryz.underlying23 E l .i64 .i64 n n N N (by rw[i];omega) N;simpa[I,Value.cells]using this
 clear U G Z;go_in
 go_wp2_with fail;refine(V.o _ J).mono ?_
 rintro e i⟨v,rfl,I,E⟩;have l:Hid (TL per ps w (.r v) i):=⟨v,J,I,E⟩
 clear I E;go_wp2
 go_ret;exact l.o
variable {w' w2:M}{g k f:Nat}
structure Lu (w:M)(g n next:Nat):Prop where
 E:∀i,i<n->w.cell? (C g i)=some (.bool (decide (i<next)))
 s:∀i,w.frozen? (C g i)=false
 G:g<w.heap.size
structure NT (w:M)(g:Nat)(cr:Nat->Int):Prop where
 E:∀f,f<8->w.cell? (C g f)=some (.q (cr f))
 s:∀i,w.frozen? (C g i)=false
 G:g<w.heap.size
def Yf (w:M) n(t:tI):Lu (w.alloc (.c (sC #[.bool false] n) t)) w.heap.size n 0:=by
 refine⟨λi E=>?_,λi=>jB w _ _ i,sm⟩;simpa using NK _ _ _ E
def rf (w:M)(t:tI):NT (w.alloc (.c (sC #[.q 0] 8) t)) w.heap.size (λ_=>0):=by
 refine⟨λi E=>?_,λi=>jB w _ _ i,sm⟩;rw[Ŏ _ _ _ _ J];exact NK _ _ _ E
def Lu.e{w n}(h:Lu w g n k)(E:w'.heap[g]? = w.heap[g]?)(G:w.heap.size<=w'.heap.size):Lu w' g n k:=
 ⟨λi I=>(lB (a:=⟨g,i,_⟩) E).trans (h.E i I),λi=>(ko (a:=⟨g,i,_⟩) E).trans (h.s i),rZ h.G G⟩
def NT.e{w cr}(h:NT w g cr)(E:w'.heap[g]? = w.heap[g]?)(G:w.heap.size<=w'.heap.size):NT w' g cr:=
 ⟨λi I=>(lB (a:=⟨g,i,_⟩) E).trans (h.E i I),λi=>(ko (a:=⟨g,i,_⟩) E).trans (h.s i),rZ h.G G⟩
def Lu.K{w n}(h:Lu w g n k)(G:k<n):Lu (w.setCell (C g k) (.bool true)) g n (k+1):=by
 refine⟨λi E=>?_,λi=>by rw[ñ];exact h.s i,by simp[LN];exact h.G⟩;by_cases e:k=i
 . subst e;rw[ś _ _ _ (by rw[h.E k G];rfl)];simp
 rw[sF _ _ _ _ (by simp_all),h.E i E];simp
 omega
def NT.K{w cr}(h:NT w g cr)(G:f<8) x:NT (w.setCell (C g f) (.q x)) g (A8 cr f x):=by
 refine⟨λi E=>?_,λi=>by rw[ñ];exact h.s i,by simp[LN];exact h.G⟩;by_cases e:f=i
 . subst e;rw[ś _ _ _ (by rw[h.E f G];rfl),AX]
 rw[sF _ _ _ _ (by simp_all),h.E i E,Az _ _ (λe'=>e e'.symm)]
structure Dq (w wr:M)(gd gc gk n:Nat)(v:Vl)(out:List Sn)(next:Nat)(cr:Nat->Int)(rv:Vl)(F:Nat->Prop)(row:lN):Prop where
 E:Dz wr w.heap.size v out
 a:FM wr gd n out
 e:Lu wr gc n next
 g:NT wr gk cr
 row:BG wr w.heap.size rv F row
 h:gd≠gc/\gd≠gk/\gc≠gk
 b:v.ownBlock≠some gd/\v.ownBlock≠some gc/\v.ownBlock≠some gk
 i:¬F gd/\¬F gc/\¬F gk/\∀k,F k->v.ownBlock≠some k
 l:w.heap.size<=gd/\w.heap.size<=gc/\w.heap.size<=gk
 d:zW w wr
section
variable {w wr wr':tz}{gd gc gk n:Nat}{v:xn}{out:List Sn}{next:Nat}{cr:Nat->Int}{rv:xn}{F:Nat->Prop}{row:List Nat}
def Dq.later (h:Dq w wr gd gc gk n v out next cr rv F row)(E:zW wr wr'):Dq w wr' gd gc gk n v out next cr rv F row:=
 ⟨Ai h.E (λg _ G=>E.block g G),h.a.e (E.block gd h.a.G) E.size,h.e.e (E.block gc h.e.G) E.size,h.g.e (E.block gk h.g.G) E.size,h.row.r (S:=λ_=>False) (.e E) (λ_ _ h=>h),h.h,h.b,h.i,h.l,h.d.tr E⟩
def NA (w:M) g i(v:Vl):Ç (λk=>k=g) w (w.setCell (C g i) v):=Ç.g (S:=λk=>k=g) (Ç.I _ w) (p:=⟨g,i,_⟩) J v
def Ē (w:M) a(v:Vl):(w.setCell a v).heap.size=w.heap.size:=by simp
def Dq.q (h:Dq w wr gd gc gk n v out next cr rv F row)(U:next<n):Dq w (wr.setCell (C gc next) (.bool true)) gd gc gk n v out (next+1) cr rv F row:=by
 have E:=NA wr gc next (.bool true);exact⟨Ai h.E (λg O I=>E.block g I (λe=>h.b.2.1 (by rw[<-e];exact O))),h.a.e (E.block gd h.a.G h.h.1) E.h,h.e.K U,h.g.e (E.block gk h.g.G (λe=>h.h.2.2 e.symm)) E.h,h.row.r E (λk G e=>h.i.2.1 (by rw[<-e];exact G)),h.h,h.b,h.i,h.l,h.d.trans (E.d h.d.size λk G=>by rw[G];exact h.l.2.1)⟩
def Dq.r (h:Dq w wr gd gc gk n v out next cr rv F row)(I:f<8) x:Dq w (wr.setCell (C gk f) (.q x)) gd gc gk n v out next (A8 cr f x) rv F row:=by
 have E:=NA wr gk f (.q x);exact⟨Ai h.E (λg U O=>E.block g O (λe=>h.b.2.2 (by rw[<-e];exact U))),h.a.e (E.block gd h.a.G h.h.2.1) E.h,h.e.e (E.block gc h.e.G h.h.2.2) E.h,h.g.K I x,h.row.r E (λk G e=>h.i.2.2.1 (by rw[<-e];exact G)),h.h,h.b,h.i,h.l,h.d.trans (E.d h.d.size λk G=>by rw[G];exact h.l.2.2)⟩
def Dq.j (h:Dq w wr gd gc gk n v out next cr rv F row){Z:Vl}{I}{Y:lN}(E:Ç F wr w2)(ai:BG w2 w.heap.size Z I Y)(ab:∀k,I k->F k\/wr.heap.size<=k):Dq w w2 gd gc gk n v out next cr Z I Y:=by
 have U:∀g,g<wr.heap.size->¬F g->¬I g:=λg O O e=>by
  obtain G|G:=ab g e
  . exact O G
  omega
 refine⟨Ai h.E (λg O V=>E.block g V (λe=>h.i.2.2.2 g e O)),h.a.e (E.block gd h.a.G h.i.1) E.h,h.e.e (E.block gc h.e.G h.i.2.1) E.h,h.g.e (E.block gk h.g.G h.i.2.2.1) E.h,ai,h.h,h.b,⟨U gd h.a.G h.i.1,U gc h.e.G h.i.2.1,U gk h.g.G h.i.2.2.1,λk O e=>?_⟩,h.l,h.d.trans (E.d h.d.size λk O=>(h.row.a k O).1)⟩;have V:=(AC h.E e).2;obtain G|G:=ab k O
 . exact h.i.2.2.2 k G e
 omega
def Dq.s (h:Dq w wr gd gc gk n v out next cr rv F row) b(am:b<n){f t g' cap}(w1:M)(aa:w1=wr.setCell (C gd b) (.bool true)){U:M}(O:zW w1 U)
  (Z:w2.ownsRow w.heap.size 75 3 (.sl g' 0 (out.length+1) cap) (out.length+1) (Î out++Î [⟨b,f,t⟩]))(G:U.grownBy w2 v.ownBlock)(Y:v.ownBlock=some g'\/g'=U.heap.size):Dq w w2 gd gc gk n (.sl g' 0 (out.length+1) cap) (out++[⟨b,f,t⟩]) next cr rv F row:=by
 have I:=NA wr gd b (.bool true);have S:w1.heap.size=wr.heap.size:=by rw[aa];exact Ē _ _ _
 have V:∀g,g<wr.heap.size->v.ownBlock≠some g->g'≠g:=λg W g e=>by
  obtain Y|Y:=Y
  . exact g (by rw[Y,e])
  have:=O.size;omega
 have X:Ç (λk=>v.ownBlock=some k) U w2:=⟨G.os,G.tape,G.output,G.size,λk E g=>G.block k E (λe=>g e.symm)⟩
 have T:FM w1 gd n (out++[⟨b,f,t⟩]):=by rw[aa];exact h.a.K b am f t
 have e:Ç (λk=>k=gd) wr w1:=by rw[aa];exact I
 have I:Ç (λk=>k=gd\/v.ownBlock=some k) wr w2:=((e.l λk E=>.inl E).G (.e O)).G (X.l λk E=>.inr E);have blk:∀g,g<wr.heap.size->g≠gd->v.ownBlock≠some g->w2.heap[g]? = wr.heap[g]?:=λg W Z G=>I.block g W (λe=>by obtain e|e:=e;exact Z e;exact G e)
 refine⟨?_,?_,h.e.e (blk gc h.e.G (λe=>h.h.1 e.symm) h.b.2.1) I.h,h.g.e (blk gk h.g.G (λe=>h.h.2.1 e.symm) h.b.2.2) I.h,h.row.r I (λk E e=>?_),h.h,⟨λe=>V gd h.a.G h.b.1 (Ö e),λe=>V gc h.e.G h.b.2.1 (Ö e),λe=>V gk h.g.G h.b.2.2 (Ö e)⟩,⟨h.i.1,h.i.2.1,h.i.2.2.1,λk E e=>V k (h.row.a k E).2 (h.i.2.2.2 k E) (Ö e)⟩,h.l,?_⟩
 . unfold Dz;rw[ý,Jj];exact Z
 .
  have e:gd<w1.heap.size:=by rw[S];exact h.a.G
  exact(T.e (O.block gd e) O.size).e (X.block gd (rZ e O.size) h.b.1) X.h
 .
  obtain e|e:=e
  . exact h.i.1 (by rw[<-e];exact E)
  exact h.i.2.2.2 k E e
 refine h.d.trans (I.d h.d.size λk E=>?_);obtain rfl|E:=E
 . exact h.l.1
 exact(AC h.E E).1
end
open Go.Conc Go.Conc.Lib Go.ConcR.Gen
section
variable {P:Program}{Post:xn->tz->Prop}{H:Nat->Prop}{p:Gg}{f:FuncId}{fn:Func}{c:Code}{args:Array xn}{w:tz}{R:Gu->tz->Prop}
def AO.j (bf:∀H,Eb P p H)(a1:P.funcs[f]? = some fn)(U:fn.body=some c)(a3:Hl P p c=true)(aa:Sr H w)(bs:∀v,Bp H v w->s8 P f args v R)(a4:∀e w,R e w->∃x,e=.returned x){ab cs}
  (a5:∀x v' w',R (.returned x) v'->Bp H v' w'->Q9 H w w'->AO P Post H (G (ab.finish x) cs) w'):AO P Post H (G (tR P f args .normal) (ab::cs)) w:=by
 intro d0;have aa:Sr H (w.at d0):=aa;obtain⟨v,b,-,-⟩:=TU aa;have ax:Bp H v (w.at d0):=b.some;have d:∀t,s8 P f args (À v t) R:=λt=>bs _ (by
  obtain⟨aC,ap,V⟩:=ax.B w.drawn;exact⟨aC,ap,V⟩)
 have aG:PX P (Ú P f args v) ((λy=>y.1.2=[ö]/\y.1.1.mode=.returning/\y.1.1.defers=[]/\y.1.1.kind=.normal/\∃fn T x,R (.returned x) (À y.2 T)/\P.funcs[y.1.1.fn]? = some fn/\(uK fn y.1.1.tmps).run P (À y.2 T)=.ok x (À y.2 T))):=by
  refine⟨λt=>?_,λy I=>.inl ⟨I.2.1,I.1⟩,λy I=>I.1,λy t I=>I⟩;obtain⟨n,x,fr,w',V,aj,an,al,am,g,ao,Z⟩:=Ď.B (P:=P) (w0:=v) (Post:=R) ⟨d,a4⟩ t;exact⟨n,((fr,[ö]),w'),aj,J,an,al,am,g,w'.tape,x,V,ao,Z⟩
 have a0:=enter_at (P:=P) args a1 U;have o:Ht P p (Ú P f args v):=by
  refine⟨⟨?_,[],J,λg aw=>by cases aw⟩,ax.l⟩;show Gl P p (tR P f args .normal)
  rw[a0];exact⟨⟨fn,a1⟩,⟨[.code c],[],J,.inl J,λx aE=>by rw[Đ.1 aE];exact a3⟩,J,.inl J,J,J⟩
 have aW:∀aN av,Į aN av [ö]=av:=λaN av=>by simp[Į,ö]
 have key:=Xr (Post:=Post) bf aG o [] (ab::cs) (w0:=w.at d0) (λy se I aB ai=>?_) ax
 .
  have a:ĥ [] (tR P f args .normal)=tR P f args .normal:=by
   rw[a0];show({(base f).at {tmps:=args++Array.replicate (fn.ntmps-args.size) undef,defers:=[]} [.code c]with todo:=Ű [] [.code c]}:Frame)=_
   rw[ah (P:=P) (p:=p) λx aE=>by rw[Đ.1 aE];exact a3];rfl
  unfold Ú at key;dsimp only at key
  rw[a,aW]at key;exact key
 obtain⟨⟨Y,a⟩,ak⟩:=y;obtain⟨V,aj,an,al,g,T,x,am,ao,Z⟩:=I;dsimp only at V aj an al am ao Z aB⊢
 subst V;rw[aW];have aL:∀t,(uK g Y.tmps).run P (À ak t)=.ok x (À ak t):=λt=>by
  have d:Ξ (À ak T):=aB.l;obtain⟨z,V,E,-⟩|⟨a,v',w',u,E,-,-,-,-,-,-,-,ac⟩:=Ms (P:=P) (H:=λ_=>False) g Y.tmps _ _ (XV d)
  . rw[Z]at E;cases E
  rw[Z]at E;cases E
  exact ac t λj q d j=>absurd (Nat.lt_of_le_of_lt d j) (ų _)
 intro u z t q B aw n j I;refine GZ (P:=P) (Shun:=KM H) (a:=G (ĥ [] Y) (ab::cs)) J (λa' w' aq=>aq<=w'.heap.size/\∃v',Bp H v' w'/\R (.returned x) v'/\Q9 H w w'/\a'=G (ab.finish x) cs) ?_ _ u se z t q B J aw n j λd=>?_
 . rintro se a' w' q u q' aq⟨t,v',E,ac,O,rfl⟩B z j;exact(a5 x v' w' ac E O).d se q u q' aq B z j t
 have j:=aB.x d;obtain⟨z,V,E,-⟩|⟨a,v',w',u,aI,E,ac,O,q,d,-⟩:=Ms (P:=P) (H:=H) g Y.tmps _ _ j
 . rw[aL]at E;cases E
 rw[aL]at aI;cases aI
 refine⟨_,w',_,w'.heap.size,PO (fr:=ĥ [] Y) aj an al ao E q,λe aG=>Qr (d e (mem_seen aG)),rX I O.h,lr,À ak T,?_,am,⟨λb o U a2=>O.a b o (ai.1 b o U a2) a2,λb U=>(O.d b U).trans (ai.2.1 b U),O.x.trans ai.2.2.1,O.i.trans ai.2.2.2⟩,J⟩;obtain⟨aC,ap,aa⟩:=ac.some;exact⟨aC,ap,aa⟩
end
end Go.Proofs.YtaoikkhlnhfkfaaGreatDoor
