import Derived.Test.YtaoikkhlnhfkfaaGreatDoorU00
import Derived.Test.YtaoikkhlnhfkfaaGreatDoorU09
set_option maxHeartbeats 4000000
set_option maxRecDepth 100000
set_option linter.defProp false
set_option linter.unusedSimpArgs false
set_option linter.unusedVariables false
namespace Go.Proofs.YtaoikkhlnhfkfaaGreatDoor
open Option renaming some->A,none->sA
open Proofs.Tryz renaming prog->sr
open Go renaming madeCells->sC,Calls->s8,maxLen->s7
open RowKit renaming Hid->sE,intOf->BE
open Nat renaming lt_trans->AG
open Go.RowKit
variable {w w':M}{B n:Nat}
structure ğ (w:M)(B:Nat)(gs:lN)(bs:List Bk):Prop where
 len:gs.length=bs.length
 ptr:∀(i:Nat) g,gs[i]? = A g->w.cell? (C B i)=A (.pp g 0)
 l:∀g,g∈gs->B<g
 a:∀(i:Nat) g b,gs[i]? = A g->bs[i]? = A b->IJ w g b
 D:∀(i j:Nat) g,gs[i]? = A g->gs[j]? = A g->i=j
def Tryz.ML:(sr.info? 244).map (λi=>(i.zero,i.size,i.bytes))=A (A (.p sA),1,8):=kr
structure Ī (w:M)(B n:Nat):Prop where
 E:∀j,j<n->∃v,w.cell? (C B j)=A v
 s:∀j,w.frozen? (C B j)=false
def XU (w:M)(z:Array Vl) n(e:tI):Ī (w.alloc (.c (sC z n) e)) w.heap.size n:=by
 refine⟨λj E=>?_,λj=>?_⟩
 rw[Ŏ _ _ _ _ J];exact⟨_,ÿ (rj lv E)⟩
 simp
def Ī.r{S}(h:Ī w B n)(G:Ç S w w')(E:B<w.heap.size)(I:¬S B):Ī w' B n:=
 ⟨λj O=>let⟨v,U⟩:=h.E j O;⟨v,G.E (p:=(C B j)) E I▸U⟩,λj=>G.s (p:=(C B j)) E I▸h.s j⟩
def Ī.d (h:Ī w B n)(G:zW w w')(E:B<w.heap.size):=h.r (S:=λ_=>False) (.e G) E id
def Ī.Q (h:Ī w B n) j(v:Vl):Ī (w.setCell (C B j) v) B n:=by
 refine⟨λi G=>?_,λi=>rj ñ (h.s i)⟩;by_cases I:i=j
 subst I;let⟨u,E⟩:=h.E i G;exact⟨v,ŏ _ _ _ E⟩
 let⟨u,E⟩:=h.E i G;exact⟨u,by rw[sF _ _ _ _ (by simp<;>omega)];exact E⟩
def Fa{α:Type}{l:List α}{a x i}(h:(l++[a])[i]? = A x):(i<l.length/\l[i]? = A x)\/(i=l.length/\x=a):=by
 obtain E|E|E:=θ i l.length
 rw[č E]at h;exact .inl ⟨E,h⟩
 subst E;simp at h;exact .inr ⟨J,h.symm⟩
 rw[ą so]at h;cases h
def WN (a6:oA) be(ls:lI)(w:M)(a4:Cr w a6 ls)(aE:Bq ls):s8 sr 154 #[.s a6 ls.length be] w λe w'=>∃gs,e=.r (.sl w.heap.size 0 ls.length ls.length)/\ğ w' w.heap.size gs (ls.map Js)/\zW w w':=by
 let⟨U,b0,bb⟩:=aE;obtain⟨b,off,rfl,av,Z⟩:=a4.some U;have q:=Io Z;have bq:=Io bb;clear a4 bb Z;generalize a9:ls.length=n at*;have an:=(show sE (ls.length=n)from a9)
 clear a9;let⟨bn,ai,c,aN,b⟩:=ó Tryz.ML;let bs:=λw'=>by
  have:=Ŭ (P:=sr) w' 238 244 bn (.p sA) kr ai c .i64 .i64 n n N N (ot b) N;simpa[aN,Value.cells]using this
 have Y:=XU w #[.p sA] n 244;have g:zW w (w.alloc (.c (sC #[.p sA] n) 244)):=ba;have h:(w.alloc (.c (sC #[.p sA] n) 244)).z=w.z+1:=sm;go_in
 go_wp21;generalize w.alloc (.c (sC #[.p sA] n) 244)=bx at*;have bg:=Io Y;have j:=qY g h;clear Y g h bs ai c aN b;go_loopw[11] (λi wr=>∃k:Nat,k<=n/\i=.q k/\Ī wr w.z n/\zW w wr/\w.z<wr.z/\∃gs,ğ wr w.z gs ((ls.take k).map Js))(λi _=>n-(BE i).toNat)
 case atStart=>exact⟨0,uD _,J,bg.o,j.o.1,oe j.o.2,[],⟨sm,(λi g h=>oF h),(nofun),(λi g b h=>oF h),(λi j g h=>oF h)⟩⟩
 case round=>
  obtain⟨k,aE,rfl,Y,aa,al,gs,E⟩:=hrel;have aL:=Io aa;have ao:=Io E;by_cases j:k<n
  .
   let⟨⟨x,y⟩,ab,bc⟩:=Ao ls k (an.o▸j);have b1:wr.cell? (C b (off+k*2))=A (.q x):=aa.cell (p:=(C b (off+k*2))) av▸(q.o k x y ab).1
   have bK:wr.cell? (C b (off+k*2+1))=A (.q y):=aa.cell (p:=(C b (off+k*2+1))) av▸(q.o k x y ab).2
   have aI:=Io (bq.o _ bc);have bw:sE ((ls.take (k+1)).map Js=(ls.take k).map Js++[Js (x,y)]):=by
    show _=_
    rw[Δ,ab];simp
   have bv:=Io Y;let G:=Io al;clear E Y aa ab bc;go_wp21;apply(xQ x y _ (BJ aI.o).1 (BJ aI.o).2.1).mono
   rintro e w2⟨rfl,aj,a7⟩;let h:zW wr (wr.alloc (.c #[.q x,.q y] 51)):=ba;let ap:=h.tr a7;let i:(wr.alloc (.c #[.q x,.q y] 51)).z+1=wr.z+2:=sm;rw[i]at aj⊢;have am:=Io ap;have bm:=Io aj;let ac:=bv.o.d ap G.o;let⟨u,a5⟩:=ac.E k j;have bp:=ac.s k;have bh:=Io ac;have bt:=Io a5;clear a7 aj h ap i ac;go_wp21;let b:gs.length=k:=by
    have:=ao.o.len;rw[lx,Ε,an.o]at this;omega
   let u:sE (Ç (λq=>q=w.z) wr (w2.setCell (C w.z k) (.pp (wr.z+2) 0))):=
    Ç.g (S:=λq=>q=w.z) (.e am.o) J _
   have bl:=Io b;clear a5 bp b;go_roundw
   case rel=>
    let bj:=bl.o;let al:=G.o;let E:=ao.o;refine⟨k+1,N,nd,bh.o.Q k _,(aL.o.tr am.o).setCell lr _,rZ al u.o.h,gs++[wr.z+2],?_⟩;rw[bw.o];refine⟨by simp only[ý,List.length_singleton];rw[E.len],λi g I=>?_,λg I=>?_,λi g c I Z=>?_,λi j g I bf=>?_⟩
    .
     obtain⟨U,G⟩|⟨U,G⟩:=Fa I
     rw[sF _ _ _ _ (by simp<;>omega)];exact jf am.o (E.ptr i g G)
     rw[U,G,bj];exact ŏ _ _ _ bt.o
    .
     obtain h|h:=ĭ.1 I
     exact E.l g h
     simp at h;omega
    .
     obtain⟨U,G⟩|⟨U,G⟩:=Fa I
     .
      let ak:((ls.take k).map Js)[i]? = A c:=by
       obtain⟨V,O⟩|⟨V,O⟩:=Fa Z
       exact O
       rw[<-E.len]at V;omega
      let bZ:=E.l g (ĵ G);exact(E.a i g c G ak).r u.o (λe=>N)
     let ak:c=Js (x,y):=by
      obtain⟨V,O⟩|⟨V,O⟩:=Fa Z
      rw[<-E.len]at V;omega
      exact O
     rw[G,ak];exact bm.o.r (S:=λq=>q=w.z) (Ç.g (S:=λq=>q=w.z) (Ç.I ..) J _) (λe=>N)
    let b:∀(i:Nat) g,gs[i]? = A g->g<wr.z:=λi g I=>by
     let ai:i<((ls.take k).map Js).length:=by
      rw[<-E.len];obtain h|h:=nR i gs.length
      exact h
      simp[ą h]at I
     exact(E.a i g _ I (ë ai)).G
    obtain⟨U,G⟩|⟨U,G⟩:=Fa I<;>obtain⟨V,O⟩|⟨V,O⟩:=Fa bf
    exact E.D i j g G O
    have:=b i g G;omega
    have:=b j g O;omega
    omega
   case measure=>simp[BE];omega
  obtain rfl:k=n:=N;clear Y E;go_wp2
  go_ret;refine⟨gs,J,?_,aL.o⟩;have:=ao.o;rwa[iG (oe an.o)]at this
def XT{α:Type}{l:List α}{k p}(h:l[k]? = A p):l.drop k=p::l.drop (k+1):=by
 let G:k<l.length:=by
  obtain E|E:=nR k l.length
  exact E
  simp[ą E]at h
 rw[List.drop_eq_getElem_cons G];rw[ë G]at h;rw[Ö h]
def ğ.r{S}{w w':M}{B gs I}(h:ğ w B gs I)(G:Ç S w w')(V:¬S B)(Y:∀g,g∈gs->¬S g)(O:B<w.heap.size):ğ w' B gs I:=
 ⟨h.len,λi g E=>G.E (p:=(C B i)) O V▸h.ptr i g E,h.l,λi g b E U=>(h.a i g b E U).r G (Y g (ĵ E)),h.D⟩
def ğ.d{w w':M}{B gs E}(h:ğ w B gs E)(I:zW w w')(G:B<w.heap.size):=
 h.r (S:=λ_=>False) (.e I) id (λ_ _=>id) G
def sW B(gs:List Nat) E t n r9 w0 w ad(bl:K7 w0 ad)(bf:zW w0 w)(bp:w0.heap.size<=B)(bs:B<w.heap.size)(ao:ğ w B gs E)(bt:E.length=r9)(b5:r9<=6)
  (bh:∀b,b∈E->b.r/\b.last<=t)(b8:0<=t)(bZ:t<=1099511627776)(bd:1<=n)(bm:n<=1500):
  Calls sr 155 #[.s (A ⟨B,0,sA⟩) r9 r9,.int .i64 t,.int .i64 n] w λe w'=>e=.r (OH ad (En E t n))/\(∀T,En E t n=A T->ğ w' B gs (E.map λb=>b.g T n))/\Ç (λk=>k∈gs) w w':=by
 let⟨Q,c⟩:=ex (En E t n);rw[c];have bK:=Io c;have ac:sE (K7 w0 ad/\zW w0 w/\w0.heap.size<=B):=⟨bl,bf,bp⟩
 have O:=Io ao;have ab:=Io bt;have aw:=Io bh;have se:=Io bs;let⟨ca,a⟩:=ex (OH ad Q);rw[a];have bn:=Io a;clear c bl bf bp ao bt bh bs a;go_in
 go_wp21;go_loopw[1,18] (λa i wr=>∃k:Nat,k<=r9/\i=.int .i64 k/\∃u:Int,a=.int .i64 u/\t<=u/\u<=1099511627776/\En (E.drop k) u n=Q/\zW w wr)(λ_ i _=>r9-(BE i).toNat)
 case atStart=>exact⟨0,uD _,J,t,J,Ā _,bZ,sx bK.o,br⟩
 case round=>
  obtain⟨k,b6,rfl,u,rfl,b9,K,U,I⟩:=hrel;have ax:=Io I;have q:=Io U;by_cases a4:k<r9
  .
   let⟨b,aa,Z⟩:=Ao E k (ab.o▸a4);obtain⟨g,V,-⟩:=Ao gs k (O.o.len▸ab.o▸a4);have b1:wr.cell? ⟨B,k,sA⟩=A (.p (A ⟨g,0,sA⟩)):=I.cell (p:=⟨B,k,sA⟩) se.o▸O.o.ptr k g V
   have i:sE (En (E.drop k) u n=match b.i u n with|none=>sA|some v=>En (E.drop (k+1)) v n):=by
    show _=_
    rw[XT aa];rfl
   have P:sE (EC b.last u n=0):=Hu.2 ⟨bd,bm,N,K,oe (aw.o b Z).2⟩;have bb:=Io ((aw.o b Z).1);have Y:sE (qW 164 #[.p (A ⟨g,0,sA⟩),.int .i64 u,.int .i64 n] wr (OH ad (b.i u n))):=
    y8 g b u n wr ad (ac.o.1.d (ac.o.2.1.tr I)) ((O.o.a k g b V aa).d I) bb.o P.o
   clear I U aa V Z;cases ak:b.i u n with
   |none=>
    rw[ak]at Y i;let an:=Io (q.o.symm.trans i.o);change sE (qW 164 #[.p (A ⟨g,0,sA⟩),.int .i64 u,.int .i64 n] wr (.t #[.int .i64 0,.f 255 (.p (A (ad 3)))]))at Y
    clear ak;go_wp21;apply Y.o.mono
    rintro e bq⟨rfl,G⟩;have am:=Io (ax.o.tr G);clear G;go_wp2
    go_ret2;let ap:=an.o;refine⟨?_,λT e=>(by rw[ap]at e;cases e),.e am.o⟩;rw[<-bn.o,ap];rfl
   |some v=>
    rw[ak]at Y i;let an:=Io (i.o.symm.trans q.o);change sE (qW 164 #[.p (A ⟨g,0,sA⟩),.int .i64 u,.int .i64 n] wr (.t #[.int .i64 v,.n]))at Y
    obtain⟨b7,b0,-,-⟩:=Bk.a bb.o K ak;clear ak;go_wp21;apply Y.o.mono
    rintro e bq⟨rfl,G⟩;have am:=Io (ax.o.tr G);clear G;go_wp2
    go_roundw
    case rel=>exact⟨k+1,N,nd,v,J,N,b0,an.o,am.o⟩
    case measure=>simp[BE];omega
  let an:sE (Q=A u):=by
   show _=_
   rw[<-q.o,List.drop_eq_nil_of_le (oe ab.o)];rfl
  clear U I;go_wp21;go_loopw[36] (λi a=>∃k:Nat,k<=r9/\i=.int .i64 k/\Ç (λq=>q∈gs) w a/\(∀(i:Nat) g,gs[i]? = A g->a.cell? ⟨B,i,sA⟩=A (.p (A ⟨g,0,sA⟩)))/\∀(i:Nat) g b,gs[i]? = A g->E[i]? = A b->IJ a g (if i<k then b.g u n else b))(λi _=>r9-(BE i).toNat)
  case atStart=>
   let ao:=O.o.d ax.o se.o;exact⟨0,uD _,J,.e ax.o,ao.ptr,λi g b r7 I=>by rw[Ä N];exact ao.a i g b r7 I⟩
  case round=>
   obtain⟨j,b',rfl,Q,aC,W⟩:=hrel;have L:=Io Q;have be:=Io aC;have a5:=Io W;by_cases bg:j<r9
   .
    let⟨b,aa,Z⟩:=Ao E j (ab.o▸bg);let⟨g,V,bw⟩:=Ao gs j (O.o.len▸ab.o▸bg);have b1:=aC j g V;have P:sE (EC b.last u n=0):=Hu.2 ⟨bd,bm,N,K,oe (aw.o b Z).2⟩;let a8:IJ wr g b:=by have:=W j g b V aa;rwa[Ä N]at this
    let b4:sE (∀q,q∈gs->w0.heap.size<=q):=λq U=>by let bc:=O.o.l q U;let ai:=ac.o.2.2;omega
    have Y:sE (Ë 165 #[.p (A ⟨g,0,sA⟩),.int .i64 u,.int .i64 n] wr λe w'=>e=.r (.t #[.bool (decide (n*1000<=b.e u)),.n])/\IJ w' g (b.g u n)/\Ç (λk=>k=g) wr w'):=
     zl g b u n wr ad (ac.o.1.d (ac.o.2.1.trans (Q.d ac.o.2.1.size (λq U=>b4.o q U)))) a8 (aw.o b Z).1 P.o
    have aj:sE (gs[j]? = A g/\E[j]? = A b/\g∈gs):=⟨V,aa,bw⟩
    clear Q aC W V aa bw a8 Z;generalize decide (n*1000<=b.e u)=z at*;go_wp21;apply Y.o.mono
    rintro e bq⟨rfl,a9,G⟩;have b2:=Io a9;have am:=Io G;clear a9 G;go_wp2
    go_roundw
    case rel=>
     let G:=am.o;refine⟨j+1,N,nd,L.o.G (G.l λq U=>(U▸aj.o.2.2)),λi g' al=>?_,λi g' bx al bj=>?_⟩
     .
      let h:¬B=g:=oe (O.o.l g aj.o.2.2)
      rw[G.E (p:=⟨B,i,sA⟩) (rZ se.o L.o.h) h];exact be.o i g' al
     by_cases a7:i=j
     subst a7;obtain rfl:=Ö (al.symm.trans aj.o.1);obtain rfl:=Ö (bj.symm.trans aj.o.2.1);rw[Æ N];exact b2.o
     let bc:=a5.o i g' bx al bj;let h:¬g'=g:=λe=>a7 (O.o.D i j g' al (e▸aj.o.1))
     let ai:=bc.r G h;by_cases a6:i<j
     rw[Æ a6]at ai;rw[Æ N];exact ai
     rw[Ä a6]at ai;rw[Ä N];exact ai
    case measure=>simp[BE];omega
   clear Q aC W;go_wp2
   go_ret2;let ap:=an.o;refine⟨?_,λT e=>?_,L.o⟩
   rw[<-bn.o,ap];rfl
   rw[ap]at e;cases e
   refine⟨oy O.o.len,be.o,O.o.l,λi g b r7 I=>?_,O.o.D⟩;simp[τ,ė]at I;obtain⟨c,bv,rfl⟩:=I;have:=a5.o i g c r7 bv;let b3:i<E.length:=by
    obtain h|h:=nR i E.length
    exact h
    simp[ą h]at bv
   rwa[Æ (by rw[ab.o]at b3;omega)]at this
def YK (G:oA) U(ls:lI)(E:oA) cap ps(w:M)(Z:Cr w G ls)(O:Bq ls)(I:AL w E ps)(V:Ar ps):s8 sr 153 #[.s G ls.length U,.s E ps.length cap] w λe w'=>e=.returned .n/\zW w w':=by
 have W:=qY I V;have X:=qY Z O;clear Z O I V;go_in
 go_wp21;apply(L8 E cap ps _ W.o.1 W.o.2).mono
 rintro e W⟨rfl,W⟩;have Y:=Io W;clear W;go_wp21;apply(LH G U ls _ (X.o.1.d Y.o) X.o.2).mono
 rintro e W⟨rfl,X⟩;have W:=Io (Y.o.tr X);clear X;go_wp2
 go_ret;exact⟨J,W.o⟩
def Ta (w:M)(D:Nat)(q:List Pk):=∀(i:Nat) p,q[i]? = A p->w.cell? (C D (i*3))=A (.q p.b)/\w.cell? (C D (i*3+1))=A (.q p.h)/\w.cell? (C D (i*3+2))=A (.q p.a)
def Ta.r{S}{w w':M}{D q}(h:Ta w D q)(I:Ç S w w')(G:D<w.heap.size)(E:¬S D):Ta w' D q:=λi p O=>by
 have:=h i p O;exact⟨I.E (p:=(C D (i*3))) G E▸this.1,I.E (p:=(C D (i*3+1))) G E▸this.2.1,I.E (p:=(C D (i*3+2))) G E▸this.2.2⟩
def Ta.u{w D n q}(h:Ta w D q)(G:Ī w D n) k(O:q.length=k)(aa:k*3+2<n) x y z:Ta (((w.setCell (C D (k*3)) (.q x)).setCell (C D (k*3+1)) (.q y)).setCell (C D (k*3+2)) (.q z)) D (q++[⟨x,y,z⟩]):=by
 intro i p Y;obtain⟨I,E⟩|⟨I,E⟩:=Fa Y
 .
  have:=h i p E;refine⟨?_,?_,?_⟩
  rw[sF _ _ _ _ (by simp<;>omega),sF _ _ _ _ (by simp<;>omega),sF _ _ _ _ (by simp<;>omega)];exact this.1
  rw[sF _ _ _ _ (by simp<;>omega),sF _ _ _ _ (by simp<;>omega),sF _ _ _ _ (by simp<;>omega)];exact this.2.1
  rw[sF _ _ _ _ (by simp<;>omega),sF _ _ _ _ (by simp<;>omega),sF _ _ _ _ (by simp<;>omega)];exact this.2.2
 rw[I,E,O];let⟨i,Z⟩:=G.E (k*3) N;let⟨i,U⟩:=(G.Q (k*3) (.q x)).E (k*3+1) N;let⟨i,V⟩:=((G.Q (k*3) (.q x)).Q (k*3+1) (.q y)).E (k*3+2) N;refine⟨?_,?_,?_⟩
 rw[sF _ _ _ _ sm,sF _ _ _ _ sm];exact ŏ _ _ _ Z
 rw[sF _ _ _ _ sm];exact ŏ _ _ _ U
 exact ŏ _ _ _ V
def Ui (ls:lI)(ps:List Pk)(ad:Nat->Addr)(w:M)(e:Ending)(w':M):=
 zW w w'/\
 ((∃s D,shape ls ps=A s/\e=.r (.t #[.sl D 0 ps.length ps.length,.n])/\w.heap.size<= D/\AL w' (sa D 0) s.p)\/
  (∃(j:Nat)(p:Pk)(s:Sh)(F:Nat),ps[j]? = A p/\shape ls (ps.take j)=A s/\Dn s p=sA/\e=.r (.t #[.sn,.f 119 (.pp F 0)])/\w'.cell? (C F 0)=A (.q j)/\w'.cell? (C F 1)=A (.f 255 (.p (A (ad 3))))))
structure nP (ls:lI)(ps:List Pk)(w wr:M)(B D:Nat)(gs:lN)(n k:Nat)(s:Sh):Prop where
 a:shape ls (ps.take k)=A s
 g:ğ wr B gs s.a
 e:Ī wr D (n*3)
 p:Ta wr D s.p
 d:zW w wr
 b:D<wr.heap.size
structure mK (w:M)(B D:Nat)(gs:lN):Prop where
 a:w.heap.size<=B
 d:B<D
 b:∀g,g∈gs->B<g/\g<D
def Xu (aw:oA) aB(ls:lI)(aG:oA) cap ps(w:M) ad(bw:K7 w ad)(bv:Cr w aw ls)(a0:Bq ls)(aj:AL w aG ps)(aN:Ar ps):s8 sr 130 #[.s aw ls.length aB,.s aG ps.length cap] w λe w'=>Ui ls ps ad w e w':=by
 have ao:=qY aj aN;have al:=qY bv a0;have K:=Io bw;have g:=aN.j;clear bv a0 aj aN bw;let⟨n,aI⟩:=ex ps.length;have aq:=Io aI;have i:sE (qW 153 #[.s aw ls.length aB,.s aG n cap] w .n):=by
  have:=YK aw aB ls aG cap ps w al.o.1 al.o.2 ao.o.1 ao.o.2;rwa[aI]at this
 rw[aI]at g⊢;clear aI;let⟨k,V,bn,bZ,bt⟩:=ó Tryz.l;have x:=λw'=>by
  have:=Ŭ (P:=sr) w' 29 68 k (.agg #[.q 0,.q 0,.q 0]) Tryz.underlying29 V bn .i64 .i64 n n N N (by rw[bt];omega) N;simpa[bZ,Value.cells]using this
 clear V bn bZ bt;go_in
 go_wp2_with fail;apply i.o.mono
 rintro e w1⟨rfl,b3⟩;have a6:=Io b3;clear b3;go_wp2_with fail;apply(WN aw aB ls _ (al.o.1.d a6.o) al.o.2).mono
 rintro e w2⟨gs,rfl,ai,bq⟩;have g:=Io ai;have z:=Io (a6.o.tr bq);have a2:w1.heap.size<w2.heap.size:=by
  obtain⟨g,G,-⟩:=Ao gs 0 (by rw[ai.len,lx];exact al.o.2.1);exact BZ (ai.ptr 0 g G)
 have s:∀g,g∈gs->w1.heap.size<g/\g<w2.heap.size:=λg G=>by
  refine⟨ai.l g G,?_⟩;let⟨i,V⟩:=υ.1 G;have y:i<(ls.map Js).length:=by
   rw[<-ai.len];obtain h|h:=nR i gs.length
   exact h
   simp[ą h]at V
  exact(ai.a i g _ V (ë y)).G
 have I:sE (mK w w1.heap.size w2.heap.size gs):=⟨a6.o.size,a2,s⟩
 have O:zW w2 (w2.alloc (.c (sC #[.q 0,.q 0,.q 0] (n*3)) 68)):=ba;have g:sE (nP ls ps w (w2.alloc (.c (sC #[.q 0,.q 0,.q 0] (n*3)) 68)) w1.heap.size w2.heap.size gs n 0 ⟨ls.map Js,0,[]⟩):=
  ⟨by simp[shape],ai.d O a2,XU w2 _ (n*3) 68,(λi p h=>oF h),z.o.tr O,sm⟩
 clear ai bq a2 s O;go_wp2_with fail;generalize w2.alloc (.c (sC #[.q 0,.q 0,.q 0] (n*3)) 68)=h at*;generalize w1.heap.size=B at*;generalize w2.heap.size=D at*;clear x;go_loopw[9,27] (λl i wr=>∃k:Nat,k<=n/\i=.q k/\∃s,l=.q s.h/\nP ls ps w wr B D gs n k s)(λ_ i _=>n-(BE i).toNat)
 case atStart=>exact⟨0,uD _,J,_,J,g.o⟩
 case round=>
  obtain⟨k,a0,rfl,s,rfl,aa⟩:=hrel;have ak:=Io aa;have bK:Ar (ps.take k):=by
   refine⟨by have:=ao.o.2.j;simp;omega,λi p V=>?_⟩;have g:i<k:=by
    obtain h|h:=nR i k
    exact h
    rw[ψ,Ä N]at V;cases V
   rw[lg g]at V;have:=ao.o.2.d i p V;refine⟨this.1,?_⟩;have e:Ò (ps.take k) i=Ò ps i:=by
    cases i with
    |zero=>rfl
    |succ i=>simp only[Ò];rw[lg N]
   rw[e];exact this.2
  have an:=Io (I4 al.o.2 _ _ bK aa.a);clear bK;by_cases b:k<n
  .
   obtain⟨⟨x,y,z⟩,aj,-⟩:=Ao ps k (aq.o▸b);obtain⟨b,off,rfl,-,bh⟩:=(ao.o.1.d aa.d).h (oe aq.o);let⟨g,h,b⟩:=bh k _ aj;simp only at g h b;have o:=Bw (ao.o.2.d k _ aj).1;simp only at o;obtain⟨-,-,r7,G,b,b⟩:=o;have b:=an.o.a.a;rw[<-an.o.h]at b;have H:=Io aj;have O:zW wr (wr.alloc (.c #[.q x,.q y,.q z] 68)):=ba;have bg:=AG I.o.d aa.b;have ac:sE (Ë 155 #[.sl B 0 ls.length ls.length,.q (max z s.h),.q y] (wr.alloc (.c #[.q x,.q y,.q z] 68)) λe w'=>e=.r (OH ad (En s.a (max z s.h) y))/\(∀T,En s.a (max z s.h) y=A T->ğ w' B gs (s.a.map λb=>b.g T y))/\Ç (λk=>k∈gs) (wr.alloc (.c #[.q x,.q y,.q z] 68)) w'):=
    sW B gs s.a (max z s.h) y ls.length w _ ad K.o (aa.d.tr O) I.o.a so (aa.g.d O bg) an.o.j al.o.2.2.1
     (λb bb=>⟨(an.o.y b bb).1,oe (an.o.y b bb).2⟩) N N r7 G
   have F:sE (ps.take (k+1)=ps.take k++[⟨x,y,z⟩]):=by show _=_;rw[Δ,aj];rfl
   have b1:sE (∀g,g∈gs->g≠wr.heap.size):=λg G=>oi (I.o.b g G).2 aa.b
   clear aj bh O bg;have ap:=Io aa.b;have g:sE (s.h=s.h):=rfl;clear aa;generalize bm:s.h=L at*;have bp:=Io bm;clear bm g;let⟨se,a5⟩:=ex (max z L);rw[a5]at ac;have aC:=Io a5;let⟨Q,a8⟩:=ex (En s.a se y);rw[a8]at ac;have bc:=Io a8;have be:(L<=z/\se=z)\/(z<L/\se=L):=N;clear a5 a8;cases Q with
   |none=>
    change sE (Ë 155 #[.sl B 0 ls.length ls.length,.q se,.q y] (wr.alloc (.c #[.q x,.q y,.q z] 68)) λe w'=>e=.r (.t #[.q 0,.f 255 (.p (A (ad 3)))])/\(∀T,sA=A T->ğ w' B gs (s.a.map λb=>b.g T y))/\Ç (λk=>k∈gs) (wr.alloc (.c #[.q x,.q y,.q z] 68)) w')at ac
    have b:sE (Dn s ⟨x,y,z⟩=sA):=by
     show _=_
     unfold Dn;simp only;rw[bp.o,aC.o,bc.o]
    obtain⟨E,U⟩|⟨E,U⟩:=be
    all_goals
     rw[U]at ac;have a7:=Io (aC.o.trans U);clear U;go_wp2_with fail
     try rw[a7.o]
     apply ac.o.mono
     rintro e Z⟨rfl,-,Y⟩;have av:sE (zW w Z):=have aE:=ak.o.d;have E:zW w (wr.alloc (.c #[.q x,.q y,.q z] 68)):=aE.alloc aE.size _;E.trans (Y.d E.size λg G=>by have U:=(I.o.b g G).1;have b':=I.o.a;omega)
     clear Y;go_wp2
     go_ret2;exact⟨av.o.alloc av.o.size _,.inr ⟨k,⟨x,y,z⟩,s,Z.heap.size,H.o,ak.o.a,b.o,J,sm,sm⟩⟩
   |some T=>
    change sE (Ë 155 #[.sl B 0 ls.length ls.length,.q se,.q y] (wr.alloc (.c #[.q x,.q y,.q z] 68)) λe w'=>e=.r (.t #[.q T,.n])/\(∀bx,A T=A bx->ğ w' B gs (s.a.map λb=>b.g bx y))/\Ç (λk=>k∈gs) (wr.alloc (.c #[.q x,.q y,.q z] 68)) w')at ac
    have r7:sE (Dn s ⟨x,y,z⟩=A ⟨s.a.map λb=>b.g T y,T,s.p++[⟨x,y,T⟩]⟩):=by
     show _=_
     unfold Dn;simp only;rw[bp.o,aC.o,bc.o]
    have W:sE (s.p.length=k):=by
     show _=_
     rw[an.o.len,Ε,aq.o];omega
    obtain⟨E,U⟩|⟨E,U⟩:=be
    all_goals
     rw[U]at ac;have a7:=Io (aC.o.trans U);clear U;go_wp2_with fail
     try rw[a7.o]
     apply ac.o.mono
     rintro e Z⟨rfl,bl,Y⟩;have K:=Io (bl T J);have a1:¬D∈gs:=λh=>oe (I.o.b D h).2
     have ax:=λh=>b1.o _ h J
     have O:zW wr (wr.alloc (.c #[.q x,.q y,.q z] 68)):=ba;have av:sE (zW w Z):=have aE:=ak.o.d;have E:=aE.tr O;E.trans (Y.d E.size λg G=>by have U:=(I.o.b g G).1;have b':=I.o.a;omega)
     have am:wr.heap.size<(wr.alloc (.c #[.q x,.q y,.q z] 68)).heap.size:=sm;have a3:=ap.o;have aW:=AG a3 am;have aL:=Io (rZ am Y.h);have b:Z.cell? (C wr.heap.size 0)=A (.q x):=oj (Y.E (p:=(C wr.heap.size 0)) am ax)
     have b:Z.cell? (C wr.heap.size 1)=A (.q y):=oj (Y.E (p:=(C wr.heap.size 1)) am ax)
     have b:Z.cell? (C wr.heap.size 2)=A (.q z):=oj (Y.E (p:=(C wr.heap.size 2)) am ax)
     have b:Z.frozen? (C wr.heap.size 2)=false:=oj (Y.s (p:=(C wr.heap.size 2)) am ax)
     let ab:=(ak.o.e.d O a3).r Y aW a1;have z:=Io ab;have E:=Io ((ak.o.p.r (S:=λ_=>False) (.e O) a3 id).r Y aW a1);obtain⟨p,p⟩:=ab.E (k*3) N;obtain⟨p,p⟩:=ab.E (k*3+1) N;obtain⟨p,p⟩:=ab.E (k*3+2) N;have p:=ab.s (k*3);have p:=ab.s (k*3+1);have p:=ab.s (k*3+2);have p:¬wr.heap.size=D:=N;have bj:¬D=wr.heap.size:=N;clear bl Y a1 O am aW ab ax;generalize wr.heap.size=sd at*;go_wp2
     go_roundw
     case rel=>
      refine⟨k+1,N,nd,⟨s.a.map λb=>b.g T y,T,s.p++[⟨x,y,T⟩]⟩,J,?_⟩;let b2:Ç (λq=>q=sd) Z (Z.setCell (C sd 2) (.q T)):=Ç.g (S:=λq=>q=sd) (Ç.I ..) J _;let bf:=z.o.r b2 (AG ap.o aL.o) bj;let z:=E.o.r b2 (AG ap.o aL.o) bj;let a4:Ç (λq=>q=sd\/q=D) Z ((((Z.setCell (C sd 2) (.q T)).setCell (C D (k*3)) (.q x)).setCell (C D (k*3+1)) (.q y)).setCell (C D (k*3+2)) (.q T)):=
       Ç.g (S:=λq=>q=sd\/q=D) (Ç.g (S:=λq=>q=sd\/q=D) (Ç.g (S:=λq=>q=sd\/q=D) (Ç.g (S:=λq=>q=sd\/q=D) (Ç.I ..) (.inl J) _) (.inr J) _) (.inr J) _) (.inr J) _
      let g:=I.o.a;let g:=I.o.d;let g:=ap.o;refine⟨?_,K.o.r a4 N (λg G h=>?_) (oe aL.o),((bf.Q ..).Q ..).Q ..,z.u bf k W.o N x y T,av.o.trans (a4.d av.o.size (λq h=>N)),rZ (AG ap.o aL.o) a4.h⟩
      rw[F.o,ME,ak.o.a];exact r7.o
      let E:=I.o.b g G;let U:=b1.o g G;omega
     case measure=>simp[BE];omega
  clear aa;go_wp2
  go_ret2;obtain rfl:k=n:=N;let E:=ak.o;refine⟨E.d,.inl ⟨s,D,by have:=E.a;rwa[iG (oe aq.o)]at this,by let e:=aq.o;rw[e];rfl,rX I.o.a (ŕ I.o.d),?_⟩⟩;exact .inr ⟨D,0,J,E.b,λi p V=>by
   have:=E.p i p V;simpa using this⟩
def jE (l:List Pk):l.foldl (λ(s:Option Sh) p=>s.bind λs=>Dn s p) sA=none:=by
 induction l with
 |nil=>rfl
 |cons a r E=>exact E
def Tq{ls:lI}{ps j p s}(E:ps[j]? = A p)(G:shape ls (ps.take j)=A s)(I:Dn s p=sA):shape ls ps=none:=by
 have e:ps=ps.take j++p::ps.drop (j+1):=by rw[<-XT E,List.take_append_drop]
 have O:(ps.take j).foldl (λ(s:Option Sh) p=>s.bind λs=>Dn s p) (A ⟨ls.map Js,0,[]⟩)=A s:=G;rw[e];unfold shape;rw[List.foldl_append,O,List.foldl_cons];show List.foldl _ (Dn s p) _=sA
 rw[I];exact jE _
variable {S:Nat ->Prop}{w w':M}{a:oA}{ls:lI}{B:Nat}{e:tI}{v:Vl}{xs:List Vl}{cs:List lI}{P:pG}
structure WQ (cs:List lI)(ns:lZ):Prop where
 a:cs.length<=20
 j:ns.length<=30
 d:∀(i:Nat) ls,cs[i]? = A ls->ls.length<=20
def nL (cs:List lI)(E:lZ)(w:M)(e:Ending)(w':M):=(e=.r (.bool true)\/(e=.r (.bool false)/\WQ cs E))/\zW w w'
def uB (ca:oA) ccap(cs:List lI)(kb:bA) per(na:oA) ncap ns(w:M)(hc:EW w ca cs)(hcc:cs.length<=ccap)(hcm:ccap<=s7)(hnc:ns.length<=ncap)(hnm:ncap<=s7):s8 sr 5 #[.agg #[.s ca cs.length ccap,.st kb,.q per,.s na ns.length ncap]] w λe w'=>nL cs ns w e w':=by
 have HC:=Io hc;have hm1:cs.length<=9223372036854775807:=rX hcc (rX hcm (by unfold s7;omega));have hr1:ns.length<=9223372036854775807:=rX hnc (rX hnm (by unfold s7;omega));let⟨m,hm⟩:=ex cs.length;let⟨r,hr⟩:=ex ns.length;have HM:=qY hm hr;rw[hm]at hm1⊢;rw[hr]at hr1⊢;have hb1:zW w (w.alloc (.c #[.s ca m ccap,.st kb,.q per,.s na r ncap] 25)):=ba;have hga:=EA w (.s ca m ccap) kb per (.s na r ncap) 25;let⟨V,hV⟩:=ex (w.alloc (.c #[.s ca m ccap,.st kb,.q per,.s na r ncap] 25));rw[hV]at hb1 hga;have HV:=qY hb1 hga;obtain⟨W,j,j,j⟩:=hga;clear hc hcc hcm hnc hnm hm hr hb1;by_cases h:20<m
 .
  go_in
  go_wp2
  go_ret;exact⟨.inl J,HV.o.1⟩
 by_cases h:30<r
 .
  go_in
  go_wp2
  go_ret;exact⟨.inl J,HV.o.1⟩
 by_cases h:60<kb.size
 .
  go_in
  go_wp2
  go_ret;exact⟨.inl J,HV.o.1⟩
 go_in
 go_wp2_with fail;go_loopg[3] m (λgk j h=>∃i:Nat,gk+i=m/\j=.q i/\(∀(j:Nat) ls,j<i->cs[j]? = A ls->ls.length<=20)/\zW V h)
 case atStart=>exact⟨0,N,J,λj ls h=>N,br⟩
 case round=>
  obtain⟨i,h,rfl,hall,hb⟩:=hrel;have HR:=qZ hall hb (HV.o.1.tr hb);have j:=jf hb W;clear hall hb;by_cases him:i<m
  .
   obtain⟨ls,hls,-⟩:=Ao cs i (HM.o.1▸him);obtain⟨h,h,rfl,-,hcc⟩:=HC.o.h (by rw[HM.o.1];omega);obtain⟨a',cap,cj,-,hlc,hlm,-⟩:=hcc i ls hls;have cj':=jf HR.o.2.2 cj;have hll:ls.length<=9223372036854775807:=rX hlc (rX hlm (by unfold s7;omega));have HLs:=Io hls;let⟨q,hq⟩:=ex ls.length;have HQ:=Io hq;rw[hq]at cj' hll;clear hcc cj hlc hlm hls hq;by_cases hq20:20<q
   .
    go_wp2
    go_ret;exact⟨.inl J,HR.o.2.2⟩
   go_wp2
   go_roundg (gk-1)
   case measure=>omega
   case rel=>
    refine⟨i+1,N,by go_num,λj l h hl=>?_,HR.o.2.1⟩;obtain h|h:=nR j i
    exact HR.o.1 j l h hl
    obtain rfl:j=i:=N;obtain rfl:=Ö (HLs.o.symm.trans hl);rw[HQ.o];omega
  go_wp2
  go_ret;exact⟨.inr ⟨rfl,by have:=HM.o.1;omega,by have:=HM.o.2;omega,λj l hl=>HR.o.1 j l (oi (Ap hl) HM.o.1) hl⟩,HR.o.2.2⟩
def VK (h:Cr w a ls)(G:Ç S w w')(O:∀ad,a=A ad->¬S ad.block):Cr w' a ls:=by
 obtain rfl|⟨b,off,rfl,E,U⟩:=h
 exact .inl J
 have I:=O _ J;refine .inr ⟨b,off,J,rZ E G.h,λi x y V=>?_⟩;have:=U i x y V;exact⟨by rw[G.E (p:=(C b (off+i*2))) E I];exact this.1,by rw[G.E (p:=(C b (off+i*2+1))) E I];exact this.2⟩
def Ju (w:M)(e:tI)(v:Vl):=∀ad n c,v=.s (A ad) n c->ad=(C ad.block 0)/\∃cur,w.heap[ad.block]? = A (.c cur e (0,0))
def OL{O n}(h:w.ownsRow B e O v n xs):Ju w e v:=by
 rintro c m c rfl;obtain⟨-,⟨E,-⟩|⟨g,cap,cur,E,-,G,-⟩⟩:=h
 cases E
 cases E
 exact⟨J,cur,G⟩
def Ju.block (h:Ju w e v)(O:∀ad n c,v=.s (A ad) n c->w'.heap[ad.block]? = w.heap[ad.block]?):Ju w' e v:=λad n c E=>by
 let⟨G,cur,I⟩:=h ad n c E;exact⟨G,cur,(O ad n c E).trans I⟩
structure QB (w:M)(B:Nat)(v:Vl)(cs:List lI)(xs:List Vl):Prop where
 row:w.ownsRow B 52 1 v cs.length xs
 d:∀(i:Nat) ls,cs[i]? = A ls->∃a cap,xs[i]? = A (.s a ls.length cap)/\Cr w a ls/\ls.length<=cap/\cap<=s7/\(a=sA->ls=[]/\cap=0)/\∀ad,a=A ad->B<=ad.block/\ad.block<w.heap.size/\v.ownBlock≠A ad.block
 b:∀(i:Nat) x,xs[i]? = A x->Ju w 51 x
def QB.open (h:QB w B v cs xs):∃a cap,v=.s a cs.length cap/\cs.length<=cap/\cap<=s7/\EW w a cs/\(a=sA->cs=[]/\cap=0):=by
 have Y:=h.row;obtain⟨e,⟨rfl,E⟩|⟨g,cap,cur,rfl,e,e,i,I,G,G⟩⟩:=h.row
 exact⟨sA,0,by rw[E],N,by simp[s7],.inl (Ğ.1 E),λ_=>⟨Ğ.1 E,J⟩⟩
 refine⟨_,cap,J,i,I,.inr ⟨g,0,J,ī e,λi g G=>?_⟩,nofun⟩;obtain⟨a',e,U,E,V,Z,O,-⟩:=h.d i g G;refine⟨a',e,?_,E,V,Z,O⟩;rw[Ă,Y.cellAt i (by have:=Ap G;omega)];exact U
def QB.r (h:QB w B v cs xs)(O:Ç S w w')(V:∀k,S k->k<B):QB w' B v cs xs:=by
 have c:xs.length=cs.length:=by have:=h.row.1;simpa using this
 refine⟨Ai h.row λg E c=>O.block g c λG=>?_,λi X n=>?_,λi x Y=>?_⟩
 have:=V g G;have:=(AC h.row E).1;omega
 let⟨a',Z,U,g,c,T,W,E⟩:=h.d i X n;refine⟨a',Z,U,VK g O λg I G=>?_,c,T,W,λg I=>⟨(E g I).1,rZ (E g I).2.1 O.h,(E g I).2.2⟩⟩;have:=V _ G;have:=(E g I).1;omega
 refine(h.b i x Y).block λg n c c=>?_
 obtain⟨X,n,-⟩:=Ao cs i (by have:=Ap Y;omega);obtain⟨a',Z,U,-,-,-,-,E⟩:=h.d i X n;rw[Y,c]at U;cases U
 obtain⟨c,c,-⟩:=E g J;exact O.block _ c λG=>by have:=V _ G;omega
def QB.I (h:QB w B v cs xs){cap}(aI:Cr w a ls)(aB:ls.length<=cap)(ap:cap<=s7)(aN:a=sA->ls=[]/\cap=0)(O:∀ad,a=A ad->B<=ad.block/\ad.block<w.heap.size/\v.ownBlock≠A ad.block)(aC:Ju w 51 (.s a ls.length cap)){g ac}
  (aG:w'.ownsRow B 52 1 (.sl g 0 (cs.length+1) ac) (cs.length+1) (xs++[.s a ls.length cap]))(G:w.grownBy w' v.ownBlock)(Z:v.ownBlock=A g\/g=w.heap.size):QB w' B (.sl g 0 (cs.length+1) ac) (cs++[ls]) (xs++[.s a ls.length cap]):=by
 have Y:Ç (λk=>v.ownBlock=A k) w w':=⟨G.os,G.tape,G.output,G.size,λk e c=>G.block k e (λe=>c e.symm)⟩
 have T:xs.length=cs.length:=by have:=h.row.1;simpa using this
 have k:∀ad:Addr,ad.block<w.heap.size->v.ownBlock≠A ad.block->(Value.sl g 0 (cs.length+1) ac).ownBlock≠A ad.block:=λad V c e=>by
  obtain rfl:=Ö e;obtain Z|Z:=Z
  exact c Z
  omega
 refine⟨by rw[ý];exact aG,λi l c=>?_,λi x U=>?_⟩;obtain V|W:=nR i cs.length
 rw[č V]at c;let⟨a',X,e,n,S,W,V,I⟩:=h.d i l c;exact⟨a',X,by rw[č N];exact e,VK n Y λad E=>(I ad E).2.2,S,W,V,λad E=>⟨(I ad E).1,rZ (I ad E).2.1 G.size,k ad (I ad E).2.1 (I ad E).2.2⟩⟩
 .
  have e:i=cs.length:=by
   have:=Ap c;simp at this
   omega
  subst e;obtain rfl:=by simpa using c
  exact⟨a,cap,by rw[<-T];simp,VK aI Y λad E=>(O ad E).2.2,aB,ap,aN,λad E=>⟨(O ad E).1,rZ (O ad E).2.1 G.size,k ad (O ad E).2.1 (O ad E).2.2⟩⟩
 obtain V|W:=nR i xs.length
 .
  rw[č V]at U;refine(h.b i x U).block λad n c k=>?_
  obtain⟨l,c,-⟩:=Ao cs i N;obtain⟨a',X,e,-,-,-,-,I⟩:=h.d i l c;rw[U,k]at e;cases e
  obtain⟨-,e,c⟩:=I ad J;exact Y.block _ e c
 rw[Ţ W]at U;have c:i-xs.length=0:=by
  have:=Ap U;simp at this
  omega
 rw[c]at U;cases U
 refine aC.block λad n c k=>?_
 cases k
 exact Y.block _ (O ad J).2.1 (O ad J).2.2
def Tryz.U:(sr.info? 52).map (λi=>(i.zero,i.size,i.bytes))=A (A (.sn),1,24):=kr
def Tu (w:M)(t ty e:tI) i(z:Vl)(Y:P.underlying t=A (.slice e))(Z:P.info? e=A i)(am:i.zero=A z)(ac:i.size=1)(ap:i.bytes=8)(aw:z.cells.size=1)
  (O:oA) U(E:lZ)(aq:Bc w O E)(aa:O=sA->E=[]/\U=0)(aN:E.length<=1000):
  ∃a cap w',(Builtin.append_ #[t,t] ty #[.sn,.slice O E.length U]).run P w=.ok (.slice a E.length cap) w'/\Bc w' a E/\E.length<=cap/\cap<=s7/\zW w w'/\(a=sA->E=[]/\cap=0)/\∀ad,a=A ad->w.heap.size<=ad.block/\Ju w' e (.slice a E.length cap):=by
 cases O with
 |none=>
  obtain⟨rfl,rfl⟩:=aa J;exact⟨sA,0,w,run_append_owned_none (P:=P) w w.z t ty e i 1 Y Z (.sn) 0 [] (Ĉ _ _ _ _),.inl J,lr,by simp[s7],br,λ_=>⟨J,J⟩,nofun⟩
 |some ad=>
  have g:∀j u,(É E)[j]? = A u->w.cell? (ad.add j)=A u:=by
   intro j u G;obtain rfl|⟨b,off,e',-,b⟩:=aq
   simp[É]at G
   cases e'
   rw[κ];simp only[É,τ]at G;cases V:E[j]? with
   |none=>rw[V]at G;cases G
   |some x=>
    rw[V]at G;rw[b j x V];simpa using G
  let⟨v',w',hrun,I,k,h⟩:=run_append_own (P:=P) w w.z t ty e i z 1 8 Y Z am ac ap aw dc (.sn) 0 [] (Ĉ _ _ _ _) ad E.length U (É E) (by rw[Jl,jL]) g (Ff _) (by unfold s7;omega) N lr;rw[Ă,List.nil_append]at I;have j:=λg (b:v'.ownBlock=A g)=>(AC I b).1
  have b:=λe=>Ğ.1 (h.1 e).2
  have u:=OL I;obtain⟨a,cap,rfl,h,b,g⟩:=fQ I;refine⟨a,cap,w',hrun,g,h,b,br.grown k lr (nofun),λe=>?_,λad h=>?_⟩
  .
   subst e;obtain⟨-,⟨e,k⟩|⟨g,b,cur,e,-⟩⟩:=I
   .
    injection e with b b b
    exact⟨Ğ.1 k,b⟩
   cases e
  subst h;exact⟨j ad.block J,u⟩
def P7 (w:M){ops:aO}{rest o a}{Q:Exit->Act->M->Prop}(G:o.guard=sA) s x(t:tI)
  (I:o.op=.call {callee:=.builtin .append,args:=#[s,x],argTypes:=#[t,t]})
  (e:tI) i(z:Vl)(ht:P.underlying t=A (.slice e))(hi:P.info? e=A i)(hz:i.zero=A z)(hsize:i.size=1)(hby:i.bytes=8)(hzs:z.cells.size=1)
  (na:oA) ncap n(ns:lZ)(hnn:ns.length=n)(hs:a.eval s=.sn)(hx:a.eval x=.slice na n ncap)(hl:Bc w na ns)(hna:na=sA->ns=[]/\ncap=0)(hn:n<=1000)
  (hK:∀a' E w',Bc w' a' ns/\n<=E/\E<=s7/\zW w w'/\(a'=sA->ns=[]/\E=0)/\(∀ad,a'=A ad->w.heap.size<=ad.block/\Ju w' e (.slice a' n E))->wpList P ops Q rest (a.put o.dst (.slice a' n E)) w'):wpList P ops Q (o::rest) a w:=by
 subst hnn;refine wpList_plain G λK U=>?_
 let⟨O,cap,w',hrun,g⟩:=Tu (P:=P) w t o.type e i z ht hi hz hsize hby hzs na ncap ns hl hna hn;unfold Oper.wp;simp[execOp,I,resolve,invoke,builtin,hs,hx,hrun,Result.andThen]
 exact U _ _ (hK O cap w' g)
def qc{G:lZ}(h:Bc w a G)(I:Ç S w w')(O:∀ad,a=A ad->¬S ad.block):Bc w' a G:=by
 obtain rfl|⟨b,off,rfl,E,U⟩:=h
 exact .inl J
 have Y:=O _ J;exact .inr ⟨b,off,J,rZ E I.h,λi x V=>by rw[I.E (p:=(C b (off+i))) E Y];exact U i x V⟩
end Go.Proofs.YtaoikkhlnhfkfaaGreatDoor
