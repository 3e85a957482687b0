import Derived.Test.YtejlihcdfffafaaGreatDoorP14
set_option maxHeartbeats 4000000
set_option maxRecDepth 100000
namespace Go.Proofs.YtejlihcdfffafaaGreatDoor
open Go.RowKit
theorem RU (S:lI->lI->Int->lI->Prop)(b3:Jf S)
  (bw:∀(bT J:oA)(b7 ad:Nat)(aj Y:lI)(w:World),AQ w bT aj->AQ w J Y->Ak aj->Ak Y->Calls Tryz.prog 37 #[.slice bT aj.length b7,.slice J Y.length ad] w fun e w'=>∃ a cap z L,e=.returned (.tuple #[.slice a L.length cap,.int .i64 z])/\S aj Y z L/\AQ w' a L/\L.length<=cap/\cap<=maxLen/\zW w w')
  (bs:oA) (ac:Nat) (cs:List lI) (kb:ByteArray) (per:Int) (ai:oA) (r U:Nat) (w:World) (a8:Hf w bs cs) (bl:cs.length=8) (bp:Cj cs 8) :
  Calls Tryz.prog 27 #[.agg #[.slice bs cs.length ac,.string kb,.int .i64 per,.slice ai r U]] w fun e w'=>AllEnd S cs w e w':=by
 have O:=qY b3 bp.ok;have b5:=qX bw;obtain⟨b,Z,rfl,-,a9⟩:=a8.place (by omega);have bq:Hid (∀(i:Nat),i<8->∃ Q cap,w.cell? ⟨b,Z+i,none⟩=some (.slice Q (Ae cs i).length cap)/\AQ w Q (Ae cs i)/\(Ae cs i).length<=cap/\cap<=maxLen):=fun i cq=>by
  obtain⟨ls,bt,-⟩:=Ab cs i (by omega);obtain⟨Q,cap,cb,ch,b6,b9,-⟩:=a9 i ls bt;rw[Cx bt];exact⟨Q,cap,cb,ch,b6,b9⟩
 have I:zW w (w.alloc (.cells #[.slice (some ⟨b,Z,none⟩) 8 ac,.string kb,.int .i64 per,.slice ai r U] 41)):=ba;have V:=Dk w (.slice (some ⟨b,Z,none⟩) 8 ac) kb per (.slice ai r U) 41;obtain⟨aS,b'⟩:=ex (w.alloc (.cells #[.slice (some ⟨b,Z,none⟩) 8 ac,.string kb,.int .i64 per,.slice ai r U] 41));rw[b']at I V;have am:=qY I V;have cf:=V.c0;obtain⟨b8,ci,b1,b2,aB,ar⟩:=bq.o 0 (by decide);have a4:=j7 I b1;rw[Nat.add_zero]at a4;have aE:=qZ (b2.below I) aB ar;rw[bl];obtain⟨q,ap⟩:=ex ((Ae cs 0).length);have a7:=qX ap;have co:q<=9223372036854775807:=by have:=qI aB ar;unfold maxLen at this;omega
 rw[ap]at a4;clear b3 bw a8 bl bp a9 I V b1 b2 aB ar ap;go_in
 by_cases bx:q=0
 ·
  subst bx;have E:Hid (AllEnd S cs w (.returned (.tuple #[.slice none 0 0,.bool false])) aS):=⟨am.o.1,.inl ⟨.inl (qN.1 a7.o),rfl⟩⟩
  go_wp2
  go_ret2;exact E.o
 have cl:decide ((q:Int)=0)=false:=qF (by omega);have cu:((q:Int)==0)=false:=by simp;omega
 have W:Hid (Ae cs 0≠[]):=fun e=>bx (by rw[<- a7.o,e];rfl)
 go_wp2_with fail;go_loopw [4,5] (fun v i wr=>∃(k:Nat)(a:oA)(cap:Nat)(L:lI),1<=k/\k<=8/\i=.int .i64 k/\v=.slice a L.length cap/\Gm S cs k L/\AQ wr a L/\L.length<=cap/\cap<=maxLen/\zW aS wr) (fun _ i _=>8-(intOf i).toNat)
 case atStart=>exact⟨1,b8,ci,Ae cs 0,by omega,by omega,rfl,by rw[a7.o],rfl,aE.o.1,aE.o.2.1,aE.o.2.2,br⟩
 case round=>
  obtain⟨k,a,cap,L,al,a2,rfl,rfl,an,be,bh,bc,K⟩:=hrel;have h:Hid (Gm S cs k L/\AQ wr a L/\L.length<=cap/\cap<=maxLen/\zW w wr/\Ak L):=⟨an,be,bh,bc,am.o.1.tr K,IQ O.o.1 O.o.2 W.o k L a2 an⟩
  have cd:=qX K;have ce:=j7 K am.o.2.c0;obtain⟨m,a6⟩:=ex L.length;have aw:=qX a6;rw[a6];clear an be bh bc K a4 cf a6;by_cases aq:k<8
  ·
   obtain⟨J,ad,bv,bg,bd,bN⟩:=bq.o k aq;have bm:=j7 h.o.2.2.2.2.1 bv;have cg:=qX (bg.below h.o.2.2.2.2.1);obtain⟨t,av⟩:=ex ((Ae cs k).length);have a0:=qX av;have cn:t<=9223372036854775807:=by have:=qI bd bN;unfold maxLen at this;omega
   rw[av]at bm;clear bv bg bd bN av;by_cases b4:t=0
   ·
    subst b4;have E:Hid (AllEnd S cs w (.returned (.tuple #[.slice a m cap,.bool true])) wr):=⟨h.o.2.2.2.2.1,.inr ⟨a,cap,L,⟨W.o,k,al,a2,h.o.1,.inr (qN.1 a0.o)⟩,h.o.2.2.2.2.2,by rw[aw.o],h.o.2.1,h.o.2.2.1,h.o.2.2.2.1⟩⟩
    go_wp2
    go_ret2;exact E.o
   have cm:decide (0<(t:Int))=true:=qM (by omega);have cp:decide (0<t)=true:=qM (by omega);have a1:Hid (Ae cs k≠[]):=fun e=>b4 (by rw[<- a0.o,e];rfl)
   have cj:Hid (Calls Tryz.prog 37 #[.slice a m cap,.slice J t ad] wr fun e w'=>∃ a cap z N,e=.returned (.tuple #[.slice a N.length cap,.int .i64 z])/\S L (Ae cs k) z N/\AQ w' a N/\N.length<=cap/\cap<=maxLen/\zW wr w'):=by
    have cc:Ak (Ae cs k):=by
     rcases O.o.2 k aq with e|e
     · exact absurd e a1.o
     exact e
    have:=b5.o a J cap ad L (Ae cs k) wr h.o.2.1 cg.o h.o.2.2.2.2.2 cc;rwa[aw.o,a0.o]at this
   go_wp2_with fail;refine cj.o.mono ?_
   rintro e ab ⟨bk,a5,z,H,rfl,aN,b0,bb,bj,ao⟩;obtain⟨n1,n2⟩:=O.o.1.num _ _ _ _ aN;have D:Hid (S L (Ae cs k) z H/\AQ ab bk H/\H.length<=a5/\a5<=maxLen/\zW w ab/\zW aS ab):=⟨aN,b0,bb,bj,h.o.2.2.2.2.1.tr ao,cd.o.tr ao⟩
   obtain⟨ct,a3⟩:=ex H.length;have ca:=qX a3;rw[a3];clear aN b0 bb bj ao a3 ce bm;by_cases a':z=0
   ·
    subst a';go_wp2
    go_roundw
    case rel=>exact⟨k+1,bk,a5,H,by omega,by omega,by go_num,by rw[ca.o],Mx h.o.1 a1.o D.o.1,D.o.2.1,D.o.2.2.1,D.o.2.2.2.1,D.o.2.2.2.2.2⟩
    case measure=>simp[intOf];omega
   have ck:decide (0<z)=true:=qM (by omega);have E:Hid (AllEnd S cs w (.returned (.tuple #[.slice none 0 0,.bool false])) ab):=⟨D.o.2.2.2.2.1,.inl ⟨.inr ⟨W.o,k,L,z,H,al,aq,h.o.1,a1.o,D.o.1,a'⟩,rfl⟩⟩
   go_wp2
   go_ret2;exact E.o
  obtain rfl:k=8:=by omega
  have E:Hid (AllEnd S cs w (.returned (.tuple #[.slice a m cap,.bool true])) wr):=⟨h.o.2.2.2.2.1,.inr ⟨a,cap,L,⟨W.o,8,al,a2,h.o.1,.inl rfl⟩,h.o.2.2.2.2.2,by rw[aw.o],h.o.2.1,h.o.2.2.1,h.o.2.2.2.1⟩⟩
  go_wp2
  go_ret2;exact E.o
structure GD (a:Int×Int)(L:lI):Prop where
 same:∀ b,b∈L->b.2=a.2->b≠a->a.1<b.1
 flat:∀ c,c∈L->c.2<a.2->a.1<c.1
 both:∀ b,b∈L->∀ c,c∈L->a.2<b.2->c.2<a.2->(a.1-b.1)*(a.2-c.2)<(c.1-a.1)*(b.2-a.2)
structure E5 (a:Int×Int)(P:lI)(low lowBy:Int)(op:Bool)(high highBy:Int):Prop where
 lowBd:0<=low/\low<=20000/\1<=lowBy/\lowBy<=100000
 highBd : -20000<=high/\high<=20000/\0<=highBy/\highBy<=100000
 isLow:op=true->∃ b,b∈P/\a.2<b.2/\low=a.1-b.1/\lowBy=b.2-a.2
 zero:op=false->low=0
 noLow:op=false->∀ b,b∈P->a.2<b.2->a.1<b.1
 maxLow:∀ b,b∈P->a.2<b.2->b.1<=a.1->(a.1-b.1)*lowBy<=low*(b.2-a.2)
 isHigh:highBy≠0->∃ c,c∈P/\c.2<a.2/\high=c.1-a.1/\highBy=a.2-c.2
 noHigh:highBy=0->∀ c,c∈P->¬c.2<a.2
 minHigh:∀ c,c∈P->c.2<a.2->high*(a.2-c.2)<=(c.1-a.1)*highBy
theorem JU {n1 d1 n2 d2 n3 d3:Int}(D:0<=d1)(h:0<d2)(z:0<=d3)(a:n1*d2<=n2*d1)(b:n2*d3<=n3*d2):n1*d3<=n3*d1:=by
 have s1:=vT a z;have E:=vT b D;have J:n1*d2*d3=d2*(n1*d3):=by simp only[xK,xV]
 have H:n2*d1*d3=n2*d3*d1:=by simp only[xK,xV]
 have I:n3*d2*d1=d2*(n3*d1):=by simp only[xK,xV]
 exact Int.le_of_mul_le_mul_left (show d2*(n1*d3)<=d2*(n3*d1)by omega) h
theorem gG (a:Int×Int):E5 a [] 0 1 false 0 0 where
 lowBd:=by decide
 highBd:=by decide
 isLow h:=by cases h
 zero _:=rfl
 noLow _ b h:=by cases h
 maxLow b h:=by cases h
 isHigh h:=absurd rfl h
 noHigh _ c h:=by cases h
 minHigh c h:=by cases h
section
variable {a b:Int × Int} {P:List (Int × Int)} {low lowBy high highBy:Int} {op:Bool}
theorem M4 (z:E5 a P low lowBy op high highBy)(D:a.2<b.2->a.1<b.1\/(op=true/\(a.1-b.1)*lowBy<=low*(b.2-a.2)))(E:b.2<a.2->highBy≠0/\high*(a.2-b.2)<=(b.1-a.1)*highBy):E5 a (P++[b]) low lowBy op high highBy where
 lowBd:=z.lowBd
 highBd:=z.highBd
 isLow e:=by obtain⟨c,h,r⟩:=z.isLow e;exact⟨c,vI.2 (.inl h),r⟩
 zero:=z.zero
 noLow e c h hl:=by
  rcases vI.1 h with h|h
  · exact z.noLow e c h hl
  rw[vJ.1 h]at hl ⊢;rcases D hl with z|⟨z,-⟩
  · exact z
  rw[e]at z;cases z
 maxLow c h hl hl':=by
  rcases vI.1 h with h|h
  · exact z.maxLow c h hl hl'
  rw[vJ.1 h]at hl hl' ⊢;rcases D hl with z|⟨-,z⟩
  · omega
  exact z
 isHigh e:=by obtain⟨c,h,r⟩:=z.isHigh e;exact⟨c,vI.2 (.inl h),r⟩
 noHigh e c h hl:=by
  rcases vI.1 h with h|h
  · exact z.noHigh e c h hl
  rw[vJ.1 h]at hl;exact(E hl).1 e
 minHigh c h hl:=by
  rcases vI.1 h with h|h
  · exact z.minHigh c h hl
  rw[vJ.1 h]at hl ⊢;exact(E hl).2
theorem Ve (z:E5 a P low lowBy op high highBy)(D:b.2=a.2):E5 a (P++[b]) low lowBy op high highBy:=
 M4 z (fun h=>by omega) (fun h=>by omega)
theorem ak (h:E5 a P low lowBy op high highBy)(E:a.2<b.2)(z:a.1-b.1<0):E5 a (P++[b]) low lowBy op high highBy:=
 M4 h (fun _=>.inl (by omega)) (fun D=>by omega)
theorem Xf (h:E5 a P low lowBy op high highBy)(I:a.2<b.2)(D:0<=a.1-b.1)(z:(a.1-b.1)*lowBy<low*(b.2-a.2)):E5 a (P++[b]) low lowBy op high highBy:=by
 refine M4 h (fun _=>.inr ⟨?_,yJ z⟩) (fun H=>by omega);cases E:op with
 | true=>rfl
 | false=>
  rw[h.zero E,Int.zero_mul]at z;have:=vG D (show 0<=lowBy by have:=h.lowBd;omega);omega
theorem ZG (E:E5 a P low lowBy op high highBy)(J:b.2<a.2)(D:highBy≠0)(z:¬ -(a.1-b.1)*highBy<high * -(b.2-a.2)):E5 a (P++[b]) low lowBy op high highBy:=by
 refine M4 E (fun I=>by omega) (fun _=>⟨D,?_⟩);have H : -(a.1-b.1)=b.1-a.1:=by omega
 have h : -(b.2-a.2)=a.2-b.2:=by omega
 rw[H,h]at z;omega
theorem iR (z:E5 a P low lowBy op high highBy)(J:1<=a.1/\a.1<=20000/\0<=a.2/\a.2<=100000)(I:1<=b.1/\b.1<=20000/\0<=b.2/\b.2<=100000)(E:a.2<b.2)(H:0<=a.1-b.1)(D:low*(b.2-a.2)<=(a.1-b.1)*lowBy):E5 a (P++[b]) (a.1-b.1) (b.2-a.2) true high highBy where
 lowBd:=by omega
 highBd:=z.highBd
 isLow _:=⟨b,by simp,E,rfl,rfl⟩
 zero e:=by cases e
 noLow e:=by cases e
 maxLow c h hl hl':=by
  rcases vI.1 h with h|h
  · exact JU (by omega) (by have:=z.lowBd;omega) (by omega) (z.maxLow c h hl hl') D
  rw[vJ.1 h]at hl hl' ⊢;exact q8 _
 isHigh e:=by obtain⟨c,h,r⟩:=z.isHigh e;exact⟨c,vI.2 (.inl h),r⟩
 noHigh e c h hl:=by
  rcases vI.1 h with h|h
  · exact z.noHigh e c h hl
  rw[vJ.1 h]at hl;omega
 minHigh c h hl:=by
  rcases vI.1 h with h|h
  · exact z.minHigh c h hl
  rw[vJ.1 h]at hl;omega
theorem gD (D:E5 a P low lowBy op high highBy)(Q:1<=a.1/\a.1<=20000/\0<=a.2/\a.2<=100000)(O:1<=b.1/\b.1<=20000/\0<=b.2/\b.2<=100000)(N:b.2<a.2)(E:highBy=0 \/ -(a.1-b.1)*highBy<high * -(b.2-a.2)):E5 a (P++[b]) low lowBy op (-(a.1-b.1)) (-(b.2-a.2)):=by
 have K : -(a.1-b.1)=b.1-a.1:=by omega
 have H : -(b.2-a.2)=a.2-b.2:=by omega
 rw[K,H]at E ⊢;exact {
  lowBd:=D.lowBd
  highBd:=by omega
  isLow:=fun e=>by obtain⟨c,h,r⟩:=D.isLow e;exact⟨c,vI.2 (.inl h),r⟩
  zero:=D.zero
  noLow:=fun e c h z=>by
   rcases vI.1 h with h|h
   · exact D.noLow e c h z
   rw[vJ.1 h]at z;omega
  maxLow:=fun c h z J=>by
   rcases vI.1 h with h|h
   · exact D.maxLow c h z J
   rw[vJ.1 h]at z;omega
  isHigh:=fun _=>⟨b,by simp,N,rfl,rfl⟩
  noHigh:=fun e=>by omega
  minHigh:=fun c h z=>by
   rcases vI.1 h with h|h
   ·
    rcases E with E|E
    · exact absurd z (D.noHigh E c h)
    by_cases I:highBy=0
    · exact absurd z (D.noHigh I c h)
    exact JU (by omega) (by have:=D.highBd;omega) (by omega) (yJ E) (D.minHigh c h z)
   rw[vJ.1 h]at z ⊢;exact q8 _ }
theorem fF (E:E5 a P low lowBy op high highBy)(H:∀ b,b∈P->b.2=a.2->b≠a->a.1<b.1)(D:highBy=0):GD a P:=
 ⟨H,fun c h z=>absurd z (E.noHigh D c h),fun _ _ c h _ z=>absurd z (E.noHigh D c h)⟩
theorem gF (D:E5 a P low lowBy op high highBy)(Z:∀ b,b∈P->b.2=a.2->b≠a->a.1<b.1)(V:highBy≠0)(I:op=false):0<high↔GD a P:=by
 obtain⟨z,Y,hl0,rfl,rfl⟩:=D.isHigh V;constructor
 ·
  intro Q;have E:∀ c,c∈P->c.2<a.2->a.1<c.1:=fun c h N=>by
   have U:=D.minHigh c h N;have O:0<(z.1-a.1)*(a.2-c.2):=Int.mul_pos Q (by omega);have:=Int.pos_of_mul_pos_left (show 0<(c.1-a.1)*(a.2-z.2)by omega) (by omega);omega
  refine⟨Z,E,fun b K c h W H=>?_⟩;have U:=D.noLow I b K W;have O:=E c h H;have ab:(a.1-b.1)*(a.2-c.2)<0:=Int.mul_neg_of_neg_of_pos (by omega) (by omega);have ac:0<(c.1-a.1)*(b.2-a.2):=Int.mul_pos (by omega) (by omega);omega
 intro J;have:=J.flat z Y hl0;omega
theorem gL (z:E5 a P low lowBy op high highBy)(V:∀ b,b∈P->b.2=a.2->b≠a->a.1<b.1)(U:highBy≠0)(ac:op=true):low*highBy<high*lowBy↔GD a P:=by
 obtain⟨h,Z,hl0,rfl,rfl⟩:=z.isHigh U;obtain⟨D,ad,am,rfl,rfl⟩:=z.isLow ac;have Y:=z.lowBd;constructor
 ·
  intro av;have ab:0<h.1-a.1:=by
   have J:0<=(a.1-D.1)*(a.2-h.2):=vG Y.1 (by omega);exact Int.pos_of_mul_pos_left (show 0<(h.1-a.1)*(D.2-a.2)by omega) (by omega)
  have H:∀ c,c∈P->c.2<a.2->a.1<c.1:=fun c E O=>by
   have ap:=z.minHigh c E O;have J:0<(h.1-a.1)*(a.2-c.2):=Int.mul_pos ab (by omega);have:=Int.pos_of_mul_pos_left (show 0<(c.1-a.1)*(a.2-h.2)by omega) (by omega);omega
  refine⟨V,H,fun b N c E aj I=>?_⟩;have J:=H c E I;by_cases K:b.1<=a.1
  ·
   have ai:=z.maxLow b N aj K;have an:=z.minHigh c E I;rcases vV ((a.1-b.1)*(a.2-c.2)) ((c.1-a.1)*(b.2-a.2))with ao|Q
   · exact ao
   exfalso
   have W:=JU (n1:=h.1-a.1) (d1:=a.2-h.2) (n2:=c.1-a.1) (d2:=a.2-c.2) (n3:=a.1-b.1) (d3:=b.2-a.2) (by omega) (by omega) (by omega) an Q;have ar:=JU (n1:=h.1-a.1) (d1:=a.2-h.2) (n2:=a.1-b.1) (d2:=b.2-a.2) (n3:=a.1-D.1) (d3:=D.2-a.2) (by omega) (by omega) (by omega) W ai;omega
  have aw:(a.1-b.1)*(a.2-c.2)<0:=Int.mul_neg_of_neg_of_pos (by omega) (by omega);have aq:0<(c.1-a.1)*(b.2-a.2):=Int.mul_pos (by omega) (by omega);omega
 intro al;exact al.both D ad h Z am hl0
end
def OJ (R:lI):Prop:=R.Pairwise fun a b=>b.2<a.2
theorem MH:∀{R S:lI},OJ R->OJ S->(∀ a,a∈R↔a∈S)->R=S
 | [],[],_,_,_=>rfl
 | [],s::S,_,_,h=>by have:=(h s).2 (qA ..);cases this
 | r::R,[],_,_,h=>by have:=(h r).1 (qA ..);cases this
 | r::R,s::S,K,I,h=>by
  have E:=vN.1 K;have H:=vN.1 I;have e:r=s:=by
   rcases qS.1 ((h r).1 (qA ..))with e|D
   · exact e
   rcases qS.1 ((h s).2 (qA ..))with e|J
   · exact e.symm
   have:=H.1 r D;have:=E.1 s J;omega
  subst e;rw[MH E.2 H.2 fun a=>⟨fun z=>?_,fun z=>?_⟩]
  ·
   rcases qS.1 ((h a).1 (qG _ z))with e|D
   · have:=E.1 a z;rw[e]at this;omega
   exact D
  rcases qS.1 ((h a).2 (qG _ z))with e|D
  · have:=H.1 a z;rw[e]at this;omega
  exact D
theorem aX {R:lI}{x:Int×Int}{k:Nat}(U:OJ R)(Q:∀ j y,j<k->R[j]? = some y->x.2<y.2)(O:∀ y,R[k]? = some y->¬x.2<y.2)(N:∀ y,y∈R->y.2≠x.2):OJ (R.take k++x::R.drop k):=by
 have E:=U;unfold OJ at E ⊢;rw[<- List.take_append_drop k R,List.pairwise_append]at E;have J:∀ y,y∈R.drop k->y.2<x.2:=by
  intro y z;have W:=List.mem_of_mem_drop z;rcases hq:R.drop k with _|⟨H,r⟩
  · rw[hq]at z;cases z
  have D:R[k]? = some H:=by rw[<- List.head?_drop,hq];rfl
  have Y:=O H D;have V:=N H (q9 D);rw[hq]at z;rcases qS.1 z with rfl|z
  · omega
  have:=E.2.1;rw[hq]at this;have:=(vN.1 this).1 y z;omega
 have K:∀ y,y∈R.take k->x.2<y.2:=by
  intro y z;obtain⟨j,I⟩:=xN.1 z;rw[yR]at I;split at I
  · next h=>exact Q j y h I
  cases I
 rw[List.pairwise_append];refine⟨E.1,vN.2 ⟨J,E.2.1⟩,fun y z H D=>?_⟩;rcases qS.1 D with rfl|D
 · exact K y z
 have:=K y z;have:=J H D;omega
def KeptAt (L:lI)(i:Nat)(a:Int×Int):Prop:=GD a L/\∀ k,k<i->L[k]?≠some a
structure GH (L:lI)(i:Nat)(R:lI):Prop where
 falls:OJ R
 len:R.length<=i
 mem:∀ a,a∈R↔GD a L/\∃ k,k<i/\L[k]? = some a
theorem bA (L:lI):GH L 0 []:=⟨List.Pairwise.nil,lr,fun a=>⟨fun h=>(by cases h),fun⟨_,k,z,_⟩=>absurd z (vR _)⟩⟩
theorem aD {L R:lI}{i:Nat}{x:Int×Int}(E:GH L i R)(K:L[i]? = some x)(I:¬KeptAt L i x):GH L (i+1) R:=by
 refine⟨E.falls,Nat.le_succ_of_le E.len,fun a=>(E.mem a).trans ⟨fun⟨z,k,J,e⟩=>⟨z,k,by omega,e⟩,fun⟨z,k,J,e⟩=>⟨z,?_⟩⟩⟩;rcases qC k i with H|H
 · exact⟨k,H,e⟩
 have:k=i:=by omega
 subst this;rw[K]at e;injection e with e
 subst e;rcases Classical.em (∃ h,h<k/\L[h]? = some x)with D|D
 · exact D
 exact absurd ⟨z,fun h O N=>D ⟨h,O,N⟩⟩ I
theorem Ni {L R:lI}{i k:Nat}{x:Int×Int}(E:GH L i R)(I:L[i]? = some x)(H:KeptAt L i x)(D:∀ j y,j<k->R[j]? = some y->x.2<y.2)(O:∀ y,R[k]? = some y->¬x.2<y.2):GH L (i+1) (R.take k++x::R.drop k):=by
 have V:=q9 I;refine⟨aX E.falls D O fun y W e=>?_,?_,fun a=>?_⟩
 ·
  obtain⟨Y,j,U,N⟩:=(E.mem y).1 W;have Q:=q9 N;by_cases J:y=x
  · subst J;exact H.2 j U N
  have ac:=H.1.same y Q e J;have ab:=Y.same x V e.symm (fun e=>J e.symm);omega
 ·
  have:=E.len;simp
  omega
 have e:a∈R.take k++x::R.drop k↔a=x\/a∈R:=by
  rw[vI,qS,<- or_assoc,or_comm (a:=a∈R.take k),or_assoc,<- vI,List.take_append_drop]
 rw[e,E.mem a];constructor
 ·
  rintro(rfl|⟨D,z,Z,h⟩)
  · exact⟨H.1,i,by omega,I⟩
  exact⟨D,z,by omega,h⟩
 rintro⟨D,z,Z,h⟩;rcases qC z i with K|K
 · exact .inr ⟨D,z,K,h⟩
 have:z=i:=by omega
 subst this;rw[I]at h;injection h with h
 exact .inl h.symm
theorem Tryz.lineHeld:Tryz.prog.stoodInHeld 66=false:=by kernel_rfl
theorem Tryz.lineGuard:Tryz.prog.eqGuardType Tryz.prog.depth 66=false:=by kernel_rfl
theorem Tryz.lineFieldsIs:(Tryz.prog.fieldsOf 66).toList=[{ name := "Burst",type:=3,offset:=0,embedded:=false,tag := "",pkgPath := "",byteOffset:=0 },{ name := "Rate",type:=3,offset:=1,embedded:=false,tag := "",pkgPath := "",byteOffset:=8 }]:=by
 simp only[Program.fieldsOf,Tryz.underlying66]
theorem Tryz.lineFields:Tryz.prog.underlying 66=some (.struct (Tryz.prog.fieldsOf 66)):=by
 simp only[Program.fieldsOf,Tryz.underlying66]
theorem Tryz.part0 (w:World)(x y:Int):(part 3 #[.int .i64 x,.int .i64 y] 0).run Tryz.prog w=.ok (.int .i64 x) w:=by kernel_rfl
theorem Tryz.part1 (w:World)(x y:Int):(part 3 #[.int .i64 x,.int .i64 y] 1).run Tryz.prog w=.ok (.int .i64 y) w:=by kernel_rfl
theorem Tryz.eqLine (w:World)(x y h z:Int):(binOp .eql 66 (.agg #[.int .i64 x,.int .i64 y]) (.agg #[.int .i64 h,.int .i64 z])).run Tryz.prog w=.ok (.bool (x==h&&y==z)) w:=by
 rw[run_eql_struct,run_equalIn_struct _ 9999 _ _ _ Tryz.lineFields Tryz.lineHeld,Tryz.lineFieldsIs];have E:("Burst" : String) ≠ "_" := by decide
 have D:("Rate" : String) ≠ "_" := by decide
 simp only[Op.eqFields,if_pos E,if_pos D,Sem.run_bind,Tryz.part0,Tryz.part1,Result.andThen_ok,run_equalIn_int _ 9998 3 .i64 .i64 _ _ Tryz.underlying3,Sem.run_ite,Sem.run_pure];cases x==h <;> cases y==z <;> rfl
structure FT (ls:lI)(i k:Nat)(p:Int×Int)(low lowBy:Int)(op:Bool)(high highBy:Int):Prop where
 lim:E5 p (ls.take k) low lowBy op high highBy
 early:∀ j,j<k->j<i->ls[j]?≠some p
 same:∀ b,b∈ls.take k->b.2=p.2->b≠p->p.1<b.1
theorem Yi (ls:lI)(i:Nat)(p:Int×Int):FT ls i 0 p 0 1 false 0 0:=
 ⟨gG p,fun _ h=>absurd h (vR _),fun _ h=>by simp at h⟩
section
variable {ls:List (Int × Int)} {i k:Nat} {p b:Int × Int} {low lowBy high highBy low' lowBy' high' highBy':Int} {op op':Bool}
theorem FH (K:FT ls i k p low lowBy op high highBy)(I:ls[k]? = some b)(N:E5 p (ls.take k++[b]) low' lowBy' op' high' highBy')(O:b=p->¬k<i)(Q:b.2=p.2->b≠p->p.1<b.1):FT ls i (k+1) p low' lowBy' op' high' highBy':=by
 have e:ls.take (k+1)=ls.take k++[b]:=by rw[vF,I];rfl
 refine⟨by rw[e];exact N,fun j U J z=>?_,fun c h E D=>?_⟩
 ·
  rcases qC j k with H|H
  · exact K.early j H J z
  have:j=k:=by omega
  subst this;rw[I]at z;injection z with z
  exact O z J
 rw[e]at h;rcases vI.1 h with h|h
 · exact K.same c h E D
 rw[vJ.1 h]at E D ⊢;exact Q E D
theorem X7 (h:FT ls i k p low lowBy op high highBy)(E:ls[k]? = some p)(D:¬k<i):FT ls i (k+1) p low lowBy op high highBy:=
 FH h E (Ve h.lim rfl) (fun _=>D) (fun _ z=>absurd rfl z)
theorem IX (h:b.2≠p.2):b=p->¬k<i:=fun e=>absurd (e ▸ rfl) h
theorem X9 (h:FT ls i k p low lowBy op high highBy)(z:ls[k]? = some b)(E:b≠p)(H:b.2=p.2)(D:p.1<b.1):FT ls i (k+1) p low lowBy op high highBy:=
 FH h z (Ve h.lim H) (fun e=>absurd e E) (fun _ _=>D)
theorem VP (h:FT ls i k p low lowBy op high highBy)(D:ls[k]? = some b)(E:p.2<b.2)(z:p.1-b.1<0):FT ls i (k+1) p low lowBy op high highBy:=
 FH h D (ak h.lim E z) (IX (by omega)) (fun e _=>by omega)
theorem UE (h:FT ls i k p low lowBy op high highBy)(D:ls[k]? = some b)(H:p.2<b.2)(z:0<=p.1-b.1)(E:(p.1-b.1)*lowBy<low*(b.2-p.2)):FT ls i (k+1) p low lowBy op high highBy:=
 FH h D (Xf h.lim H z E) (IX (by omega)) (fun e _=>by omega)
theorem bB (D:FT ls i k p low lowBy op high highBy)(h:ls[k]? = some b)(z:Ci ls)(I:p∈ls)(J:p.2<b.2)(E:0<=p.1-b.1)(H:low*(b.2-p.2)<=(p.1-b.1)*lowBy):FT ls i (k+1) p (p.1-b.1) (b.2-p.2) true high highBy:=
 FH D h (iR D.lim (AA (z p I)) (AA (z b (q9 h))) J E H) (IX (by omega)) (fun e _=>by omega)
theorem Qi (D:FT ls i k p low lowBy op high highBy)(h:ls[k]? = some b)(z:Ci ls)(H:p∈ls)(I:b.2<p.2)(E:highBy=0 \/ -(p.1-b.1)*highBy<high * -(b.2-p.2)):FT ls i (k+1) p low lowBy op (-(p.1-b.1)) (-(b.2-p.2)):=
 FH D h (gD D.lim (AA (z p H)) (AA (z b (q9 h))) I E) (IX (by omega)) (fun e _=>by omega)
theorem VJ (h:FT ls i k p low lowBy op high highBy)(z:ls[k]? = some b)(H:b.2<p.2)(E:highBy≠0)(D:¬ -(p.1-b.1)*highBy<high * -(b.2-p.2)):FT ls i (k+1) p low lowBy op high highBy:=
 FH h z (ZG h.lim H E D) (IX (by omega)) (fun e _=>by omega)
theorem TC (D:ls[k]? = some p)(z:k<i):¬KeptAt ls i p:=fun h=>h.2 k z D
theorem U0 (h:ls[k]? = some b)(z:b≠p)(E:b.2=p.2)(H:b.1<=p.1):¬KeptAt ls i p:=fun D=>by
 have:=D.1.same b (q9 h) E z;omega
theorem aa (h:FT ls i ls.length p low lowBy op high highBy)(J:i<=ls.length):E5 p ls low lowBy op high highBy/\(∀ b,b∈ls->b.2=p.2->b≠p->p.1<b.1)/\(GD p ls↔KeptAt ls i p):=by
 have D:=h.lim;have z:=h.same;rw[xA]at D z;exact⟨D,z,⟨fun E=>⟨E,fun j I=>h.early j (by omega) I⟩,fun H=>H.1⟩⟩
end
theorem RY {a b:Int}(H : -20000<=a)(D:a<=20000)(E : -100000<=b)(I:b<=100000) : -2000000000<=a*b/\a*b<=2000000000:=by
 have J:=Int.natAbs_mul a b;have z:a.natAbs<=20000:=by omega
 have h:b.natAbs<=100000:=by omega
 have:=Nat.mul_le_mul z h;omega
def gM (ls:lI)(i:Nat)(p:Int×Int)(w w':World)(e:Ending):Prop:=∃ v,e=.returned (.bool v)/\(v=true↔KeptAt ls i p)/\zW w w'
theorem Po {ls:lI}{i:Nat}{p:Int×Int}{w w':World}{e:Ending}(v:Bool)(z:e=.returned (.bool v))(h:v=true↔KeptAt ls i p)(D:zW w w'):gM ls i p w w' e:=⟨v,z,h,D⟩
theorem S9 (a:oA)(cap i:Nat)(ls:lI)(h z:Int)(w:World)(ar:AQ w a ls)(W:ls[i]? = some (h,z))(b8:ls.length<=1000)(aj:Ci ls):Calls Tryz.prog 83 #[.slice a ls.length cap,.int .i64 i] w fun e w'=>gM ls i (h,z) w w' e:=by
 have bT:i<ls.length:=(vK.1 W).1;have an:(h,z)∈ls:=q9 W;obtain⟨b,b5,rfl,b',Z⟩:=ar.some (by omega);have ap:=(Z i h z W).1;have a':=(Z i h z W).2;have V:=qY aj an;obtain⟨bw,bl,bs,bN⟩:=AA (aj _ an);simp only[]at bw bl bs bN;have q:=Tryz.eqLine;have g:=fun(w:World) ao x y xs bp=>run_eqGuard_agg (P:=Tryz.prog) w ao 66 x y xs bp Tryz.lineGuard
 have al:Hid (zW w (w.alloc (.cells #[.int .i64 h,.int .i64 z] 66))):=ba;have a6:=qX Z;clear ar aj an W Z;go_in
 go_wp2_with fail;go_loopw [5,6,7,8,9,11] (fun bd bm ao bq Q j wr=>∃(k:Nat)(I H:Int)(o:Bool)(high D:Int),k<=ls.length/\bd=.int .i64 I/\bm=.int .i64 H/\ao=.bool o/\bq=.int .i64 high/\Q=.int .i64 D/\j=.int .i64 k/\FT ls i k (h,z) I H o high D/\wr.cell? ⟨w.heap.size,0,none⟩=some (.int .i64 h)/\wr.cell? ⟨w.heap.size,1,none⟩=some (.int .i64 z)/\zW w wr) (fun _ _ _ _ _ j _=>ls.length-(intOf j).toNat)
 case atStart=>exact⟨0,0,1,false,0,0,qR _,rfl,rfl,rfl,rfl,rfl,rfl,Yi _ _ _,by simp,by simp,al.o⟩
 case round=>
  obtain⟨k,I,H,o,high,D,b6,rfl,rfl,rfl,rfl,rfl,rfl,ac,d1,d2,Q⟩:=hrel;have O:=qX ac;obtain⟨b2,a8,b0,bb⟩:=ac.lim.lowBd;obtain⟨aE,a2,b9,aS⟩:=ac.lim.highBd;have ad:=qX Q;have bh:=Q.size;have b7:=Cg d1;clear ac;by_cases bj:k<ls.length
  ·
   obtain⟨⟨x,y⟩,ai,a5⟩:=Ab ls k bj;obtain⟨bk,bv,bx,bt⟩:=AA (V.o.1 _ a5);simp only[]at bk bv bx bt;have K:=qX ai;have bc:=j7 Q (a6.o k x y ai).1;have a3:=j7 Q (a6.o k x y ai).2;have J:Hid (zW w (wr.alloc (.cells #[.int .i64 x,.int .i64 y] 66))):=ad.o.alloc bh _;clear ai a5 Q;clear al ap a';by_cases Y:x=h/\y=z
   ·
    obtain⟨rfl,rfl⟩:=Y;by_cases av:k<i
    ·
     go_wp2
     go_ret;exact Po false rfl (⟨fun E=>(by cases E),fun E=>absurd E (TC K.o av)⟩) J.o
    go_wp2
    go_roundw
    case measure=>simp[intOf];omega
    case rel=>exact⟨k+1,I,H,o,high,D,by omega,rfl,rfl,rfl,rfl,rfl,by go_num,X7 O.o K.o av,j7 ba d1,j7 ba d2,J.o⟩
   have a7:Hid ((x,y)≠(h,z)):=fun e=>Y (by injection e with bc a3;exact⟨bc,a3⟩)
   by_cases aN:y=z
   ·
    subst aN;have b3:(x==h)=false:=by
     rcases Bool.eq_false_or_eq_true (x==h)with E|E
     · exact absurd ⟨eq_of_beq E,rfl⟩ Y
     exact E
    clear Y;by_cases be:x<=h
    ·
     go_wp2
     go_ret;exact Po false rfl (⟨fun E=>(by cases E),fun E=>absurd E (U0 K.o a7.o rfl be)⟩) J.o
    go_wp2
    go_roundw
    case measure=>simp[intOf];omega
    case rel=>exact⟨k+1,I,H,o,high,D,by omega,rfl,rfl,rfl,rfl,rfl,by go_num,X9 O.o K.o a7.o rfl (show h<x by omega),j7 ba d1,j7 ba d2,J.o⟩
   have b4:(y==z)=false:=by
    rcases Bool.eq_false_or_eq_true (y==z)with E|E
    · exact absurd (eq_of_beq E) aN
    exact E
   clear Y;by_cases hgt:z<y
   ·
    obtain⟨a4,a9⟩:=RY (show -20000<=h-x by omega) (show h-x<=20000 by omega) (show -100000<=H by omega) bb;obtain⟨aw,aB⟩:=RY (show -20000<=I by omega) a8 (show -100000<=y-z by omega) (show y-z<=100000 by omega);by_cases bg:h-x<0
    ·
     go_wp2
     go_roundw
     case measure=>simp[intOf];omega
     case rel=>exact⟨k+1,I,H,o,high,D,by omega,rfl,rfl,rfl,rfl,rfl,by go_num,VP O.o K.o hgt bg,j7 ba d1,j7 ba d2,J.o⟩
    by_cases ab:I*(y-z)<=(h-x)*H
    ·
     go_wp2
     go_roundw
     case measure=>simp[intOf];omega
     case rel=>exact⟨k+1,h-x,y-z,true,high,D,by omega,rfl,rfl,rfl,rfl,rfl,by go_num,bB O.o K.o V.o.1 V.o.2 hgt (show 0<=h-x by omega) ab,j7 ba d1,j7 ba d2,J.o⟩
    go_wp2
    go_roundw
    case measure=>simp[intOf];omega
    case rel=>exact⟨k+1,I,H,o,high,D,by omega,rfl,rfl,rfl,rfl,rfl,by go_num,UE O.o K.o hgt (show 0<=h-x by omega) (show(h-x)*H<I*(y-z)by omega),j7 ba d1,j7 ba d2,J.o⟩
   have am:y<z:=by omega
   obtain⟨a4,a9⟩:=RY (show -20000 <= -(h-x)by omega) (show -(h-x)<=20000 by omega) (show -100000<=D by omega) aS;obtain⟨aw,aB⟩:=RY aE a2 (show -100000 <= -(y-z)by omega) (show -(y-z)<=100000 by omega);by_cases U:D=0
   ·
    have b1:(D==0)=true:=by rw[U];rfl
    go_wp2
    go_roundw
    case measure=>simp[intOf];omega
    case rel=>exact⟨k+1,I,H,o,-(h-x),-(y-z),by omega,rfl,rfl,rfl,rfl,rfl,by go_num,Qi O.o K.o V.o.1 V.o.2 am (.inl U),j7 ba d1,j7 ba d2,J.o⟩
   by_cases ab : -(h-x)*D<high * -(y-z)
   ·
    go_wp2
    go_roundw
    case measure=>simp[intOf];omega
    case rel=>exact⟨k+1,I,H,o,-(h-x),-(y-z),by omega,rfl,rfl,rfl,rfl,rfl,by go_num,Qi O.o K.o V.o.1 V.o.2 am (.inr ab),j7 ba d1,j7 ba d2,J.o⟩
   go_wp2
   go_roundw
   case measure=>simp[intOf];omega
   case rel=>exact⟨k+1,I,H,o,high,D,by omega,rfl,rfl,rfl,rfl,rfl,by go_num,VJ O.o K.o am U ab,j7 ba d1,j7 ba d2,J.o⟩
  obtain rfl:k=ls.length:=by omega
  obtain⟨a0,a1,aq⟩:=aa O.o (by omega);have N:=qZ a0 a1 aq;obtain⟨a4,a9⟩:=RY (show -20000<=I by omega) a8 (show -100000<=D by omega) aS;obtain⟨aw,aB⟩:=RY aE a2 (show -100000<=H by omega) bb;clear a0 a1 aq Q al ap a';by_cases U:D=0
  ·
   go_wp2
   go_ret;exact Po true rfl (⟨fun _=>N.o.2.2.1 (fF N.o.1 N.o.2.1 U),fun _=>rfl⟩) ad.o
  cases o with
  | false=>
   go_wp2
   go_ret;exact Po _ rfl (by rw[decide_eq_true_iff];exact(gF N.o.1 N.o.2.1 U rfl).trans N.o.2.2) ad.o
  | true=>
   go_wp2
   go_ret;exact Po _ rfl (by rw[decide_eq_true_iff];exact(gL N.o.1 N.o.2.1 U rfl).trans N.o.2.2) ad.o
theorem Xu (h high:Int)(ac W:Value)(p:Int->Bool)(w0 w:World)(am:zW w0 w)(an:0<=h)(ai:h<=high)(ao:high<=1099511627777)
  (Y:∀(n:Int)(N:World),h<=n->n<high->zW w0 N->Calls Tryz.prog 42 #[.int .i64 n,ac,W] N fun e w'=>e=.returned (.bool (p n))/\zW N w') :
  Calls Tryz.prog 41 #[.int .i64 h,.int .i64 high,.func (.func 42) #[] #[ac,W]] w fun e w'=>∃ r:Int,e=.returned (.int .i64 r)/\h<=r/\r<=high/\(r=high\/p r=true)/\(r=h\/p (r-1)=false)/\zW w0 w':=by
 have ab:=qX Y;clear Y;go_in
 go_wp2_with fail;go_loopw [0,1] (fun l O wr=>∃ a b:Int,l=.int .i64 a/\O=.int .i64 b/\h<=a/\a<=b/\b<=high/\(b=high\/p b=true)/\(a=h\/p (a-1)=false)/\zW w0 wr) (fun l O _=>(intOf O-intOf l).toNat)
 case atStart=>exact⟨h,high,rfl,rfl,q8 _,ai,q8 _,.inl rfl,.inl rfl,am⟩
 case round=>
  obtain⟨a,b,rfl,rfl,V,aq,ad,I,J,H⟩:=hrel;have z:=qZ I J H;clear I J H;by_cases ap:a<b
  ·
   obtain⟨m,Z⟩:=ex (a+(b-a)/2);have al:a<=m:=by omega
   have ar:m<b:=by omega
   have U:=qX Z;clear Z;cases K:p m with
   | true=>
    have D:=qX K;clear K;go_wp2_with fail;rw[U.o];refine(ab.o m _ (by omega) (by omega) z.o.2.2).mono ?_
    rintro e aj ⟨rfl,E⟩;rw[D.o];have Q:=qX (z.o.2.2.tr E);clear E;go_wp2
    go_roundw
    case rel=>exact⟨a,m,rfl,rfl,V,al,by omega,.inr D.o,z.o.2.1,Q.o⟩
    case measure=>simp[intOf];omega
   | false=>
    have D:=qX K;clear K;go_wp2_with fail;rw[U.o];refine(ab.o m _ (by omega) (by omega) z.o.2.2).mono ?_
    rintro e aj ⟨rfl,E⟩;rw[D.o];have Q:=qX (z.o.2.2.tr E);clear E;go_wp2
    go_roundw
    case rel=>exact⟨m+1,b,rfl,rfl,by omega,by omega,ad,z.o.1,.inr (by rw[show m+1-1=m by omega];exact D.o),Q.o⟩
    case measure=>simp[intOf];omega
  go_wp2
  go_ret;obtain⟨I,J,H⟩:=z.o;have e:a=b:=by omega
  subst e;exact⟨a,rfl,V,ad,I,J,H⟩
theorem Xn (h high:Int)(ac W:Value)(p:Int->Bool)(w0 w:World)(am:zW w0 w)(an:0<=h)(ai:h<=high)(ao:high<=1099511627777)
  (Y:∀(n:Int)(N:World),h<=n->n<high->zW w0 N->Calls Tryz.prog 62 #[.int .i64 n,ac,W] N fun e w'=>e=.returned (.bool (p n))/\zW N w') :
  Calls Tryz.prog 41 #[.int .i64 h,.int .i64 high,.func (.func 62) #[] #[ac,W]] w fun e w'=>∃ r:Int,e=.returned (.int .i64 r)/\h<=r/\r<=high/\(r=high\/p r=true)/\(r=h\/p (r-1)=false)/\zW w0 w':=by
 have ab:=qX Y;clear Y;go_in
 go_wp2_with fail;go_loopw [0,1] (fun l O wr=>∃ a b:Int,l=.int .i64 a/\O=.int .i64 b/\h<=a/\a<=b/\b<=high/\(b=high\/p b=true)/\(a=h\/p (a-1)=false)/\zW w0 wr) (fun l O _=>(intOf O-intOf l).toNat)
 case atStart=>exact⟨h,high,rfl,rfl,q8 _,ai,q8 _,.inl rfl,.inl rfl,am⟩
 case round=>
  obtain⟨a,b,rfl,rfl,V,aq,ad,I,J,H⟩:=hrel;have z:=qZ I J H;clear I J H;by_cases ap:a<b
  ·
   obtain⟨m,Z⟩:=ex (a+(b-a)/2);have al:a<=m:=by omega
   have ar:m<b:=by omega
   have U:=qX Z;clear Z;cases K:p m with
   | true=>
    have D:=qX K;clear K;go_wp2_with fail;rw[U.o];refine(ab.o m _ (by omega) (by omega) z.o.2.2).mono ?_
    rintro e aj ⟨rfl,E⟩;rw[D.o];have Q:=qX (z.o.2.2.tr E);clear E;go_wp2
    go_roundw
    case rel=>exact⟨a,m,rfl,rfl,V,al,by omega,.inr D.o,z.o.2.1,Q.o⟩
    case measure=>simp[intOf];omega
   | false=>
    have D:=qX K;clear K;go_wp2_with fail;rw[U.o];refine(ab.o m _ (by omega) (by omega) z.o.2.2).mono ?_
    rintro e aj ⟨rfl,E⟩;rw[D.o];have Q:=qX (z.o.2.2.tr E);clear E;go_wp2
    go_roundw
    case rel=>exact⟨m+1,b,rfl,rfl,by omega,by omega,ad,z.o.1,.inr (by rw[show m+1-1=m by omega];exact D.o),Q.o⟩
    case measure=>simp[intOf];omega
  go_wp2
  go_ret;obtain⟨I,J,H⟩:=z.o;have e:a=b:=by omega
  subst e;exact⟨a,rfl,V,ad,I,J,H⟩
end Go.Proofs.YtejlihcdfffafaaGreatDoor
