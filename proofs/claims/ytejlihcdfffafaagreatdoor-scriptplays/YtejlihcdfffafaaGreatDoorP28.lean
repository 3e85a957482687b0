import Derived.Test.YtejlihcdfffafaaGreatDoorP26
import Derived.Test.YtejlihcdfffafaaGreatDoorP27
import Derived.Test.YtejlihcdfffafaaGreatDoorP14
set_option maxHeartbeats 8000000
set_option maxRecDepth 100000
namespace Go.Proofs.YtejlihcdfffafaaGreatDoor
open Go.RowKit
def UD (k:Nat)(per:Int)(ps:List Pk)(ns:List Int)(w:World)(e:Ending)(w':World):Prop:=∃ v l,e=.returned v/\DX w' w.heap.size v l/\Cn k per ps ns l/\zW w w'
theorem TE (aN:Value)(kb:ByteArray)(per:Int)(V:oA)(Y:Nat)(ns:List Int)(W:oA)(ab:Nat)(ps:List Pk)(w:World)(a8:1<=kindOf kb.toList)(a2:AR w V ns)(aS:DL (kindOf kb.toList) ns 0)(a5:Aw w W ps)(a1:Al ps)(aq:1<=per)(aw:per<=1000)(a9:∃ a n c,aN=.slice a n c):Calls Tryz.prog 31 #[.agg #[aN,.string kb,.int .i64 per,.slice V ns.length Y],.slice W ps.length ab] w fun e w'=>UD (kindOf kb.toList) per ps ns w e w':=by
 obtain⟨a7,a4,a3,rfl⟩:=a9;have a0:=JK kb;have N:=qZ a5 a2 a1;have ar:=qX aS;have a':=Ew kb.toList;obtain⟨k,aE⟩:=ex (kindOf kb.toList);rw[aE]at a0 ar a8 a';rw[aE];have a6:zW w (w.alloc (.cells #[.slice a7 a4 a3,.string kb,.int .i64 per,.slice V ns.length Y] 41)):=ba;obtain⟨ao,an,aB,av⟩:=Dk w (.slice a7 a4 a3) kb per (.slice V ns.length Y) 41;have E:=qX a6;obtain⟨ai,al,ad,ac,aj,u1,u2,u3,u4,u5⟩:=a0;clear a2 aS a5 a1 aE a6;rcases(show k=1\/k=2\/k=3\/k=4\/k=5 by omega)with rfl|rfl|rfl|rfl|rfl
 ·
  replace ai:(kb.toList==[102,105,102,111])=true:=ai;replace u1:(kb.toList==ByteArray.toList ⟨#[102,105,102,111]⟩)=true:=u1;replace al:(kb.toList==[114,97,110,107])=false:=al;replace u2:(kb.toList==ByteArray.toList ⟨#[114,97,110,107]⟩)=false:=u2;replace ad:(kb.toList==[100,117,101])=false:=ad;replace u3:(kb.toList==ByteArray.toList ⟨#[100,117,101]⟩)=false:=u3;replace ac:(kb.toList==[114,111,117,110,100])=false:=ac;replace u4:(kb.toList==ByteArray.toList ⟨#[114,111,117,110,100]⟩)=false:=u4;replace aj:(kb.toList==[102,97,105,114])=false:=aj;replace u5:(kb.toList==ByteArray.toList ⟨#[102,97,105,114]⟩)=false:=u5;have O:Hid (∀ h,zW w h->Calls Tryz.prog 50 #[.slice W ps.length ab,.int .i64 per] h fun e w'=>Pm per ps h e w'):=fun h U=>Xt W ab ps per h (N.o.1.below U) N.o.2.2 aq aw
  obtain⟨m,I⟩:=ex ps.length;obtain⟨r,D⟩:=ex ns.length;rw[I]at O;rw[D]at ao an aB av E;rw[I,D];clear I D;go_in
  go_wp2_with fail;refine(O.o _ E.o).mono ?_
  rintro e K ⟨v,rfl,Q,J⟩;have H:Hid (DX K w.heap.size v (BZ per ps ps.length)/\Cn 1 per ps ns (BZ per ps ps.length)/\zW w K):=⟨Bb Q E.o.size,.inl ⟨rfl,rfl⟩,E.o.tr J⟩
  clear J Q;go_wp2
  go_ret;exact⟨v,_,rfl,H.o.1,H.o.2.1,H.o.2.2⟩
 ·
  replace ai:(kb.toList==[102,105,102,111])=false:=ai;replace u1:(kb.toList==ByteArray.toList ⟨#[102,105,102,111]⟩)=false:=u1;replace al:(kb.toList==[114,97,110,107])=true:=al;replace u2:(kb.toList==ByteArray.toList ⟨#[114,97,110,107]⟩)=true:=u2;replace ad:(kb.toList==[100,117,101])=false:=ad;replace u3:(kb.toList==ByteArray.toList ⟨#[100,117,101]⟩)=false:=u3;replace ac:(kb.toList==[114,111,117,110,100])=false:=ac;replace u4:(kb.toList==ByteArray.toList ⟨#[114,111,117,110,100]⟩)=false:=u4;replace aj:(kb.toList==[102,97,105,114])=false:=aj;replace u5:(kb.toList==ByteArray.toList ⟨#[102,97,105,114]⟩)=false:=u5;have am:Hid (DF 0 100 ns):=by
   rcases ar.o with⟨z,-⟩|⟨-,z⟩|⟨z,-⟩|⟨z,-⟩|⟨z,-⟩
   case inr.inl=>exact z.ok
   all_goals omega
  have O:Hid (∀ h,zW w h->Calls Tryz.prog 46 #[.slice W ps.length ab,.int .i64 per,.slice V ns.length Y] h fun e w'=>EI per ps (Bz ps ns) h e w'):=fun h U=>XG W ab ps per V Y ns h (N.o.1.below U) (N.o.2.1.below U) N.o.2.2 am.o.len aq aw
  obtain⟨m,I⟩:=ex ps.length;obtain⟨r,D⟩:=ex ns.length;rw[I,D]at O;rw[D]at ao an aB av E;rw[I,D];clear I D;go_in
  go_wp2_with fail;refine(O.o _ E.o).mono ?_
  rintro e K ⟨v,l,rfl,Q,Z,ap,J⟩;have H:Hid (DX K w.heap.size v (l)/\Cn 2 per ps ns (l)/\zW w K):=⟨Bb Q E.o.size,.inr (.inl ⟨rfl,Z,ap⟩),E.o.tr J⟩
  clear J Q Z ap;go_wp2
  go_ret;exact⟨v,_,rfl,H.o.1,H.o.2.1,H.o.2.2⟩
 ·
  replace ai:(kb.toList==[102,105,102,111])=false:=ai;replace u1:(kb.toList==ByteArray.toList ⟨#[102,105,102,111]⟩)=false:=u1;replace al:(kb.toList==[114,97,110,107])=false:=al;replace u2:(kb.toList==ByteArray.toList ⟨#[114,97,110,107]⟩)=false:=u2;replace ad:(kb.toList==[100,117,101])=true:=ad;replace u3:(kb.toList==ByteArray.toList ⟨#[100,117,101]⟩)=true:=u3;replace ac:(kb.toList==[114,111,117,110,100])=false:=ac;replace u4:(kb.toList==ByteArray.toList ⟨#[114,111,117,110,100]⟩)=false:=u4;replace aj:(kb.toList==[102,97,105,114])=false:=aj;replace u5:(kb.toList==ByteArray.toList ⟨#[102,97,105,114]⟩)=false:=u5;have am:Hid (DF 0 1099511627776 ns):=by
   rcases ar.o with⟨z,-⟩|⟨z,-⟩|⟨-,z⟩|⟨z,-⟩|⟨z,-⟩
   case inr.inr.inl=>exact z.ok
   all_goals omega
  have O:Hid (∀ h,zW w h->Calls Tryz.prog 47 #[.slice W ps.length ab,.int .i64 per,.slice V ns.length Y] h fun e w'=>EI per ps (BP ps ns) h e w'):=fun h U=>Xk W ab ps per V Y ns h (N.o.1.below U) (N.o.2.1.below U) N.o.2.2 am.o aq aw
  obtain⟨m,I⟩:=ex ps.length;obtain⟨r,D⟩:=ex ns.length;rw[I,D]at O;rw[D]at ao an aB av E;rw[I,D];clear I D;go_in
  go_wp2_with fail;refine(O.o _ E.o).mono ?_
  rintro e K ⟨v,l,rfl,Q,Z,ap,J⟩;have H:Hid (DX K w.heap.size v (l)/\Cn 3 per ps ns (l)/\zW w K):=⟨Bb Q E.o.size,.inr (.inr (.inl ⟨rfl,Z,ap⟩)),E.o.tr J⟩
  clear J Q Z ap;go_wp2
  go_ret;exact⟨v,_,rfl,H.o.1,H.o.2.1,H.o.2.2⟩
 ·
  replace ai:(kb.toList==[102,105,102,111])=false:=ai;replace u1:(kb.toList==ByteArray.toList ⟨#[102,105,102,111]⟩)=false:=u1;replace al:(kb.toList==[114,97,110,107])=false:=al;replace u2:(kb.toList==ByteArray.toList ⟨#[114,97,110,107]⟩)=false:=u2;replace ad:(kb.toList==[100,117,101])=false:=ad;replace u3:(kb.toList==ByteArray.toList ⟨#[100,117,101]⟩)=false:=u3;replace ac:(kb.toList==[114,111,117,110,100])=true:=ac;replace u4:(kb.toList==ByteArray.toList ⟨#[114,111,117,110,100]⟩)=true:=u4;replace aj:(kb.toList==[102,97,105,114])=false:=aj;replace u5:(kb.toList==ByteArray.toList ⟨#[102,97,105,114]⟩)=false:=u5;have am:Hid (DF 1 3000 ns):=by
   rcases ar.o with⟨z,-⟩|⟨z,-⟩|⟨z,-⟩|⟨-,z⟩|⟨z,-⟩
   case inr.inr.inr.inl=>exact z.ok
   all_goals omega
  have O:Hid (∀ h,zW w h->Calls Tryz.prog 48 #[.slice W ps.length ab,.int .i64 per,.slice V ns.length Y] h fun e w'=>P6 per ps ns h e w'):=fun h U=>UR W ab ps per V Y ns h (N.o.1.below U) (N.o.2.1.below U) N.o.2.2 aq aw am.o
  obtain⟨m,I⟩:=ex ps.length;obtain⟨r,D⟩:=ex ns.length;rw[I,D]at O;rw[D]at ao an aB av E;rw[I,D];clear I D;go_in
  go_wp2_with fail;refine(O.o _ E.o).mono ?_
  rintro e K ⟨v,l,rfl,Q,Z,J⟩;have H:Hid (DX K w.heap.size v (l)/\Cn 4 per ps ns (l)/\zW w K):=⟨Bb Q E.o.size,.inr (.inr (.inr (.inl ⟨rfl,Z⟩))),E.o.tr J⟩
  clear J Q Z;go_wp2
  go_ret;exact⟨v,_,rfl,H.o.1,H.o.2.1,H.o.2.2⟩
 replace ai:(kb.toList==[102,105,102,111])=false:=ai;replace u1:(kb.toList==ByteArray.toList ⟨#[102,105,102,111]⟩)=false:=u1;replace al:(kb.toList==[114,97,110,107])=false:=al;replace u2:(kb.toList==ByteArray.toList ⟨#[114,97,110,107]⟩)=false:=u2;replace ad:(kb.toList==[100,117,101])=false:=ad;replace u3:(kb.toList==ByteArray.toList ⟨#[100,117,101]⟩)=false:=u3;replace ac:(kb.toList==[114,111,117,110,100])=false:=ac;replace u4:(kb.toList==ByteArray.toList ⟨#[114,111,117,110,100]⟩)=false:=u4;replace aj:(kb.toList==[102,97,105,114])=true:=aj;replace u5:(kb.toList==ByteArray.toList ⟨#[102,97,105,114]⟩)=true:=u5;have am:Hid (Gd ns):=by
  rcases ar.o with⟨z,-⟩|⟨z,-⟩|⟨z,-⟩|⟨z,-⟩|⟨-,z⟩
  case inr.inr.inr.inr=>exact z.ok
  all_goals omega
 have O:Hid (∀ h,zW w h->Calls Tryz.prog 49 #[.slice W ps.length ab,.int .i64 per,.slice V ns.length Y] h fun e w'=>TI per ps ns h e w'):=fun h U=>Xr W ab ps per V Y ns h (N.o.1.below U) (N.o.2.1.below U) N.o.2.2 aq aw am.o
 obtain⟨m,I⟩:=ex ps.length;obtain⟨r,D⟩:=ex ns.length;rw[I,D]at O;rw[D]at ao an aB av E;rw[I,D];clear I D;go_in
 go_wp2_with fail;refine(O.o _ E.o).mono ?_
 rintro e K ⟨v,bb,l,f,rfl,Q,-,Z,J⟩;have H:Hid (DX K w.heap.size v (l)/\Cn 5 per ps ns (l)/\zW w K):=⟨Bb Q E.o.size,.inr (.inr (.inr (.inr ⟨rfl,_,Z⟩))),E.o.tr J⟩
 clear J Q Z;go_wp2
 go_ret;exact⟨v,_,rfl,H.o.1,H.o.2.1,H.o.2.2⟩
def D8 (a:Nat->Int)(L:List Nat)(out:List Pk):Nat->Nat->Int
 | 0=>a
 | r+1=>AB (D8 a L out r) (L.getD r 0) (Ar out r)
theorem Qr {a:Nat->Int}{L:List Nat}{out:List Pk}{i:Nat}(h:i ∉ L):∀ r,r<=L.length->D8 a L out r i=a i
 | 0,_=>rfl
 | r+1,D=>by
  have e:L[r]? = some L[r]:=qE (by omega);simp only[D8,List.getD,e,Option.getD_some];rw[Au _ _ (fun z=>h (by rw[z];exact xQ _))];exact Qr h r (by omega)
theorem TS {a:Nat->Int}{L:List Nat}(H:L.Pairwise (·<·)){out:List Pk}{k i:Nat}(h:L[k]? = some i):∀ r,r<=L.length->k<r->D8 a L out r i=Ar out k
 | 0,_,E=>absurd E (vR _)
 | r+1,J,E=>by
  have e:L[r]? = some L[r]:=qE (by omega);have D:L[k]'(Af h)=i:=Option.some.inj ((qE (Af h)).symm.trans h);simp only[D8,List.getD,e,Option.getD_some];rcases qC k r with z|z
  · have I:=xC.1 H k r (Af h) (by omega) z;rw[D]at I;rw[Au _ _ (by omega)];exact TS H h r (by omega) z
  obtain rfl:k=r:=by omega
  rw[D,AJ]
structure Di (w W wr:World)(D n:Nat)(a:Nat->Int):Prop where
 but:But (fun b=>b=D) W wr
 at_:Ef wr D n a
 below:zW w W
 new:w.heap.size<=D
section
variable {w W wr wr':World} {D n:Nat} {a:Nat → Int}
theorem Di.all (h:Di w W wr D n a):zW w wr:=h.below.trans (h.but.below h.below.size fun k z=>by rw[z];exact h.new)
theorem Di.later (h:Di w W wr D n a)(z:zW wr wr'):Di w W wr' D n a:=⟨h.but.trans (.ofBelow z),h.at_.of_block (z.block D h.at_.lt) z.size,h.below,h.new⟩
theorem Di.put (h:Di w W wr D n a){k:Nat}(z:k<n)(x:Int):Di w W (wr.setCell ⟨D,k,none⟩ (.int .i64 x)).drew D n (AB a k x):=
 ⟨(But.setCell (S:=fun b=>b=D) h.but (p:=⟨D,k,none⟩) rfl _).drew,(h.at_.put z x).of_block rfl lr,h.below,h.new⟩
theorem Di.cell (E:Di w W wr D n a){b o:Nat}{v:Value}(h:W.cell? ⟨b,o,none⟩=some v)(z:b≠D):wr.cell? ⟨b,o,none⟩=some v:=by
 rw[E.but.cell (p:=⟨b,o,none⟩) (Cg h) z];exact h
theorem Di.frozen (z:Di w W wr D n a){b o:Nat}{v:Value}(E:W.cell? ⟨b,o,none⟩=some v)(h:b≠D):wr.frozen? ⟨b,o,none⟩=W.frozen? ⟨b,o,none⟩:=
 z.but.frozen (p:=⟨b,o,none⟩) (Cg E) h
end
def X3 (c p:Int)(w:World)(e:Ending)(w':World):Prop:=e=.returned (.tuple #[.slice none 0 0,.slice none 0 0,.agg #[.int .i64 c,.int .i64 p]])/\zW w w'
section
variable (ca:Option Addr) (cn ccap:Nat) (kb:ByteArray) (per:Int) (na:Option Addr) (nn ncap:Nat) (pa:Option Addr) (n pcap:Nat) (w:World) (c p:Int)
theorem RD (aq:0<c)(N:∀ h,zW w h->Calls Tryz.prog 24 #[.agg #[.slice ca cn ccap,.string kb,.int .i64 per,.slice na nn ncap]] h fun e w'=>OH c p h e w'):Calls Tryz.prog 19 #[.agg #[.slice ca cn ccap,.string kb,.int .i64 per,.slice na nn ncap],.slice pa n pcap] w fun e w'=>X3 c p w e w':=by
 have aj:=qX N;have J:zW w ((w.alloc (.cells #[.slice ca cn ccap,.string kb,.int .i64 per,.slice na nn ncap] 41)).alloc (.cells #[.int .i64 0,.int .i64 0] 52)):=ba.alloc (by simp) _;have hs1:(w.alloc (.cells #[.slice ca cn ccap,.string kb,.int .i64 per,.slice na nn ncap] 41)).heap.size=w.heap.size+1:=by simp
 have Q:CS ((w.alloc (.cells #[.slice ca cn ccap,.string kb,.int .i64 per,.slice na nn ncap] 41)).alloc (.cells #[.int .i64 0,.int .i64 0] 52)) w.heap.size (.slice ca cn ccap) kb per (.slice na nn ncap):=(Dk w (.slice ca cn ccap) kb per (.slice na nn ncap) 41).later ba;have H:At2 ((w.alloc (.cells #[.slice ca cn ccap,.string kb,.int .i64 per,.slice na nn ncap] 41)).alloc (.cells #[.int .i64 0,.int .i64 0] 52)) (w.heap.size+1) (.int .i64 0) (.int .i64 0):=by
  have:=JQ (w.alloc (.cells #[.slice ca cn ccap,.string kb,.int .i64 per,.slice na nn ncap] 41)) (.int .i64 0) (.int .i64 0) 52;rwa[hs1]at this
 obtain⟨ac,W⟩:=ex ((w.alloc (.cells #[.slice ca cn ccap,.string kb,.int .i64 per,.slice na nn ncap] 41)).alloc (.cells #[.int .i64 0,.int .i64 0] 52));rw[W]at J Q H;have z:=qY J H;obtain⟨ab,Y,ap,ai⟩:=Q;clear N J H hs1;go_in
 go_wp2_with fail;refine(aj.o _ z.o.1).mono ?_
 rintro e E ⟨rfl,D⟩;have I:zW ac (E.alloc (.cells #[.int .i64 c,.int .i64 p] 52)):=D.alloc D.size _;have U:=qX (z.o.1.tr I);obtain⟨K,O,ao,Z⟩:=z.o.2.later I;obtain⟨an,V,ad,al⟩:=JQ E (.int .i64 c) (.int .i64 p) 52;obtain⟨av,am⟩:=ex (E.alloc (.cells #[.int .i64 c,.int .i64 p] 52));rw[am]at U K O ao Z an V;have ar:(c==0)=false:=by simpa using (show c≠0 by omega)
 clear D I ad al ab Y ap ai;go_wp2
 go_region;go_wp2_with fail;exact vB (v:=.tuple #[.slice none 0 0,.slice none 0 0,.agg #[.int .i64 c,.int .i64 p]]) (by simp[results,Tryz.results19,go_sem,K,O]) rfl ⟨rfl,qL ((U.o.setCell (p:=⟨w.heap.size+1,0,none⟩) (yU _) _).setCell (p:=⟨w.heap.size+1,1,none⟩) (yU _) _) 1⟩
theorem Tk (a0:0<c)(U:∀ z,zW w z->Calls Tryz.prog 24 #[.agg #[.slice ca cn ccap,.string kb,.int .i64 per,.slice na nn ncap]] z fun e w'=>OH 0 (-1) z e w')(ac:∀ z,zW w z->Calls Tryz.prog 14 #[.slice pa n pcap] z fun e w'=>e=.returned (.agg #[.int .i64 c,.int .i64 p])/\zW z w'):Calls Tryz.prog 19 #[.agg #[.slice ca cn ccap,.string kb,.int .i64 per,.slice na nn ncap],.slice pa n pcap] w fun e w'=>X3 c p w e w':=by
 have av:=qX U;have aq:=qX ac;have N:zW w ((w.alloc (.cells #[.slice ca cn ccap,.string kb,.int .i64 per,.slice na nn ncap] 41)).alloc (.cells #[.int .i64 0,.int .i64 0] 52)):=ba.alloc (by simp) _;have hs1:(w.alloc (.cells #[.slice ca cn ccap,.string kb,.int .i64 per,.slice na nn ncap] 41)).heap.size=w.heap.size+1:=by simp
 have W:CS ((w.alloc (.cells #[.slice ca cn ccap,.string kb,.int .i64 per,.slice na nn ncap] 41)).alloc (.cells #[.int .i64 0,.int .i64 0] 52)) w.heap.size (.slice ca cn ccap) kb per (.slice na nn ncap):=(Dk w (.slice ca cn ccap) kb per (.slice na nn ncap) 41).later ba;have J:At2 ((w.alloc (.cells #[.slice ca cn ccap,.string kb,.int .i64 per,.slice na nn ncap] 41)).alloc (.cells #[.int .i64 0,.int .i64 0] 52)) (w.heap.size+1) (.int .i64 0) (.int .i64 0):=by
  have:=JQ (w.alloc (.cells #[.slice ca cn ccap,.string kb,.int .i64 per,.slice na nn ncap] 41)) (.int .i64 0) (.int .i64 0) 52;rwa[hs1]at this
 obtain⟨ao,aj⟩:=ex ((w.alloc (.cells #[.slice ca cn ccap,.string kb,.int .i64 per,.slice na nn ncap] 41)).alloc (.cells #[.int .i64 0,.int .i64 0] 52));rw[aj]at N W J;have E:=qY N J;obtain⟨an,al,aS,ar⟩:=W;clear U ac N J hs1;go_in
 go_wp2_with fail;refine(av.o _ E.o.1).mono ?_
 rintro e h ⟨rfl,H⟩;have K:zW ao (h.alloc (.cells #[.int .i64 0,.int .i64 (-1)] 52)):=H.alloc H.size _;have D:Hid (zW w (h.alloc (.cells #[.int .i64 0,.int .i64 (-1)] 52))/\At2 (h.alloc (.cells #[.int .i64 0,.int .i64 (-1)] 52)) (w.heap.size+1) (.int .i64 0) (.int .i64 0)/\At2 (h.alloc (.cells #[.int .i64 0,.int .i64 (-1)] 52)) h.heap.size (.int .i64 0) (.int .i64 (-1))/\w.heap.size+1<h.heap.size):=⟨E.o.1.tr K,E.o.2.later K,JQ h _ _ _,qD (Cg E.o.2.c0) H.size⟩
 clear H K an al aS ar;go_wp2_with fail;refine(aq.o _ D.o.1).mono ?_
 rintro e Z ⟨rfl,I⟩;have ai:=qX (D.o.1.tr I);have O:=D.o.2.1.later I;have Y:=D.o.2.2.1.later I;obtain⟨aE,ad,ap,aw⟩:=Y.set (.int .i64 c) (.int .i64 p);obtain⟨a4,a2,a1,a3⟩:=Y;obtain⟨Q,V,aN,am⟩:=O.other (Nat.ne_of_gt D.o.2.2.2) (.int .i64 c) (.int .i64 p);have ab:Hid (zW w ((Z.setCell ⟨h.heap.size,0,none⟩ (.int .i64 c)).setCell ⟨h.heap.size,1,none⟩ (.int .i64 p))):=(ai.o.setCell (p:=⟨h.heap.size,0,none⟩) (by have:=D.o.2.2.2;show w.heap.size<=h.heap.size;omega) _).setCell (p:=⟨h.heap.size,1,none⟩) (by have:=D.o.2.2.2;show w.heap.size<=h.heap.size;omega) _;obtain⟨a5,aB⟩:=ex ((Z.setCell ⟨h.heap.size,0,none⟩ (.int .i64 c)).setCell ⟨h.heap.size,1,none⟩ (.int .i64 p));rw[aB]at ab Q V aN am aE ad;clear I O ap aw;go_wp2
 go_region;go_wp2_with fail;exact vB (v:=.tuple #[.slice none 0 0,.slice none 0 0,.agg #[.int .i64 c,.int .i64 p]]) (by simp[results,Tryz.results19,go_sem,Q,V]) rfl ⟨rfl,qL ((ab.o.setCell (p:=⟨w.heap.size+1,0,none⟩) (yU _) _).setCell (p:=⟨w.heap.size+1,1,none⟩) (yU _) _) 1⟩
end
end Go.Proofs.YtejlihcdfffafaaGreatDoor
