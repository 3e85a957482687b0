import Derived.Test.YtejlihcdfffafaaGreatDoorP33
set_option maxHeartbeats 4000000
set_option maxRecDepth 100000
namespace Go.Proofs.YtejlihcdfffafaaGreatDoor
open Go.RowKit
def Lm (g:Nat):Value:=.agg #[.func (.func 198) #[.pointer (some ⟨g,0,none⟩)] #[],.func (.func 199) #[.pointer (some ⟨g,0,none⟩)] #[],.func (.func 200) #[.pointer (some ⟨g,0,none⟩)] #[]]
section
variable (B:Nat) (W0:World) (g:Nat) (pa:Option Addr) (pcap:Nat) (qa:Option Addr) (qcap:Nat) (ps:List Pk) (ns:List Int)
structure K4:Prop where
 pk:Aw W0 pa ps
 nu:AR W0 qa ns
 pB:∀ ad,pa=some ad->0<ps.length->ad.block<B
 qB:∀ ad,qa=some ad->ad.block<B
 ok:Al ps
 ns:DF 1 3000 ns
end
section
variable {B:Nat} {W0:World} {g:Nat} {pa:Option Addr} {pcap:Nat} {qa:Option Addr} {qcap:Nat} {ps:List Pk} {ns:List Int}
theorem Xi (h:K4 B W0 pa qa ps ns){U:Nat->Prop}{q:TQ}{w:World}(z:Cf B W0 g (.slice pa ps.length pcap) (.slice qa ns.length qcap) w U q)(E:KO ps ns 1500 q)(ac:q.n<=300){k:Nat}{p:Pk}(H:ps[k]? = some p):Calls Tryz.prog 198 #[.pointer (some ⟨g,0,none⟩),.int .i64 k] w fun e w'=>e=.returned (.tuple #[])/\AX (Cf B W0 g (.slice pa ps.length pcap) (.slice qa ns.length qcap)) w w' U ((Bc ps ns).come q k):=by
 obtain⟨Y,F,V,W,O⟩:=z.parts;have Q:=h.pk.bel h.pB z.env;have K:=Pb h.ok k;have Z:p.flow=((Ag ps k:Nat):Int):=by
  rw[FI H];have:=A7 (h.ok.each _ p H).1;omega
 have ab:(q.d.qs (Ag ps k)).length<=300:=by
  have:=SX q.d.qs 8 K;have:=E.count;omega
 by_cases I:q.d.qs (Ag ps k)=[]
 ·
  refine(O0 B g pa pcap _ ps Y F V q.d q.n w W Q h.ok.few k (Ag ps k) p H Z K I (iy E) (by omega) z.le).mono ?_
  rintro e w' ⟨rfl,J⟩;have D:Ag ps k ∉ q.d.line:=fun D=>(E.state.active _).1 D I
  have N:((Bc ps ns).come q k).d={ q.d with qs:=AB q.d.qs (Ag ps k) (q.d.qs (Ag ps k)++[k]),row:=q.d.row++[Ag ps k] }:=by
   show q.d.come (Ag ps) k=_
   unfold Drr.come;rw[if_neg D]
  exact⟨rfl,BO.left z O (by rw[N];exact J)⟩
 refine(Qz B g pa pcap _ ps Y F V q.d q.n w W Q h.ok.few k (Ag ps k) p H Z K I ab (by omega) z.le).mono ?_
 rintro e w' ⟨rfl,J⟩;have D:Ag ps k∈q.d.line:=(E.state.active _).2 I;have N:((Bc ps ns).come q k).d={ q.d with qs:=AB q.d.qs (Ag ps k) (q.d.qs (Ag ps k)++[k]) }:=by
  show q.d.come (Ag ps) k=_
  unfold Drr.come;rw[if_pos D]
 exact⟨rfl,BO.left z O (by rw[N];exact J)⟩
theorem Xz (h:K4 B W0 pa qa ps ns){E:Nat->Prop}{q:TQ}{w:World}(z:Cf B W0 g (.slice pa ps.length pcap) (.slice qa ns.length qcap) w E q)(D:KO ps ns 1500 q)(K:0<q.n)(ab:q.n<=300)(W:∀ f,(q.d.qs f).length<=300/\∀ k,k∈q.d.qs f->k<ps.length):Calls Tryz.prog 199 #[.pointer (some ⟨g,0,none⟩)] w fun e w'=>e=.returned (.int .i64 ((Bc ps ns).pick q:Nat))/\AX (Cf B W0 g (.slice pa ps.length pcap) (.slice qa ns.length qcap)) w w' E ((Bc ps ns).left q):=by
 obtain⟨Z,F,O,H,I⟩:=z.parts;have V:∀ f,1<=BI ns f:=fun f=>(Gf h.ns.each (by omega) f).1
 obtain⟨k,e,N,Y,U,-⟩:=D.picks V K;obtain⟨n,Q⟩:∃ n,q.n=n+1:=⟨q.n-1,by omega⟩
 rw[Q]at H;refine(ZT B g pa pcap qa qcap ps ns Z F O q.d n w H (h.pk.bel h.pB z.env) h.pB (Sy h.nu h.qB z.env) h.qB h.ok h.ns D.state D.few W (by omega) z.le (TH ps q.d) k e N).mono ?_
 rintro ac w' ⟨rfl,J⟩;rw[Y,U];exact⟨rfl,BO.left z I (by rw[show q.n-1=n by omega];exact J)⟩
theorem RL {h:Nat->Prop}{q:TQ}{w:World}{z D:Value}(H:Cf B W0 g z D w h q):Calls Tryz.prog 282 #[Lm g] w fun e w'=>e=.returned (.int .i64 (q.n:Int))/\AX (Cf B W0 g z D) w w' h q:=by
 have E:=qX H;clear H;unfold Lm;go_in
 go_wp2_with fail;refine(bL B W0 g z D h q _ (E.o.alloc _)).mono ?_
 rintro e I ⟨rfl,rfl⟩;go_wp2
 go_ret;exact⟨rfl,E.o.same ba⟩
theorem RF (N:K4 B W0 pa qa ps ns){h:Nat->Prop}{q:TQ}{w:World}(I:Cf B W0 g (.slice pa ps.length pcap) (.slice qa ns.length qcap) w h q)(E:KO ps ns 1500 q)(D:0<q.n)(J:q.n<=300)(H:∀ f,(q.d.qs f).length<=300/\∀ k,k∈q.d.qs f->k<ps.length):Calls Tryz.prog 281 #[Lm g] w fun e w'=>e=.returned (.int .i64 ((Bc ps ns).pick q:Nat))/\AX (Cf B W0 g (.slice pa ps.length pcap) (.slice qa ns.length qcap)) w w' h ((Bc ps ns).left q):=by
 have V:Hid (∀ w',Cf B W0 g (.slice pa ps.length pcap) (.slice qa ns.length qcap) w' h q->Calls Tryz.prog 199 #[.pointer (some ⟨g,0,none⟩)] w' fun e W=>e=.returned (.int .i64 ((Bc ps ns).pick q:Nat))/\AX (Cf B W0 g (.slice pa ps.length pcap) (.slice qa ns.length qcap)) w' W h ((Bc ps ns).left q)):=fun w' K=>Xz N K E D J H
 have O:=qX I;clear I E H D;unfold Lm;go_in
 go_wp2_with fail;refine(V.o _ (O.o.alloc _)).mono ?_
 rintro e Q ⟨rfl,z⟩;have U:Hid (AX (Cf B W0 g (.slice pa ps.length pcap) (.slice qa ns.length qcap)) w Q h ((Bc ps ns).left q)):=z.after ba;clear z;go_wp2
 go_ret;exact⟨rfl,U.o⟩
theorem RB (J:K4 B W0 pa qa ps ns){h:Nat->Prop}{q:TQ}{w:World}(H:Cf B W0 g (.slice pa ps.length pcap) (.slice qa ns.length qcap) w h q)(D:KO ps ns 1500 q)(I:q.n<=300){k:Nat}{p:Pk}(E:ps[k]? = some p):Calls Tryz.prog 280 #[Lm g,.int .i64 k] w fun e w'=>e=.returned (.tuple #[])/\AX (Cf B W0 g (.slice pa ps.length pcap) (.slice qa ns.length qcap)) w w' h ((Bc ps ns).come q k):=by
 have Q:Hid (∀ w',Cf B W0 g (.slice pa ps.length pcap) (.slice qa ns.length qcap) w' h q->Calls Tryz.prog 198 #[.pointer (some ⟨g,0,none⟩),.int .i64 k] w' fun e V=>e=.returned (.tuple #[])/\AX (Cf B W0 g (.slice pa ps.length pcap) (.slice qa ns.length qcap)) w' V h ((Bc ps ns).come q k)):=fun w' U=>Xi J U D I E
 have K:=qX H;clear H D E;unfold Lm;go_in
 go_wp2_with fail;refine(Q.o _ (K.o.alloc _)).mono ?_
 rintro e N ⟨rfl,z⟩;have O:Hid (AX (Cf B W0 g (.slice pa ps.length pcap) (.slice qa ns.length qcap)) w N h ((Bc ps ns).come q k)):=z.after ba;clear z;go_wp2
 go_end0;exact⟨rfl,O.o⟩
end
theorem bH (w:World)(E H:Value)(t:TypeId):AC w.heap.size w.heap.size E H (w.alloc (.cells #[E,H,.slice none 0 0,.slice none 0 0,.slice none 0 0,.slice none 0 0,.slice none 0 0,.slice none 0 0,.slice none 0 0,.slice none 0 0,.int .i64 0,.int .i64 0,.int .i64 0,.int .i64 0,.int .i64 0,.int .i64 0,.int .i64 0,.int .i64 0,.slice none 0 0,.int .i64 (-1),.int .i64 0] t)) (fun _=>.slice none 0 0) (fun _ _=>False) (.slice none 0 0) Ec.d 0:=by
 have h:∀ i,(w.alloc (.cells #[E,H,.slice none 0 0,.slice none 0 0,.slice none 0 0,.slice none 0 0,.slice none 0 0,.slice none 0 0,.slice none 0 0,.slice none 0 0,.int .i64 0,.int .i64 0,.int .i64 0,.int .i64 0,.int .i64 0,.int .i64 0,.int .i64 0,.int .i64 0,.slice none 0 0,.int .i64 (-1),.int .i64 0] t)).cell? ⟨w.heap.size,i,none⟩=(#[E,H,.slice none 0 0,.slice none 0 0,.slice none 0 0,.slice none 0 0,.slice none 0 0,.slice none 0 0,.slice none 0 0,.slice none 0 0,.int .i64 0,.int .i64 0,.int .i64 0,.int .i64 0,.int .i64 0,.int .i64 0,.int .i64 0,.int .i64 0,.slice none 0 0,.int .i64 (-1),.int .i64 0]:Array Value)[i]?:=fun i=>qO _ _ _ _ rfl
 refine⟨⟨h 0,h 1,fun f D=>?_,fun f D=>?_,h 18,h 19,h 20,fun i=>vQ w _ _ i⟩,fun f D=>Bl.nil _ _,qQ _ _ _ _,fun f D=>⟨id,fun _ z=>z.elim,fun _ _ _ z=>z.elim⟩,(fun z=>by cases z),lr⟩
 ·
  match f,D with
  | 0,_=>exact h 2
  | 1,_=>exact h 3
  | 2,_=>exact h 4
  | 3,_=>exact h 5
  | 4,_=>exact h 6
  | 5,_=>exact h 7
  | 6,_=>exact h 8
  | 7,_=>exact h 9
  | f+8,z=>omega
 match f,D with
 | 0,_=>exact h 10
 | 1,_=>exact h 11
 | 2,_=>exact h 12
 | 3,_=>exact h 13
 | 4,_=>exact h 14
 | 5,_=>exact h 15
 | 6,_=>exact h 16
 | 7,_=>exact h 17
 | f+8,z=>omega
theorem UI (z:oA)(H J:Nat)(D:oA)(I E:Nat)(w:World):Calls Tryz.prog 167 #[.slice z H J,.slice D I E] w fun e w'=>e=.returned (.iface 256 (Lm w.heap.size))/\Cf w.heap.size w w.heap.size (.slice z H J) (.slice D I E) w' (fun k=>k=w.heap.size) Ec/\zW w w':=by
 unfold Lm;go_in
 go_wp2
 go_ret;have K:=(y6 w.heap.size w).alloc lr (.cells #[.slice z H J,.slice D I E,.slice none 0 0,.slice none 0 0,.slice none 0 0,.slice none 0 0,.slice none 0 0,.slice none 0 0,.slice none 0 0,.slice none 0 0,.int .i64 0,.int .i64 0,.int .i64 0,.int .i64 0,.int .i64 0,.int .i64 0,.int .i64 0,.int .i64 0,.slice none 0 0,.int .i64 (-1),.int .i64 0] 263);exact ⟨rfl,⟨K,_,_,_,bH w _ _ _,fun k=>⟨fun h=>.inl h,fun h=>by
  rcases h with h|⟨_,_,h⟩|h
  · exact h
  · exact h.elim
  cases h⟩⟩,K⟩
theorem UU (x:Int)(w:World)(h:1<=x/\x<=3000):Calls Tryz.prog 166 #[.int .i64 x] w fun e w'=>e=.returned (.bool true)/\w'=w:=by
 obtain⟨D,z⟩:=h;go_in
 go_wp2
 go_ret;exact⟨rfl,rfl⟩
theorem YS (x:Int)(w:World)(h:¬(1<=x/\x<=3000)):Calls Tryz.prog 166 #[.int .i64 x] w fun e w'=>e=.returned (.bool false)/\w'=w:=by
 by_cases D:1<=x
 ·
  have E:¬x<=3000:=fun z=>h ⟨D,z⟩
  clear h;go_in
  go_wp2
  go_ret;exact⟨rfl,rfl⟩
 clear h;go_in
 go_wp2
 go_ret;exact⟨rfl,rfl⟩
theorem K9 (a:oA)(cap:Nat)(ns:List Int)(w:World)(H:Nat->Addr)(D:AR w a ns)(I:ns.length=8)(j:Nat)(ac:j<=8)(J:∀(i:Nat) y,i<j->ns[i]? = some y->1<=y/\y<=3000)(R:Value)
  (E:(j=8/\R=.nilIface)\/(R=.iface 308 (.pointer (some (H 1)))/\w.cell? ⟨0,0,none⟩=some (.iface 308 (.pointer (some (H 1))))/\∃ x,ns[j]? = some x/\¬(1<=x/\x<=3000))) :
  Calls Tryz.prog 165 #[.slice a 8 cap,.func (.func 166) #[] #[]] w fun e w'=>e=.returned R/\w'=w:=by
 have V:=qX J;have ab:=qX E;obtain⟨b,ad,rfl,-,N⟩:=D.place (by omega);have O:=qX N;have K:=qX I;clear J E D N I;go_in
 go_wp2_with fail;go_loopw [13] (fun i wr=>∃ k:Nat,k<=j/\i=.int .i64 k/\wr=w) (fun i _=>8-(intOf i).toNat)
 case atStart=>exact⟨0,qR _,rfl,rfl⟩
 case round=>
  obtain⟨k,ai,rfl,rfl⟩:=hrel;by_cases W:k<j
  ·
   obtain⟨x,h,-⟩:=Ab ns k (by rw[K.o];omega);have U:=V.o k x W h;have Q:=O.o k x h;clear h;go_wp2_with fail;refine(UU x _ U).mono ?_
   rintro e Y ⟨rfl,rfl⟩;go_wp2
   go_roundw
   case rel=>exact⟨k+1,by omega,by go_num,trivial⟩
   case measure=>simp[intOf];omega
  obtain rfl:k=j:=by omega
  rcases ab.o with⟨rfl,rfl⟩|⟨rfl,al,x,h,Z⟩
  ·
   go_wp2
   go_ret;exact⟨rfl,rfl⟩
  have Q:=O.o k x h;have aj:k<8:=by
   rw[<- K.o];rcases qC k ns.length with z|z
   · exact z
   simp[qH z]at h
  clear h;go_wp2_with fail;refine(YS x _ Z).mono ?_
  rintro e Y ⟨rfl,rfl⟩;go_wp2
  go_ret;exact⟨rfl,rfl⟩
theorem Qj (a:oA)(cap:Nat)(ns:List Int)(w:World)(D:AR w a ns)(h:DF 1 3000 ns):Calls Tryz.prog 165 #[.slice a ns.length cap,.func (.func 166) #[] #[]] w fun e w'=>e=.returned .nilIface/\w'=w:=by
 rw[h.len];exact K9 a cap ns w (fun _=>⟨0,0,none⟩) D h.len 8 lr (fun i y _ z=>h.each i y z) _ (.inl ⟨rfl,rfl⟩)
theorem O3 (a:oA)(cap:Nat)(ns:List Int)(w:World)(h:Nat->Addr)(E:KD w h)(I:AR w a ns)(c:Nat)(J:Bt 1 3000 ns c)(N:0<c):Calls Tryz.prog 165 #[.slice a ns.length cap,.func (.func 166) #[] #[]] w fun e w'=>e=.returned (Fy h c)/\w'=w:=by
 rcases J with⟨rfl,z⟩|⟨rfl,j,z,⟨x,D,H⟩,K⟩|⟨rfl,-⟩
 · exact FM a ns.length cap _ w h z E.2
 · rw[z];exact K9 a cap ns w h I z j (by have:=Af D;omega) K _ (.inr ⟨rfl,E.1,x,D,H⟩)
 omega
def IV (per:Int)(ps:List Pk)(ns:List Int)(B:Nat)(w:World)(v:Value)(w':World):Prop:=∃ l,DX w' w.heap.size v l/\Ej per ps ns l/\Below B w w'
theorem TB (a:oA)(cap:Nat)(ps:List Pk)(per:Int)(I:oA)(N:Nat)(ns:List Int)(B:Nat)(H:World)(g:Nat)(Q:Nat->Prop)(w:World)(z:K4 B H a I ps ns)(ad:1<=per)(al:per<=1000)(J:Cf B H g (.slice a ps.length cap) (.slice I ns.length N) w Q Ec):Calls Tryz.prog 159 #[.slice a ps.length cap,.int .i64 per,.iface 256 (Lm g)] w fun e w'=>∃ v,e=.returned v/\IV per ps ns B w v w':=by
 have E:∀ f,1<=BI ns f:=fun f=>(Gf z.ns.each (by omega) f).1
 have V:=GI (per:=per) (ps:=ps) z.ok E;have O:∀ s,Reaches (Bc ps ns) per ps Ec s->s.q.n<=300:=fun s h=>by
  have an:=h.count V;have U:=h.next_le;have:=z.ok.few;have:(Bc ps ns).rest s.q=s.q.n:=rfl;omega
 refine(PW (Bc ps ns) (Cf B H g (.slice a ps.length cap) (.slice I ns.length N)) per ps Ec B _ _ _ (fQ B H g _ _) V z.ok ad al ?_ ?_ ?_ a cap w (z.pk.bel z.pB J.env) J.le z.pB Q J).mono ?_
 · intro w K s p h am D;exact RB z D (II z.ok E h) (O s h) am
 ·
  intro w K s h ab D;exact RF z D (II z.ok E h) ab (O s h) (fun f=>by
   obtain⟨Y,ac⟩:=R5 z.ok E h f;exact ⟨Y,fun k aj=>by have:=(ac k aj).1;have:=h.next_le;omega⟩)
 · intro w K s h D;rw[MK _ (fun _=>rfl)];exact RL D
 rintro e w' ⟨s,v,rfl,h,U,ai,Z,W⟩;exact⟨v,rfl,s.out,Z,⟨s,h,U,ai,rfl⟩,W⟩
theorem UQ (a:oA)(cap:Nat)(ps:List Pk)(per:Int)(D:oA)(E:Nat)(ns:List Int)(w:World)(K:Aw w a ps)(O:AR w D ns)(N:Al ps)(W:1<=per)(Z:per<=1000)(J:DF 1 3000 ns):Calls Tryz.prog 135 #[.slice a ps.length cap,.int .i64 per,.slice D ns.length E] w fun e w'=>∃ v,e=.returned (.tuple #[v,.nilIface])/\IV per ps ns w.heap.size w v w':=by
 have ao:Hid (∀ h,zW w h->qW 158 #[.slice a ps.length cap,.int .i64 per] h .nilIface):=fun h z=>Dq a cap ps per h (K.below z) N W Z
 have al:Hid (∀ h,zW w h->Calls Tryz.prog 165 #[.slice D ns.length E,.func (.func 166) #[] #[]] h fun e w'=>e=.returned .nilIface/\w'=h):=fun h z=>Qj D E ns h (O.below z) J
 have an:Hid (∀ h H,zW w h -> Cf h.heap.size h h.heap.size (.slice a ps.length cap) (.slice D ns.length E) H (fun k=>k=h.heap.size) Ec -> zW h H ->
   Calls Tryz.prog 159 #[.slice a ps.length cap,.int .i64 per,.iface 256 (Lm h.heap.size)] H fun e w'=>∃ v,e=.returned v /\ IV per ps ns w.heap.size w v w'):=fun h H z am I=>by
  have ac:=K.below z;have U:=O.below z;refine(TB a cap ps per D E ns h.heap.size h h.heap.size _ H ⟨ac,U,ac.at_lt,fun aN ab=>?_,N,J⟩ W Z am).mono ?_
  ·
   obtain⟨b,a0,e,aE,-⟩:=U.place (by rw[J.len];omega);rw[e]at ab;cases ab
   exact aE
  rintro e w' ⟨v,rfl,l,ai,ap,aw⟩;exact⟨v,rfl,l,Bb ai (qI z.size I.size),ap,(z.tr I).trans (aw.mono z.size)⟩
 clear K O N J;generalize ar:ps.length=n at *;generalize aB:ns.length=m at *;clear ar aB;go_in
 go_wp2_with fail;refine(ao.o _ br).mono ?_
 rintro e a1 ⟨rfl,z⟩;have Y:=qX z;clear z;go_wp2_with fail;refine(al.o _ Y.o).mono ?_
 rintro e V ⟨rfl,rfl⟩;go_wp2_with fail;refine(UI a n cap D m E V).mono ?_
 rintro e av ⟨rfl,ad,I⟩;have aq:=qX (an.o V av Y.o ad I);clear ad I;go_wp2_with fail;refine aq.o.mono ?_
 rintro e aS ⟨v,rfl,Q⟩;have aj:=qX Q;clear Q;go_wp2
 go_ret2;exact⟨v,rfl,aj.o⟩
theorem Rq {R:TypeId->Value->World->Prop}(a:oA)(n cap:Nat)(per:Int)(I:oA)(m J:Nat)(w:World)(D:Calls Tryz.prog 158 #[.slice a n cap,.int .i64 per] w fun e w'=>∃ h v,e=.returned (.iface h v)/\R h v w'):Calls Tryz.prog 135 #[.slice a n cap,.int .i64 per,.slice I m J] w fun e w'=>∃ h v,e=.returned (.tuple #[.slice none 0 0,.iface h v])/\R h v w':=by
 have E:=qX D;clear D;go_in
 go_wp2_with fail;refine E.o.mono ?_
 rintro e K ⟨h,v,rfl,z⟩;have H:=qX z;clear z;go_wp2
 go_ret2;exact⟨h,v,rfl,H.o⟩
theorem Ra {R:TypeId->Value->World->Prop}(a:oA)(n cap:Nat)(per:Int)(D:oA)(m I:Nat)(w:World)(K:Calls Tryz.prog 158 #[.slice a n cap,.int .i64 per] w fun e w'=>e=.returned .nilIface/\zW w w')
  (E:∀ H,zW w H->Calls Tryz.prog 165 #[.slice D m I,.func (.func 166) #[] #[]] H fun e w'=>∃ h v,e=.returned (.iface h v)/\R h v w') :
  Calls Tryz.prog 135 #[.slice a n cap,.int .i64 per,.slice D m I] w fun e w'=>∃ h v,e=.returned (.tuple #[.slice none 0 0,.iface h v])/\R h v w':=by
 have N:=qX K;have U:=qX E;clear K E;go_in
 go_wp2_with fail;refine N.o.mono ?_
 rintro e W ⟨rfl,z⟩;have O:=qX z;clear z;go_wp2_with fail;refine(U.o _ O.o).mono ?_
 rintro e V ⟨h,v,rfl,J⟩;have Q:=qX J;clear J;go_wp2
 go_ret2;exact⟨h,v,rfl,Q.o⟩
theorem Tryz.keyed:Go.Maps.Keyed Tryz.prog 3:=Go.Maps.int_keyed Tryz.underlying3
theorem Tryz.zeroInt (w:World):(zeroValue 3).run Tryz.prog w=.ok (.int .i64 0) w:=by kernel_rfl
theorem Tryz.underMap:Tryz.prog.underlying 264=some (.map 3 3):=by kernel_rfl
section
variable {B:Nat} {W0:World} {g gt gm n:Nat} {pv qv:Value} {w:World} {D:Nat → Prop} {q:FQ}
theorem Rk (I:BJ B W0 g gt gm n pv qv w D q)(O:0<q.q.length):Calls Tryz.prog 204 #[.pointer (some ⟨g,0,none⟩)] w fun e w'=>e=.returned (.int .i64 (q.q.length:Int))/\w'=w:=by
 obtain⟨U,h,J⟩:=I.parts;have z:=h.row;rw[<- Am]at z;obtain⟨W,cap,rfl,H,N⟩:=Jz z;rw[Am]at H h;have K:=h.cells.c5;obtain⟨l,E⟩:=ex q.q.length;rw[E]at K H O ⊢;have V:((l:Int)==0)=false:=by simpa using (show l≠0 by omega)
 have Q:(l:Int)≠0:=by omega
 unfold maxLen at N;clear h z J I E;go_in
 go_wp2
 go_ret;exact⟨rfl,rfl⟩
theorem RS (J:BJ B W0 g gt gm n pv qv w D q)(ab:q.q.length=0):Calls Tryz.prog 204 #[.pointer (some ⟨g,0,none⟩)] w fun e w'=>e=.returned (.int .i64 0)/\AX (BJ B W0 g gt gm n pv qv) w w' D q.rests:=by
 have Z:=qX J;obtain⟨al,h,H⟩:=J.parts;have K:=h.row;rw[<- Am]at K;obtain⟨U,cap,rfl,Q,Y⟩:=Jz K;rw[Am]at Q h H;rw[ab]at Q h H;have ac:=h.cells.c5;have aj:=h.cells.c4;have ad:=h.cells.free 4;have z:=h.setV 0;have d3:=z.cells.c3;have ao:=z.cells.c5;have I:Hid (Cm B g gt gm n pv qv (w.setCell ⟨g,4,none⟩ (.int .i64 0)) (.slice U 0 cap) { q with v:=0 }/\(∀ k,D k↔Fg g gt gm (.slice U 0 cap) k)/\But (fun k=>k=g) w (w.setCell ⟨g,4,none⟩ (.int .i64 0))):=⟨z,H,VW _ _ _ _⟩
 obtain⟨an,am,W,O⟩:=z.tells.cleared Tryz.underMap 0;have N:=z.setLast O W;have ai:=N.1.cells.c5;have V:=qX N;unfold maxLen at Y;clear h K H J z W O N;go_in
 go_wp2
 go_ret;refine⟨rfl,Z.o.leaves (q':=q.rests) I.o.2.1 ((I.o.2.2.mono fun k E=>(I.o.2.1 k).2 (.inl E)).trans (V.o.2.mono fun k E=>(I.o.2.1 k).2 (.inr (.inr (.inl E))))) V.o.1 (fun k E=>.inl E)⟩
end
structure Ud (B:Nat)(W0:World)(pa qa:oA)(ps:List Pk)(ws:List Int):Prop where
 pk:Aw W0 pa ps
 nu:AR W0 qa ws
 pB:∀ ad,pa=some ad->0<ps.length->ad.block<B
 qB:∀ ad,qa=some ad->ad.block<B
 ok:Al ps
 ws:Gd ws
theorem iP {B:Nat}{w w':World}{a:oA}{xs:List Int}(K:AR w a xs)(J:∀ z,a=some z->z.block<B)(D:Below B w w'):AR w' a xs:=by
 rcases K with rfl|⟨b,h,rfl,N,E⟩
 · exact .inl rfl
 have I:b<B:=J ⟨b,h,none⟩ rfl;exact .inr ⟨b,h,rfl,qD N D.size,fun i x H=>by rw[D.cell (p:=⟨b,h+i,none⟩) I];exact E i x H⟩
section
variable {B:Nat} {W0:World} {g gt gm n:Nat} {pv qv:Value} {w:World} {D:Nat → Prop} {q:FQ}
theorem BJ.same {w':World}(z:BJ B W0 g gt gm n pv qv w D q)(h:zW w w'):AX (BJ B W0 g gt gm n pv qv) w w' D q:=⟨D,z.later h,.ofBelow h,fun _ E=>.inl E⟩
theorem fJ {ps:List Pk}{ws:List Int}(z:BJ B W0 g gt gm n pv qv w D q):Calls Tryz.prog 204 #[.pointer (some ⟨g,0,none⟩)] w fun e w'=>e=.returned (.int .i64 (q.q.length:Int))/\AX (BJ B W0 g gt gm n pv qv) w w' D ((BR ps ws).asked q):=by
 by_cases h:q.q.length=0
 · have e:(BR ps ws).asked q=q.rests:=if_pos h;rw[e,h];exact RS z h
 have e:(BR ps ws).asked q=q:=if_neg h;rw[e];refine(Rk z (by omega)).mono ?_
 rintro e w' ⟨rfl,rfl⟩;exact⟨rfl,z.same br⟩
theorem Zy {D:Value}(h:Cm B g gt gm n pv qv w D q){k:Nat}(z:k<n):Calls Tryz.prog 221 #[.pointer (some ⟨g,0,none⟩),.int .i64 k] w fun e w'=>e=.returned (.int .i64 (q.tag k))/\∃ m,w'=w.drewN m:=by
 have H:=h.cells.c2;have E:=h.given.cell k z;generalize q.tag k=x at *;clear h;go_in
 go_wp2
 go_ret;exact⟨rfl,0,rfl⟩
theorem eX {ps:List Pk}{ws:List Int}(Y:BJ B W0 g gt gm n pv qv w D q)(Q:0<q.q.length)(a3:q.q.length<=300)(aq:q.q.Nodup)(Z:∀ k,k∈q.q->k<n):Calls Tryz.prog 203 #[.pointer (some ⟨g,0,none⟩)] w fun e w'=>e=.returned (.int .i64 ((BR ps ws).pick q:Nat))/\AX (BJ B W0 g gt gm n pv qv) w w' D ((BR ps ws).left q):=by
 have aw:=qX Y;obtain⟨a6,H,V⟩:=Y.parts;have J:=H.row;rw[<- Am]at J;obtain⟨r,cap,rfl,ac,av,-⟩:=JH J (by rw[Am];exact Q);rw[Am]at ac H V J;have K:=Iw q.tag Q;obtain⟨k,z⟩:=ex (q.q.getD (BA q.tag q.q) 0);have aN:=Z k (by rw[<- z,getD_lt K];exact xQ K);have U:=WI B 221 (.pointer (some ⟨g,0,none⟩)) q.tag n r cap q.q w (by omega) Q Z J ac av (fun _ _=>rfl) (fun a1 k z=>Zy (w:=w.drewN a1) (H.later (qL br _)) z);unfold GJ at U;have ar:=H.cells.c5;have a0:∀ x,x=q.tag k->True:=fun _ _=>trivial
 have I:=qY H V;have am:Hid ((q.q.eraseIdx (BA q.tag q.q)).length=q.q.length-1):=by
  show _=_
  rw[List.length_eraseIdx,if_pos K]
 have ad:Hid ((BR ps ws).pick q=k/\(BR ps ws).left q={ q with q:=q.q.eraseIdx (BA q.tag q.q),v:=q.tag k }):=by
  refine⟨z,?_⟩;show q.left (q.q.getD (BA q.tag q.q) 0)=_
  rw[MN _ _ aq K,z];rfl
 rw[ad.o.1,ad.o.2];obtain⟨l,O⟩:=ex q.q.length;obtain⟨aj,hpk⟩:=ex (BA q.tag q.q);obtain⟨T,W⟩:=ex (q.tag k);rw[z,O,hpk]at U;rw[hpk]at am ⊢;have a2:=qX U;have an:=qY O W;rw[O]at ar a3 Q ac;rw[W];clear J H V Y z Z K aq O hpk U a0 W;go_in
 go_wp2_with fail;refine a2.o.mono ?_
 rintro e aS ⟨rfl,ai,N⟩;have E:Cm B g gt gm n pv qv (aS.setCell ⟨g,5,none⟩ (.slice (some ⟨r,0,none⟩) (l-1) cap)) (.slice (some ⟨r,0,none⟩) (l-1) cap) { q with q:=q.q.eraseIdx aj }:=
  I.o.1.setR (r':=q.q.eraseIdx aj) (N.mono fun j h=>by rw[h];rfl) (by rw[am.o,an.o.1];exact ai) (fun j h=>.inl h)
 have ab:=I.o.1.cells.but (S:=fun j=>j=r) N (fun e=>I.o.1.rapart.1 (by rw[<- e];rfl));have a5:=ab.free 5;have a7:=ab.c5;have d2:=E.cells.c2;have aE:=E.given.cell k aN;have a4:=E.cells.free 4;have a8:=E.cells.c4;have al:=an.o.2;rw[al]at aE;have ao:=qY E N;clear E ai N ab al;go_wp2
 go_ret;have aB:D r:=(I.o.2 r).2 (.inr (.inr (.inr rfl)));have ap:D g:=(I.o.2 g).2 (.inl rfl);exact⟨rfl,aw.o.leaves I.o.2 ((ao.o.2.mono fun j h=>by rw[h];exact aB).trans (((VW _ _ _ _).mono fun j h=>by rw[h];exact ap).trans ((VW _ _ _ _).mono fun j h=>by rw[h];exact ap))) (ao.o.1.setV T) (fun j h=>.inl h)⟩
end
section
variable {B:Nat} {W0:World} {g gt gm:Nat} {pa:Option Addr} {pcap:Nat} {qa:Option Addr} {qcap:Nat} {ps:List Pk} {ws:List Int} {D:Nat → Prop} {q:FQ} {w:World}
theorem fK (z:Ud B W0 pa qa ps ws)(E:BJ B W0 g gt gm ps.length (.slice pa ps.length pcap) (.slice qa ws.length qcap) w D q)(bv:q.q.length<=300)(cC:0<=q.v/\q.v<=100000000)(bl:∀ f,0<=q.last f/\q.last f<=100000000){k:Nat}{p:Pk}(O:ps[k]? = some p):Calls Tryz.prog 202 #[.pointer (some ⟨g,0,none⟩),.int .i64 k] w fun e w'=>e=.returned (.tuple #[])/\AX (BJ B W0 g gt gm ps.length (.slice pa ps.length pcap) (.slice qa ws.length qcap)) w w' D ((BR ps ws).come q k):=by
 have bx:Hid (BJ B W0 g gt gm ps.length (.slice pa ps.length pcap) (.slice qa ws.length qcap) w D q):=E;have dp:Hid (B<=w.heap.size):=E.le;obtain⟨J,a',bw⟩:=E.parts;have cn:=Af O;have bg:=Pb z.ok k;have cP:=A7 (z.ok.each _ p O).1;have c7:=z.ok.few;have bc:p.flow=((Ag ps k:Nat):Int):=by rw[FI O];omega
 have b5:Aw w pa ps:=z.pk.bel z.pB E.env;have b4:AR w qa ws:=iP z.nu z.qB E.env;obtain⟨x,ad,-⟩:=Ab ws (Ag ps k) (by rw[z.ws.len];exact bg);have a7:=z.ws.each _ x ad;have db:=Y8 a7;have bk:Dn ps ws k=p.size*(12/x):=by unfold Dn;rw[CP O,IZ ad]
 have cp:=Jt z.ws.ok z.ok k;have a1:=dL a7 (show 0<=p.size by omega);rw[<- bk]at a1;obtain⟨aq,aw,rfl,de,al⟩:=b5.place (by omega);obtain⟨ab,ac,rfl,c',b0⟩:=b4.place (by rw[z.ws.len];omega);have cE:=z.ws.len;have cc:(BR ps ws).come q k=⟨q.q++[k],AB q.tag k (max q.v (q.last (Ag ps k))+Dn ps ws k),q.v,AB q.last (Ag ps k) (max q.v (q.last (Ag ps k))+Dn ps ws k)⟩:=rfl;rw[cc];have b2:=bl (Ag ps k);obtain⟨f,ch⟩:=ex (Ag ps k);obtain⟨ar,b1⟩:=ex (Dn ps ws k);obtain⟨U,bq⟩:=ex p.size;obtain⟨be,cj⟩:=ex p.tick;obtain⟨a2,a4⟩:=ex (q.last f);obtain⟨a5,a0⟩:=ex q.v;obtain⟨n,a3⟩:=ex ps.length;have cd:=(al k p O).1;have d1:=(al k p O).2.1;have d2:=(al k p O).2.2;rw[ch]at bc ad bg b2 ⊢;rw[bc]at cd;rw[bq]at d1 a1 cP;rw[cj]at d2;rw[b1]at a1 cp ⊢;rw[a4]at b2 ⊢;rw[a0]at cC ⊢;have cb:=b0 f x ad;have ao:zW w (w.alloc (.cells #[.int .i64 f,.int .i64 U,.int .i64 be] 50)):=ba;have N:=a'.later ao;obtain⟨I,Z⟩:=ex (w.alloc (.cells #[.int .i64 f,.int .i64 U,.int .i64 be] 50));rw[Z]at N ao;have b3:I.cell? ⟨w.heap.size,0,none⟩=some (.int .i64 f):=by rw[<- Z];simp
 have cN:I.cell? ⟨w.heap.size,1,none⟩=some (.int .i64 U):=by rw[<- Z];simp
 have bN:=a'.cells.c0;have ck:=N.cells.c1;have b7:=N.cells.c2;have cw:=N.cells.c3;have b8:=N.cells.c4;rw[a0]at b8;rw[a3]at bN b7;rw[cE]at ck;have cJ:I.cell? ⟨ab,ac+f,none⟩=some (.int .i64 x):=j7 ao cb;have bT:keyOf Tryz.prog 3 (.int .i64 f)=some (.int .i64 f):=Go.Maps.keyOf_int_mk Tryz.underlying3 (WalkArith.wf_i64 (by omega));have cQ:∀ m,(Instr.lookup 264 (.map (some gm)) (.int .i64 f) false).run Tryz.prog (I.drewN m)=.ok (.int .i64 a2) (I.drewN m):=fun m=>by
  have:=(N.later (qL br m)).tells.look Tryz.keyed Tryz.underMap Tryz.underlying3 (Tryz.zeroInt _) bT;rw[a4]at this;exact this
 have aN:Hid (Cm B g gt gm ps.length (.slice (some ⟨aq,aw,none⟩) ps.length pcap) (.slice (some ⟨ab,ac,none⟩) ws.length qcap) I J q/\(∀ k,D k↔Fg g gt gm J k)/\zW w I):=⟨N,bw,ao⟩
 have v1:IntKind.i64.wrap (U*12)=U*12:=vY _ (by omega);have c9:(f:Int)<8:=by omega
 have dj:1<=x:=a7.1;have cU:¬x=0:=by omega
 have dn:(x==0)=false:=by simpa using cU
 have v3:IntKind.i64.wrap ar=ar:=vY _ (by omega);obtain⟨T,b9⟩:=ex (max a5 a2+ar);have v2:IntKind.i64.wrap (max a5 a2+ar)=T:=by rw[<- b9];exact vY _ (by omega)
 have cR:Hid (0<=T/\T<=200000000):=⟨by omega,by omega⟩
 rw[b9];have c8:Hid (w.alloc (.cells #[.int .i64 f,.int .i64 U,.int .i64 be] 50)=I):=Z;rw[a3]at cn c7;have a9:Hid (ps.length=n/\q.v=a5/\q.last f=a2):=⟨a3,a0,a4⟩
 clear E b5 b4 al b0 O ad bk cc a' N bw ch b1 bq cj a4 a0 a3 bl Z bc z;go_in
 go_wp2_with fail;rw[c8.o];go_quiet (fail);obtain⟨K,bd⟩:=ex (I.drewN nq);rw[bd];have ap:zW I K:=by rw[<- bd];exact qL br _
 have W:=aN.o.1.later ap;have cM:=W.cells.c2;rw[a9.o.1]at cM;have bh:k<ps.length:=by rw[a9.o.1];exact cn
 have dk:=W.given.cell k bh;have dd:=W.given.frozen k;have aB:=W.setTag bh T;have cF:=aB.cells.c3;have cA:(K.setCell ⟨gt,k,none⟩ (.int .i64 T)).cell? ⟨w.heap.size,0,none⟩=some (.int .i64 f):=by
  rw [j9 _ _ _ _ (fun e=>by
   have dq:gt=w.heap.size:=congrArg Addr.block e;have:=(bx.o.foot gt (((aN.o.2.1 gt).2 (.inr (.inl rfl))))).2;omega)]
  exact j7 ap b3
 have cq:Hid (Cm B g gt gm ps.length (.slice (some ⟨aq,aw,none⟩) ps.length pcap) (.slice (some ⟨ab,ac,none⟩) ws.length qcap) (K.setCell ⟨gt,k,none⟩ (.int .i64 T)) J { q with tag:=AB q.tag k T }/\zW I K):=⟨aB,ap⟩
 have cX:(Lit.int .i64 T).wf=true:=WalkArith.wf_i64 (by have:=cR.o;omega);have a8:=aB.later (qL br 1);obtain⟨h,cg,ce,b'⟩:=a8.tells.store Tryz.keyed Tryz.underMap Tryz.underlying3 bg bT cX;have an:=a8.setLast b' ce;have da:=an.1.cells.c5;have cD:=an.1.cells.free 5;have co:Hid (Cm B g gt gm ps.length (.slice (some ⟨aq,aw,none⟩) ps.length pcap) (.slice (some ⟨ab,ac,none⟩) ws.length qcap) h J { q with tag:=AB q.tag k T,last:=AB q.last f T }/\But (fun k=>k=gm) ((K.setCell ⟨gt,k,none⟩ (.int .i64 T)).drewN 1) h):=an;obtain⟨av,am⟩:=ex (K.setCell ⟨gt,k,none⟩ (.int .i64 T));have cf:Hid (K.setCell ⟨gt,k,none⟩ (.int .i64 T)=av):=am;have dm:(Instr.mapUpdate 264 (.map (some gm)) (.int .i64 f) (.int .i64 T)).run Tryz.prog av.drew=.ok () h:=by rw[<- am];exact cg
 rw[am]at cF cA;clear bd ap W aB bN ck b7 cw b8 cd d1 d2 cb cJ b3 cN cQ v1 v2 v3 bh a1 cp cg an a8 ce b';go_wp2_with fail;clear am;go_region;have ci:=co.o.1;have bt:zW h (h.alloc (.cells #[.int .i64 k] 3)):=ba;have ai:Hid (Cm B g gt gm ps.length (.slice (some ⟨aq,aw,none⟩) ps.length pcap) (.slice (some ⟨ab,ac,none⟩) ws.length qcap) (h.alloc (.cells #[.int .i64 k] 3)) J { q with tag:=AB q.tag k T,last:=AB q.last f T }):=ci.later bt;have cu:Hid ((h.alloc (.cells #[.int .i64 k] 3)).ownsRow B 3 1 J q.q.length (ints (Ai q.q))):=ai.o.row;have ct:Hid (∀ j u,(ints [(k:Int)])[j]? = some u->(h.alloc (.cells #[.int .i64 k] 3)).cell? (Addr.add ⟨h.heap.size,0,none⟩ j)=some u):=by
  intro j u bj;cases j with
  | zero=>simp[ints]at bj;subst bj;simp[Addr.add]
  | succ j=>simp[ints]at bj
 have cH:Hid (B<=(h.alloc (.cells #[.int .i64 k] 3)).heap.size):=by
  have:=(ai.o.foot g (.inl rfl))
  show B<=_
  omega
 obtain⟨cW,cY,cv,cV,c6⟩:=vL Tryz.infoInt;clear ci bt;go_wp2_with (at_builtin;go_must (refine wpList_append_lies _ rfl _ _ 27 rfl B 3 cW (.int .i64 0) 1 8 Tryz.underlying27 cY cv cV c6 rfl (by decide) J q.q.length (ints (Ai q.q)) rfl cu.o ⟨h.heap.size,0,none⟩ 1 1 (ints [(k:Int)]) rfl rfl ct.o (D7 _) (by decide) (by unfold maxLen;omega) (by omega) cH.o _ rfl ?_;intro Q aS aj ca V bs cS;have bb:But (fun k=>J.ownBlock=some k) (h.alloc (.cells #[.int .i64 k] 3)) aj:=⟨V.os,V.tape,V.output,V.size,fun k cx bv=>V.block k cx (fun e=>bv e.symm)⟩;have a6:=ai.o.cells.but bb (fun e=>ai.o.rapart.1 e);have dg:=a6.c5;have cD:=a6.free 5;have aE:Hid (aj.ownsRow B 3 1 (.slice (some ⟨Q,0,none⟩) (q.q.length+1) aS) (q.q.length+1) (ints (Ai q.q)++ints [(k:Int)])/\But (fun k=>J.ownBlock=some k) (h.alloc (.cells #[.int .i64 k] 3)) aj/\(J.ownBlock=some Q\/Q=(h.alloc (.cells #[.int .i64 k] 3)).heap.size)):=⟨ca,bb,bs⟩;clear ca V bs cS bb a6))
 go_end0;have bm:∀ j,(Value.slice (some ⟨Q,0,none⟩) (q.q.length+1) aS).ownBlock=some j->J.ownBlock=some j\/(h.alloc (.cells #[.int .i64 k] 3)).heap.size<=j:=fun j H=>by
  have e:Q=j:=Option.some.inj H;rcases aE.o.2.2 with E|E
  · exact .inl (by rw[<- e];exact E)
  exact .inr (by rw[<- e,E];exact lr)
 have cL:aj.ownsRow B 3 1 (.slice (some ⟨Q,0,none⟩) (q.q.length+1) aS) (q.q++[k]).length (ints (Ai (q.q++[k]))):=by
  rw[DU,qJ];exact aE.o.1
 have bp:=ai.o.setR (r':=q.q++[k]) aE.o.2.1 cL bm;have Y:=aN.o.2.1;have cG:D g:=(Y g).2 (.inl rfl);have cy:D gt:=(Y gt).2 (.inr (.inl rfl));have cT:D gm:=(Y gm).2 (.inr (.inr (.inl rfl)));have b6:But D w K:=(But.ofBelow aN.o.2.2).trans (.ofBelow cq.o.2);have cl:But D K av:=by rw[<- cf.o];exact(VW K gt k _).mono fun j H=>by rw[H];exact cy
 have cm:But D av h:=by
  have:=co.o.2;rw[cf.o]at this;exact(But.ofBelow (qL br 1)).trans (this.mono fun j H=>by rw[H];exact cT)
 have cI:But D h (aj.setCell ⟨g,5,none⟩ (.slice (some ⟨Q,0,none⟩) (q.q.length+1) aS)):=((But.ofBelow ba).trans (aE.o.2.1.mono fun j H=>(Y j).2 (.inr (.inr (.inr H))))).trans ((VW _ _ _ _).mono fun j H=>by rw[H];exact cG);have c5:=((b6.trans cl).trans cm).trans cI;refine⟨rfl,bx.o.leaves Y c5 (by rw[a9.o.2.1]at bp;exact bp) (fun j H=>?_)⟩;rcases bm j H with E|E
 · exact .inl E
 exact .inr (by
  have:=((b6.trans cl).trans cm).size;simp at E
  omega)
end
def JF (g:Nat):Value:=.agg #[.func (.func 202) #[.pointer (some ⟨g,0,none⟩)] #[],.func (.func 203) #[.pointer (some ⟨g,0,none⟩)] #[],.func (.func 204) #[.pointer (some ⟨g,0,none⟩)] #[]]
section
variable {B:Nat} {W0:World} {g gt gm:Nat} {pa:Option Addr} {pcap:Nat} {qa:Option Addr} {qcap:Nat} {ps:List Pk} {ws:List Int} {D:Nat → Prop} {q:FQ} {w:World} {pv qv:Value} {n:Nat}
theorem TU (z:BJ B W0 g gt gm n pv qv w D q):Calls Tryz.prog 282 #[JF g] w fun e w'=>e=.returned (.int .i64 (q.q.length:Int))/\AX (BJ B W0 g gt gm n pv qv) w w' D ((BR ps ws).asked q):=by
 have J:Hid (∀ w',BJ B W0 g gt gm n pv qv w' D q->Calls Tryz.prog 204 #[.pointer (some ⟨g,0,none⟩)] w' fun e N=>e=.returned (.int .i64 (q.q.length:Int))/\AX (BJ B W0 g gt gm n pv qv) w' N D ((BR ps ws).asked q)):=fun w' K=>fJ K
 have H:=qX z;clear z;unfold JF;go_in
 go_wp2_with fail;refine(J.o _ (H.o.alloc _)).mono ?_
 rintro e E ⟨rfl,h⟩;have I:Hid (AX (BJ B W0 g gt gm n pv qv) w E D ((BR ps ws).asked q)):=h.after ba;clear h;go_wp2
 go_ret;exact⟨rfl,I.o⟩
theorem Ux (H:BJ B W0 g gt gm n pv qv w D q)(z:0<q.q.length)(J:q.q.length<=300)(I:q.q.Nodup)(E:∀ k,k∈q.q->k<n):Calls Tryz.prog 281 #[JF g] w fun e w'=>e=.returned (.int .i64 ((BR ps ws).pick q:Nat))/\AX (BJ B W0 g gt gm n pv qv) w w' D ((BR ps ws).left q):=by
 have Q:Hid (∀ w',BJ B W0 g gt gm n pv qv w' D q->Calls Tryz.prog 203 #[.pointer (some ⟨g,0,none⟩)] w' fun e V=>e=.returned (.int .i64 ((BR ps ws).pick q:Nat))/\AX (BJ B W0 g gt gm n pv qv) w' V D ((BR ps ws).left q)):=fun w' U=>eX U z J I E
 have N:=qX H;clear H E z I;unfold JF;go_in
 go_wp2_with fail;refine(Q.o _ (N.o.alloc _)).mono ?_
 rintro e K ⟨rfl,h⟩;have O:Hid (AX (BJ B W0 g gt gm n pv qv) w K D ((BR ps ws).left q)):=h.after ba;clear h;go_wp2
 go_ret;exact⟨rfl,O.o⟩
theorem Uz (K:Ud B W0 pa qa ps ws)(I:BJ B W0 g gt gm ps.length (.slice pa ps.length pcap) (.slice qa ws.length qcap) w D q)(J:q.q.length<=300)(z:0<=q.v/\q.v<=100000000)(E:∀ f,0<=q.last f/\q.last f<=100000000){k:Nat}{p:Pk}(H:ps[k]? = some p):Calls Tryz.prog 280 #[JF g,.int .i64 k] w fun e w'=>e=.returned (.tuple #[])/\AX (BJ B W0 g gt gm ps.length (.slice pa ps.length pcap) (.slice qa ws.length qcap)) w w' D ((BR ps ws).come q k):=by
 have U:Hid (∀ w',BJ B W0 g gt gm ps.length (.slice pa ps.length pcap) (.slice qa ws.length qcap) w' D q->Calls Tryz.prog 202 #[.pointer (some ⟨g,0,none⟩),.int .i64 k] w' fun e W=>e=.returned (.tuple #[])/\AX (BJ B W0 g gt gm ps.length (.slice pa ps.length pcap) (.slice qa ws.length qcap)) w' W D ((BR ps ws).come q k)):=fun w' V=>fK K V J z E H
 have N:=qX I;clear I H E z;unfold JF;go_in
 go_wp2_with fail;refine(U.o _ (N.o.alloc _)).mono ?_
 rintro e O ⟨rfl,h⟩;have Q:Hid (AX (BJ B W0 g gt gm ps.length (.slice pa ps.length pcap) (.slice qa ws.length qcap)) w O D ((BR ps ws).come q k)):=h.after ba;clear h;go_wp2
 go_end0;exact⟨rfl,Q.o⟩
end
def IC (per:Int)(ps:List Pk)(ws:List Int)(B g h:Nat)(w:World)(v:Value)(w':World):Prop:=
 ∃ l f,DX w' w.heap.size v l/\Ff per ps ws l ((List.range ps.length).map f)/\Below B w w'/\Ef w' h ps.length f/\w'.cell? ⟨g,2,none⟩=some (.slice (some ⟨h,0,none⟩) ps.length ps.length)
theorem bf (ps:List Pk)(ws:List Int)(q:FQ):((BR ps ws).asked q).tag=q.tag:=by
 unfold Que.asked;split <;> rfl
theorem VE (a:oA)(cap:Nat)(ps:List Pk)(per:Int)(I:oA)(U:Nat)(ws:List Int)(B:Nat)(H:World)(g E K:Nat)(W:Nat->Prop)(w:World)(z:Ud B H a I ps ws)(N:1<=per)(ao:per<=1000)(J:BJ B H g E K ps.length (.slice a ps.length cap) (.slice I ws.length U) w W EK):Calls Tryz.prog 159 #[.slice a ps.length cap,.int .i64 per,.iface 256 (JF g)] w fun e w'=>∃ v,e=.returned v/\IC per ps ws B g E w v w':=by
 have O:=z.ws.ok;have ab:=JI (per:=per) O z.ok N;have V:∀ s,Reaches (BR ps ws) per ps EK s->s.q.q.length<=300/\s.next<=300:=fun s h=>by
  have ar:=h.count ab;have Z:=h.next_le;have:=z.ok.few;have:(BR ps ws).rest s.q=s.q.q.length:=rfl;omega
 refine(Sl (BR ps ws) (BJ B H g E K ps.length (.slice a ps.length cap) (.slice I ws.length U)) per ps EK B _ _ _ (iT B H g E K _ _ _) ab z.ok N ao ?_ ?_ ?_ a cap w (z.pk.bel z.pB J.env) J.le z.pB W J).mono ?_
 · intro w Q s p h aq D;obtain⟨al,aN⟩:=V s h;obtain⟨av,ap,-⟩:=NL O z.ok h;exact Uz z D al (by omega) (fun f=>by have:=ap f;omega) aq
 · intro w Q s h aj D;obtain⟨aE,r⟩:=fair_run O z.ok N h;exact Ux D aj (V s h).1 r.state.nodup (fun k an=>by have:=(r.only k an).1;have:=r.le;omega)
 · intro w Q s h D;exact TU D
 rintro e w' ⟨s,v,rfl,h,Z,am,ai,ad,aw,D⟩;obtain⟨aB,ac,-⟩:=D.parts;have Y:=ac.given;rw[bf]at Y;exact⟨v,rfl,s.out,s.q.tag,ai,⟨s,h,Z,am,rfl,rfl⟩,ad,Y,ac.cells.c2⟩
theorem RO (g:Nat)(w:World):Calls Tryz.prog 170 #[.pointer (some ⟨g,0,none⟩)] w fun e w'=>e=.returned (.iface 256 (JF g))/\zW w w':=by
 unfold JF;go_in
 go_wp2
 go_ret;exact⟨rfl,br⟩
theorem eO (w:World)(J Q:Value)(h:Nat)(I N:TypeId):Cm w.heap.size (w.heap.size+1+1) w.heap.size (w.heap.size+1) h J Q (((w.alloc (.cells (madeCells #[.int .i64 0] h) I)).alloc (.map #[] 0)).alloc (.cells #[J,Q,.slice (some ⟨w.heap.size,0,none⟩) h h,.map (some (w.heap.size+1)),.int .i64 0,.slice none 0 0] N)) (.slice none 0 0) EK/\zW w (((w.alloc (.cells (madeCells #[.int .i64 0] h) I)).alloc (.map #[] 0)).alloc (.cells #[J,Q,.slice (some ⟨w.heap.size,0,none⟩) h h,.map (some (w.heap.size+1)),.int .i64 0,.slice none 0 0] N)):=by
 obtain⟨H,O⟩:=ex (w.alloc (.cells (madeCells #[.int .i64 0] h) I));obtain⟨z,K⟩:=ex (H.alloc (.map #[] 0));have s1:H.heap.size=w.heap.size+1:=by rw[<- O];simp
 have V:z.heap.size=w.heap.size+1+1:=by rw[<- K];simp[s1]
 have ab:zW w H:=by rw[<- O];exact ba
 have Z:zW H z:=by rw[<- K];exact ba
 have Y:Ef H w.heap.size h (fun _=>0):=by rw[<- O];exact Jr w h I
 have ac:Hr Tryz.prog 3 3 z (w.heap.size+1) (fun _=>0):=by rw[<- K,<- s1];exact YH H _ _ _
 rw[O,K];obtain⟨cs,D⟩:∃ cs:Array Value,cs = #[J,Q,.slice (some ⟨w.heap.size,0,none⟩) h h,.map (some (w.heap.size+1)),.int .i64 0,.slice none 0 0]:=⟨_,rfl⟩
 rw[<- D];have E:∀ i,(z.alloc (.cells cs N)).cell? ⟨w.heap.size+1+1,i,none⟩=cs[i]?:=fun i=>by rw[<- V];exact qO _ _ _ _ rfl
 have W:zW z (z.alloc (.cells cs N)):=ba;have U:=Z.tr W;refine⟨⟨⟨by rw[E,D];rfl,by rw[E,D];rfl,by rw[E,D];rfl,by rw[E,D];rfl,by rw[E,D];rfl,by rw[E,D];rfl,fun i=>by rw[<- V];exact vQ z _ _ i⟩,Y.of_block (U.block _ Y.lt) U.size,ac.but (S:=fun _=>False) (.ofBelow W) id,qQ _ _ _ _,by omega,⟨(fun e=>by cases e),(fun e=>by cases e),fun e=>by cases e⟩,by omega⟩,ab.tr U⟩
theorem Vn (z:oA)(h H:Nat)(E:oA)(I D:Nat)(w:World)(ac:h<=1000):Calls Tryz.prog 169 #[.slice z h H,.slice E I D] w fun e w'=>∃ g N J,e=.returned (.pointer (some ⟨g,0,none⟩))/\BJ w.heap.size w g N J h (.slice z h H) (.slice E I D) w' (Fg g N J (.slice none 0 0)) EK/\zW w w':=by
 have Z:∀ w':World,(Instr.makeSlice 27 (.int .i64 h) (.int .i64 h)).run Tryz.prog w'=.ok (.slice (some ⟨w'.heap.size,0,none⟩) h h) (w'.alloc (.cells (madeCells #[.int .i64 0] h) 3)):=fun w'=>by
  obtain⟨U,Y,V,Q,O⟩:=vL Tryz.infoInt;have:=yW (P:=Tryz.prog) w' 27 3 U (.int .i64 0) Tryz.underlying27 Y V .i64 .i64 h h (by omega) (by omega) (by rw[O];omega) (by omega);simpa[Q,Value.cells]using this
 have ab:=@run_makeMap Tryz.prog;go_in
 go_wp2
 go_ret;obtain⟨W,K⟩:=eO w (.slice z h H) (.slice E I D) h 3 266;exact⟨_,_,_,rfl,⟨K,_,W,fun _=>Iff.rfl⟩,K⟩
end Go.Proofs.YtejlihcdfffafaaGreatDoor
