import Derived.Test.YtejlihcdfffafaaGreatDoorP08
import Derived.Laws.IdiomStrings
import Derived.Deep.RegionHeld
import Derived.Sort.Grow
set_option maxHeartbeats 2000000
set_option maxRecDepth 100000
namespace Go.Proofs.YtejlihcdfffafaaGreatDoor
open Go.RowKit
theorem BD.mono {w:World}{B h:Nat}{v:Value}{ps:List Pk}(z:BD w B v ps)(D:h<=B):BD w h v ps:=Bb z D
theorem BD.later {w w':World}{B:Nat}{v:Value}{ps:List Pk}(h:BD w B v ps)(z:zW w w'):BD w' B v ps:=Ah h fun g _ D=>z.block g D
theorem Qb {w:World}{a:oA}{ps:List Pk}(I:Aw w a ps)(k:Nat):Aw w a (ps.take k):=by
 rcases I with rfl|⟨b,D,rfl,J,E⟩
 · exact .inl (by simp)
 refine .inr ⟨b,D,rfl,J,fun i p h=>?_⟩;have H:i<k:=by
  rcases qC i k with z|z
  · exact z
  rw[yR,if_neg (by omega)]at h;cases h
 rw[yI H]at h;exact E i p h
theorem Qn (w:World)(E:TypeId)(B:Nat)(v:Value)(ps qs:List Pk)(h:oA)(H:Nat)(z:BD w B v ps)(Q:Aw w h qs)(ab:h=none->qs=[]/\H=0)(ad:ps.length+qs.length<=1000)(J:B<=w.heap.size):∃ D w',(Builtin.append_ #[42,42] E #[v,.slice h qs.length H]).run Tryz.prog w=.ok D w'/\BD w' B D (ps++qs)/\Below B w w':=by
 obtain⟨I,K,V,O,ac⟩:=vL Tryz.infoPkt;cases h with
 | none=>
  obtain⟨rfl,rfl⟩:=ab rfl;exact⟨v,w,run_append_owned_none (P:=Tryz.prog) w B 42 E 50 I 3 Tryz.underlying42 K v ps.length (BV ps) z,by rw[x6];exact z,br⟩
 | some U=>
  obtain⟨D,w',N,W,Z,-⟩:=run_append_own (P:=Tryz.prog) w B 42 E 50 I (.agg #[.int .i64 0,.int .i64 0,.int .i64 0]) 3 24 Tryz.underlying42 K V O ac rfl (by decide) v ps.length (BV ps) z U qs.length H (BV qs) (GZ qs) (Mw Q) (Kn qs) (by unfold maxLen;omega) (by omega) J;refine⟨D,w',N,?_,br.grown Z J fun k Y=>(Aq z Y).1⟩;unfold BD;rw[qJ,Fh];exact W
theorem Bf (w:World){z:Array Oper}{rest:List Oper}{o:Oper}{a:Act}{D:Exit->Act->World->Prop}(K:o.guard=none)(s x:Operand)
  (E:o.op=.call { callee:=.builtin .append,args:=#[s,x],argTypes:=#[42,42] })
  (B:Nat) (v:Value) (ps qs:List Pk) (xa:oA) (m xcap:Nat) (hm:qs.length=m) (hs:a.eval s=v) (hx:a.eval x=.slice xa m xcap) (hown:BD w B v ps) (hl:Aw w xa qs) (hxa:xa=none->qs=[]/\xcap=0) (hn:ps.length+qs.length<=1000) (hB:B<=w.heap.size)
  (hK:∀ h w',BD w' B h (ps++qs)/\Below B w w'->wpList Tryz.prog z D rest (a.put o.dst h) w'):wpList Tryz.prog z D (o::rest) a w:=by
 subst hm;refine wpList_plain K fun O I=>?_
 obtain⟨h,w',H,N,J⟩:=Qn w o.type B v ps qs xa xcap hown hl hxa hn hB;unfold Oper.wp;simp[execOp,E,resolve,invoke,builtin,hs,hx,H,Result.andThen]
 exact I _ _ (hK h w' ⟨N,J⟩)
structure Both (w:World)(B:Nat)(v1 v2:Value)(ps:List Pk)(ns:List Int):Prop where
 pks:BD w B v1 ps
 nums:w.ownsRow B 3 1 v2 ns.length (ints ns)
 apart:∀ g,v1.ownBlock=some g->v2.ownBlock≠some g
theorem Vd (w:World)(B:Nat):Both w B (.slice none 0 0) (.slice none 0 0) [] []:=⟨qQ _ _ _ _,qQ _ _ _ _,fun g h=>by cases h⟩
theorem Both.later {w w':World}{B:Nat}{v1 v2:Value}{ps:List Pk}{ns:List Int}(h:Both w B v1 v2 ps ns)(z:zW w w'):Both w' B v1 v2 ps ns:=⟨h.pks.later z,Ah h.nums fun g _ D=>z.block g D,h.apart⟩
theorem Q6 (w:World){H:Array Oper}{rest:List Oper}{o:Oper}{a:Act}{D:Exit->Act->World->Prop}(W:o.guard=none)(s x:Operand)
  (J:o.op=.call { callee:=.builtin .append,args:=#[s,x],argTypes:=#[42,42] })
  (B:Nat) (v1 v2:Value) (ps:List Pk) (ns:List Int) (p:Pk) (ad:Addr) (hs:a.eval s=v1) (hx:a.eval x=.slice (some ad) 1 1) (hown:Both w B v1 v2 ps ns) (hl:Aw w (some ad) [p]) (hn:ps.length<=1000) (hB:B<=w.heap.size)
  (hK:∀ I w',Both w' B I v2 (ps++[p]) ns/\Below B w w'->wpList Tryz.prog H D rest (a.put o.dst I) w'):wpList Tryz.prog H D (o::rest) a w:=by
 obtain⟨O,Y,U,N,K⟩:=vL Tryz.infoPkt;refine wpList_append_lies w W s x 42 J B 50 O (.agg #[.int .i64 0,.int .i64 0,.int .i64 0]) 3 24 Tryz.underlying42 Y U N K rfl (by decide) v1 ps.length (BV ps) hs hown.pks ad 1 1 (BV [p]) hx rfl (Mw hl) (Kn _) (by decide) (by unfold maxLen;omega) (by omega) hB _ rfl ?_
 intro g cap w' V E h Z;refine hK _ _ ⟨⟨?_,?_,?_⟩,br.grown E hB fun k z=>(Aq hown.pks z).1⟩
 · unfold BD;rw[qJ,Fh];exact V
 ·
  exact hown.nums.kept E (by
   cases e:v2.ownBlock with
   | none=>exact .inl rfl
   | some k=>exact .inr fun Q=>hown.apart k Q.symm e)
 intro k z;obtain rfl:g=k:=Option.some.inj z;rcases h with h|h
 · exact hown.apart g h
 intro e;have:=(Aq hown.nums e).2;omega
theorem KI (w:World){I:Array Oper}{rest:List Oper}{o:Oper}{a:Act}{E:Exit->Act->World->Prop}(Z:o.guard=none)(s x:Operand)
  (N:o.op=.call { callee:=.builtin .append,args:=#[s,x],argTypes:=#[27,27] })
  (B:Nat) (v1 v2:Value) (ps:List Pk) (ns:List Int) (z:Int) (ad:Addr) (hs:a.eval s=v2) (hx:a.eval x=.slice (some ad) 1 1) (hown:Both w B v1 v2 ps ns) (hl:w.cell? ad=some (.int .i64 z)) (hn:ns.length<=1000) (hB:B<=w.heap.size)
  (hK:∀ K w',Both w' B v1 K ps (ns++[z])/\Below B w w'->wpList Tryz.prog I E rest (a.put o.dst K) w'):wpList Tryz.prog I E (o::rest) a w:=by
 obtain⟨U,ab,W,Q,O⟩:=vL Tryz.infoInt;refine wpList_append_lies w Z s x 27 N B 3 U (.int .i64 0) 1 8 Tryz.underlying27 ab W Q O rfl (by decide) v2 ns.length (ints ns) hs hown.nums ad 1 1 (ints [z]) hx rfl ?_ (D7 _) (by decide) (by unfold maxLen;omega) (by omega) hB _ rfl ?_
 ·
  intro j u J;cases j with
  | zero=>
   have:u=.int .i64 z:=by simpa[ints]using J.symm
   rw[this];simpa[Addr.add]using hl
  | succ j=>simp[ints]at J
 intro g cap w' Y H D ac;refine hK _ _ ⟨⟨?_,?_,?_⟩,br.grown H hB fun k h=>(Aq hown.nums h).1⟩
 ·
  exact World.ownsRow.kept hown.pks H (by
   cases e:v1.ownBlock with
   | none=>exact .inl rfl
   | some k=>exact .inr fun V=>hown.apart k e V.symm)
 · rw[qJ,show ints (ns++[z])=ints ns++ints [z]by simp[ints]];exact Y
 intro k h e;obtain rfl:g=k:=Option.some.inj e;rcases D with D|D
 · exact hown.apart g h D
 have:=(Aq hown.pks h).2;omega
theorem JG (w:World)(x y h:Int):Aw (w.alloc (.cells #[.int .i64 x,.int .i64 y,.int .i64 h] 50)) (some ⟨w.heap.size,0,none⟩) [⟨x,y,h⟩]:=by
 refine .inr ⟨w.heap.size,0,rfl,by simp,fun j q z=>?_⟩;cases j with
 | zero=>
  obtain rfl:=Option.some.inj z;exact⟨by simp,by simp,by simp⟩
 | succ j=>simp at z
theorem Dq (a:oA)(cap:Nat)(ps:List Pk)(per:Int)(w:World)(D:Aw w a ps)(h:Al ps)(K:1<=per)(I:per<=1000):Calls Tryz.prog 158 #[.slice a ps.length cap,.int .i64 per] w fun e w'=>e=.returned .nilIface/\zW w w':=by
 have E:=qX (JO a cap ps w D h);clear D h;go_in
 go_wp2_with fail;refine E.o.mono ?_
 rintro e J ⟨rfl,z⟩;have H:=qX z;clear z;go_wp2
 go_ret;exact⟨rfl,H.o⟩
theorem Ru {R:TypeId->Value->World->Prop}(a:oA)(n cap:Nat)(per:Int)(w:World)(D:Calls Tryz.prog 96 #[.slice a n cap] w fun e w'=>∃ h v,e=.returned (.iface h v)/\R h v w'):Calls Tryz.prog 158 #[.slice a n cap,.int .i64 per] w fun e w'=>∃ h v,e=.returned (.iface h v)/\R h v w':=by
 have E:=qX D;clear D;go_in
 go_wp2_with fail;refine E.o.mono ?_
 rintro e I ⟨h,v,rfl,z⟩;have H:=qX z;clear z;go_wp2
 go_ret;exact⟨h,v,rfl,H.o⟩
theorem Rl (a:oA)(cap:Nat)(ps:List Pk)(per:Int)(w:World)(H:Nat->Addr)(K:J5 w H)(J:Aw w a ps)(E:Al ps)(N:per<1\/1000<per):Calls Tryz.prog 158 #[.slice a ps.length cap,.int .i64 per] w fun e w'=>e=.returned (.iface 308 (.pointer (some (H 1))))/\zW w w':=by
 have I:=qX (JO a cap ps w J E);have D:=qX K;clear J E K;by_cases V:per<1
 ·
  clear N;go_in
  go_wp2_with fail;refine I.o.mono ?_
  rintro e Q ⟨rfl,h⟩;have O:=j7 h D.o.c1;have z:=qX h;clear h;go_wp2
  go_ret;exact⟨rfl,z.o⟩
 have U:1000<per:=by omega
 clear N;go_in
 go_wp2_with fail;refine I.o.mono ?_
 rintro e Q ⟨rfl,h⟩;have O:=j7 h D.o.c1;have z:=qX h;clear h;go_wp2
 go_ret;exact⟨rfl,z.o⟩
theorem XP (a:oA)(cap:Nat)(ps:List Pk)(per h:Int)(k:Nat)(p:Pk)(w:World)(H:Aw w a ps)(ad:ps.length<=300)(z:ps[k]? = some p)(I:Jk p=true)(V:1<=per)(Y:per<=1000)(U:0<=h)(n1:h<=1100000000000000):Calls Tryz.prog 189 #[.slice a ps.length cap,.int .i64 per,.int .i64 k,.int .i64 h] w fun e w'=>e=.returned (.agg #[.int .i64 k,.int .i64 h,.int .i64 (h+per*p.size)])/\zW w w':=by
 have ab:=Af z;obtain⟨b,K,rfl,ai,E⟩:=H.place (by omega);have J:=(E k p z).2.1;obtain⟨-,-,s1,N,-,-⟩:=A7 I;have W:0<=per*p.size:=vG (by omega) (by omega);have O:per*p.size<=1000*1500:=yD (by omega) N (by omega) (by omega);have Z:(w.alloc (.cells #[.int .i64 0,.int .i64 0,.int .i64 0] 61)).cell? ⟨b,K+k*3+1,none⟩=some (.int .i64 p.size):=j7 ba J;generalize p.size=y at *;generalize D:per*y=m at *;have Q:=qX D;have ac:IntKind.i64.wrap (per*y)=m:=by rw[D];exact vY (by omega) (by omega)
 clear H E I z D;go_in
 go_wp2_with fail;exact vB (v:=.agg #[.int .i64 k,.int .i64 h,.int .i64 (h+m)]) (by simp[results,Tryz.results189,go_sem]) rfl ⟨rfl,ba⟩
theorem Aw.bel {w w':World}{B:Nat}{a:oA}{ps:List Pk}(N:Aw w a ps)(K:∀ E,a=some E->0<ps.length->E.block<B)(z:Below B w w'):Aw w' a ps:=by
 rcases N with rfl|⟨b,h,rfl,J,H⟩
 · exact .inl rfl
 by_cases I:0<ps.length
 · have D:b<B:=K ⟨b,h,none⟩ rfl I;refine .inr ⟨b,h,rfl,qD J z.size,fun i p O=>?_⟩;have:=H i p O;exact⟨by rw[z.cell (p:=⟨b,h+i*3,none⟩) D];exact this.1,by rw[z.cell (p:=⟨b,h+i*3+1,none⟩) D];exact this.2.1,by rw[z.cell (p:=⟨b,h+i*3+2,none⟩) D];exact this.2.2⟩
 exact .inl (qN.1 (by omega))
structure IK {σ:Type}(Held:World->(Nat->Prop)->σ->Prop)(B:Nat):Prop where
 foot:∀ w D q,Held w D q->∀ k,D k->B<=k/\k<w.heap.size
 but:∀(S:Nat->Prop) w w' D q,Held w D q->But S w w'->(∀ k,D k->¬S k)->(∀ k,S k->B<=k)->Held w' D q
def AX {z:Type}(E:World->(Nat->Prop)->z->Prop)(w w':World)(h:Nat->Prop)(q:z):Prop:=∃ D,E w' D q/\But h w w'/\∀ k,D k->h k\/w.heap.size<=k
structure EO {σ:Type}(Q:Que σ)(Held:World->(Nat->Prop)->σ->Prop)(per:Int)(ps:List Pk)(q0:σ)(B:Nat)(w wr:World)(v:Value)(s:St σ)(D:Nat->Prop):Prop where
 reach:Reaches Q per ps q0 s
 own:DX wr w.heap.size v s.out
 held:Held wr D s.q
 apart:∀ g,v.ownBlock=some g->¬D g
 below:Below B w wr
section
variable {σ:Type} {Q:Que σ} {Held:World → (Nat → Prop) → σ → Prop} {per:Int} {ps:List Pk} {q0:σ} {B:Nat} {w wr wr':World} {v:Value} {s s':St σ} {D:Nat → Prop}
theorem EO.called (N:IK Held B)(h:EO Q Held per ps q0 B w wr v s D)(W:B<=w.heap.size)(ab:AX Held wr wr' D s'.q)(V:Reaches Q per ps q0 s')(K:s'.out=s.out):∃ E,EO Q Held per ps q0 B w wr' v s' E:=by
 obtain⟨E,Z,H,Y⟩:=ab;refine⟨E,V,by rw[K];exact Ah h.own (fun g U z=>H.block g z (h.apart g U)),Z,fun g z J=>?_,h.below.trans (H.below (qI W h.below.size) (fun k O=>(N.foot _ _ _ h.held k O).1))⟩;rcases Y g J with I|I
 · exact h.apart g z I
 have:=(Aq h.own z).2;omega
theorem EO.parts (K:IK Held B)(h:EO Q Held per ps q0 B w wr v s D)(U:B<=w.heap.size){q:σ}(Y:AX Held wr wr' D q):∃ z,DX wr' w.heap.size v s.out/\Held wr' z q/\(∀ g,v.ownBlock=some g->¬z g)/\Below B w wr':=by
 obtain⟨z,W,H,V⟩:=Y;refine⟨z,Ah h.own (fun g O E=>H.block g E (h.apart g O)),W,fun g E J=>?_,h.below.trans (H.below (qI U h.below.size) (fun k N=>(K.foot _ _ _ h.held k N).1))⟩;rcases V g J with I|I
 · exact h.apart g E I
 have:=(Aq h.own E).2;omega
structure EX (Held:World->(Nat->Prop)->σ->Prop)(B:Nat)(w wr:World)(v:Value)(out:List Sn)(q:σ)(D:Nat->Prop):Prop where
 own:DX wr w.heap.size v out
 held:Held wr D q
 apart:∀ g,v.ownBlock=some g->¬D g
 below:Below B w wr
theorem EX.later {out:List Sn}{q:σ}(E:IK Held B)(h:EX Held B w wr v out q D)(H:B<=w.heap.size)(z:zW wr wr'):EX Held B w wr' v out q D:=
 ⟨Ah h.own (fun g _ I=>z.block g I),E.but (fun _=>False) _ _ _ _ h.held (.ofBelow z) (fun _ _ h=>h) (fun _ h=>h.elim),h.apart,h.below.trans (z.mono (qI H h.below.size))⟩
theorem EO.grown (Y:IK Held B)(J:B<=w.heap.size){x:Sn}{q:σ}{g cap:Nat}{H E:World}{out:List Sn}(ad:EX Held B w H v out q D)
  (ab:E.ownsRow w.heap.size 61 3 (.slice (some ⟨g,0,none⟩) (out.length+1) cap) (out.length+1) (cellsS out++cellsS [x])) (z:H.grownBy E v.ownBlock) (I:v.ownBlock=some g\/g=H.heap.size) (s':St σ) (Z:Reaches Q per ps q0 s') (ai:s'.out=out++[x]) (ac:s'.q=q) :
  EO Q Held per ps q0 B w E (.slice (some ⟨g,0,none⟩) (out.length+1) cap) s' D:=by
 obtain⟨O,W,V,U⟩:=ad;have N:But (fun k=>v.ownBlock=some k) H E:=⟨z.os,z.tape,z.output,z.size,fun k h aj=>z.block k h (fun e=>aj e.symm)⟩
 refine⟨Z,?_,by rw[ac];exact Y.but _ _ _ _ _ W N (fun k h al=>V k al h) (fun k h=>qI J (Aq O h).1),fun g' am K=>?_,U.trans (N.below (qI J U.size) fun k h=>qI J (Aq O h).1)⟩
 · rw[ai];unfold DX;rw[qJ,GY];exact ab
 have e:g=g':=Option.some.inj am;subst e;rcases I with I|I
 · exact V _ I K
 have:=(Y.foot _ _ _ W _ K).2;omega
end
def Md {h:Type}(ps:List Pk)(s:St h):Nat:=match ps[s.next]? with | some p=>(if p.tick<=s.now then 0 else 1) | none=>1
def leftOf {h:Type}(ps:List Pk)(s:St h):Nat:=2*(ps.length-s.out.length)+Md ps s
theorem bS {h:Type}(ps:List Pk)(s:St h):Md ps s<=1:=by
 unfold Md;split
 · split <;> omega
 omega
theorem SN {h:Type}{ps:List Pk}{s s':St h}(D:s'.out.length=s.out.length+1)(z:s.out.length<ps.length):leftOf ps s'<leftOf ps s:=by
 have:=bS ps s';unfold leftOf;omega
theorem ZU {E:Type}{ps:List Pk}{s s':St E}(K:s'.out.length=s.out.length)(z:s'.next=s.next)(D:s.next<ps.length)(H:s.now<Ar ps s.next)(h:Ar ps s.next<=s'.now):leftOf ps s'<leftOf ps s:=by
 have e:ps[s.next]? = some ps[s.next]:=qE D;have I:Md ps s'=0:=by
  unfold Md;rw[z,e];rw[Av e]at h;simp only;rw[if_pos h]
 have J:Md ps s=1:=by
  unfold Md;rw[e];rw[Av e]at H;simp only;rw[if_neg (by omega)]
 unfold leftOf;omega
theorem Xv (x:Int)(w:World)(h:0<=x/\x<8):Calls Tryz.prog 115 #[.int .i64 x] w fun e w'=>e=.returned (.bool true)/\w'=w:=by
 obtain⟨D,z⟩:=h;go_in
 go_wp2
 go_ret;exact⟨rfl,rfl⟩
theorem bI (x:Int)(w:World)(h:¬(0<=x/\x<8)):Calls Tryz.prog 115 #[.int .i64 x] w fun e w'=>e=.returned (.bool false)/\w'=w:=by
 by_cases D:0<=x
 ·
  have E:¬x<8:=fun z=>h ⟨D,z⟩
  clear h;go_in
  go_wp2
  go_ret;exact⟨rfl,rfl⟩
 clear h;go_in
 go_wp2
 go_ret;exact⟨rfl,rfl⟩
def CG (h:Addr)(o:Option Int)(w:World)(e:Ending)(w':World):Prop:=
 zW w w'/\((o=none/\e=.returned (.tuple #[.int .i64 0,.iface 308 (.pointer (some h))]))\/∃ n,o=some n/\e=.returned (.tuple #[.int .i64 n,.nilIface]))
theorem DV {h:Addr}{o:Option Int}{w w':World}(z:o=none)(D:zW w w'):CG h o w (.returned (.tuple #[.int .i64 0,.iface 308 (.pointer (some h))])) w':=⟨D,.inl ⟨z,rfl⟩⟩
theorem Iu {D:Addr}{o:Option Int}{n:Int}{w w':World}(h:o=some n)(z:zW w w'):CG D o w (.returned (.tuple #[.int .i64 n,.nilIface])) w':=⟨z,.inr ⟨n,h,rfl⟩⟩
theorem Km:∀(l:List UInt8)(n m:Int)(b:UInt8),Ca l n=some m->Ca (l++[b]) n=if b.toNat<48\/57<b.toNat then none else some (10*m+((b.toNat:Int)-48))
 | [],n,m,b,h=>by
  simp only[Ca,Option.some.injEq]at h;subst h;simp[Ca]
 | x::l,n,m,b,h=>by
  simp only[yL,Ca]at h ⊢;split at h
  · cases h
  rename_i hx
  rw[if_neg hx];exact Km l _ m b h
theorem Kr:∀(l:List UInt8)(n:Int)(k:Nat)(b:UInt8),l[k]? = some b->(b.toNat<48\/57<b.toNat)->Ca l n=none
 | [],n,k,b,h,_=>by simp at h
 | x::l,n,0,b,h,z=>by
  simp only[xF,Option.some.injEq]at h;subst h;simp[Ca,z]
 | x::l,n,k+1,b,h,z=>by
  simp only[yC]at h;unfold Ca;split
  · rfl
  exact Kr l _ k b h z
theorem bQ (s:ByteArray)(h:World):∃ D cap,(convert 9 113 (.string s)).run Tryz.prog h=.ok (.slice (some ⟨h.heap.size,0,none⟩) s.size cap) D/\zW h D/\∀(i:Nat) b,s.data.toList[i]? = some b->D.cell? ⟨h.heap.size,i,none⟩=some (.int .u8 (b.toNat:Int)):=by
 refine⟨_,_,run_bytes_of_string h 9 113 5 s Tryz.underlying9 Tryz.underlying113 Tryz.underlying5,(br.drew).alloc lr _,fun i b z=>?_⟩;have H:i<s.data.size:=by
  rcases qC i s.data.size with E|E
  · exact E
  rw[qH (by simpa using E)]at z;cases z
 rw[cell_of_row _ h.heap.size i _ 5 _ (vZ h.drew _)];simp only[bytesRow];rw[Array.getElem?_append_left (by simpa using H),Array.getElem?_map];rw[zG]at z;simp[z]
section
variable (s:ByteArray) (w:World) (a0:Addr) (h0:w.cell? ⟨2,0,none⟩=some (.iface 308 (.pointer (some a0))))
theorem Pt (s:ByteArray)(w:World)(h:Addr)(J:w.cell? ⟨2,0,none⟩=some (.iface 308 (.pointer (some h))))(z:s.size<1\/7<s.size)(H:s.size<=9223372036854775807):Calls Tryz.prog 90 #[.string s] w fun e w'=>CG h (Fp s.data.toList) w e w':=by
 have D:Hid (∀ q,CG h (Fp s.data.toList) w (.returned (.tuple #[.int .i64 0,.iface 308 (.pointer (some h))])) (w.drewN q)):=fun q=>DV (by unfold Fp;rw[if_pos (by simpa using z)]) (qL br q)
 obtain⟨n,E⟩:=ex s.size;rw[E]at z H;by_cases I:n<1
 ·
  have d1:decide ((n:Int)<1)=true:=qM (by omega);clear z;go_in
  go_wp2
  go_quiet (fail);go_wp2
  go_ret2;exact D.o nq
 have d1:decide ((n:Int)<1)=false:=qF (by omega);have d2:decide ((7:Int)<(n:Int))=true:=qM (by omega);clear z I;go_in
 go_wp2
 go_quiet (fail);go_wp2
 go_ret2;exact D.o nq
theorem UJ (s:ByteArray)(i:Nat)(b:UInt8)(h:s.data.toList[i]? = some b)(D:World):(Instr.index 9 (.string s) (.int .i64 i)).run Tryz.prog D=.ok (.int .u8 (b.toNat:Int)) D:=by
 have H:i<s.size:=by
  rcases qC i s.size with z|z
  · exact z
  rw[qH (by simpa using z)]at h;cases h
 rw[run_index_string _ _ _ _ _ Tryz.underlying9,dif_pos ⟨by omega,by omega⟩];have E:i<s.data.size:=H;rw[zG,xX E]at h;have e:s[i]=b:=Option.some.inj h;simp[e]
theorem OL {l:List UInt8}{m:Int}{k n:Nat}(D:l.length=n)(I:n<=7)(J:k<n)(H:Ca (l.take k) 0=some m):0<=m/\m<=999999:=by
 obtain⟨E,h⟩:=KR _ _ _ (q8 _) H;have z:(l.take k).length=k:=by rw[vO,D];omega
 rw[z]at h;refine⟨E,?_⟩;rcases(show k=0\/k=1\/k=2\/k=3\/k=4\/k=5\/k=6 by omega)with rfl|rfl|rfl|rfl|rfl|rfl|rfl <;> simp at h <;> omega
theorem OX (s:ByteArray)(w:World)(h:Addr)(K:w.cell? ⟨2,0,none⟩=some (.iface 308 (.pointer (some h))))(E:1<s.size)(H:s.size<=7)(D:s.data.toList[0]? = some 48):Calls Tryz.prog 90 #[.string s] w fun e w'=>CG h (Fp s.data.toList) w e w':=by
 have I:Hid (∀ q,CG h (Fp s.data.toList) w (.returned (.tuple #[.int .i64 0,.iface 308 (.pointer (some h))])) (w.drewN q)):=fun q=>DV (by
  unfold Fp;have e:s.data.toList.length=s.size:=by simp
  rw [if_neg (by omega),if_pos ⟨by rw [List.head?_eq_getElem?];exact D,by omega⟩]) (qL br q)
 have N:∀ z:World,(Instr.index 9 (.string s) (.int .i64 0)).run Tryz.prog z=.ok (.int .u8 48) z:=fun z=>UJ s 0 48 D z
 obtain⟨n,J⟩:=ex s.size;rw[J]at E H;have d1:decide ((n:Int)<1)=false:=qF (by omega);have d2:decide ((7:Int)<(n:Int))=false:=qF (by omega);have d3:decide ((1:Int)<(n:Int))=true:=qM (by omega);clear D E H;go_in
 go_wp2
 go_quiet (fail);go_wp2
 go_ret2;exact I.o nq
theorem MO (s:ByteArray)(w:World)(O:Addr)(ap:w.cell? ⟨2,0,none⟩=some (.iface 308 (.pointer (some O))))(a7:1<=s.size)(ao:s.size<=7)(N:UInt8)(an:s.data.toList[0]? = some N)(ai:¬(N=48/\1<s.size)):Calls Tryz.prog 90 #[.string s] w fun e w'=>CG O (Fp s.data.toList) w e w':=by
 have am:Fp s.data.toList=Ca s.data.toList 0:=by
  unfold Fp;have e:s.data.toList.length=s.size:=by simp
  rw[if_neg (by omega),if_neg];rw[List.head?_eq_getElem?,an,e];exact fun ab=>ai ⟨Option.some.inj ab.1,ab.2⟩
 rw[am];have bb:∀ E:World,(Instr.index 9 (.string s) (.int .i64 0)).run Tryz.prog E=.ok (.int .u8 (N.toNat:Int)) E:=fun E=>UJ s 0 N an E
 have ac:s.data.toList.length=s.size:=by simp
 obtain⟨aj,a1⟩:∃ aj:Int,(N.toNat:Int)=aj:=⟨_,rfl⟩
 rw[a1]at bb;obtain⟨n,aS⟩:=ex s.size;have aq:Hid (∀ E,∃ Q cap,(convert 9 113 (.string s)).run Tryz.prog E=.ok (.slice (some ⟨E.heap.size,0,none⟩) n cap) Q/\zW E Q/\∀(i:Nat) b,s.data.toList[i]? = some b->Q.cell? ⟨E.heap.size,i,none⟩=some (.int .u8 (b.toNat:Int))):=fun E=>by
  have:=bQ s E;rw[aS]at this;exact this
 rw[aS]at a7 ao ai ac;obtain⟨l,aB⟩:=ex s.data.toList;rw[aB]at aq ac am ⊢;have U:=qX ac;have bd:=qX ap;have d1:decide ((n:Int)<1)=false:=qF (by omega);have d2:decide ((7:Int)<(n:Int))=false:=qF (by omega);obtain⟨t,a2⟩:=ex (aj==48);have d3:t=true -> decide ((1:Int) < (n:Int))=false:=fun ab=>qF (by
  rw[ab]at a2;have bg:aj=48:=by simpa using a2
  have:N=48:=by
   apply UInt8.toNat.inj;show N.toNat=48
   omega
  rcases qC 1 n with aN|aN
  · exact absurd ⟨this,aN⟩ ai
  omega)
 have a4:=qX d3;obtain⟨Q,cap,be,aw,aE⟩:=aq.o w;have ad:=qX aw;have a0:=qX aE;have bc:=j7 aw ap;clear an ai am ac aB aw aE aq d3 ap a1;cases t with
 | true=>
  have d3:=a4.o rfl;go_in
  go_wp2_with fail;go_loopw [4,28] (fun m i wr=>∃ k:Nat,∃ x:Int,k<=n/\i=.int .i64 k/\m=.int .i64 x/\Ca (l.take k) 0=some x/\wr=Q) (fun _ i _=>n-(intOf i).toNat)
  case atStart=>exact⟨0,0,qR _,rfl,rfl,rfl,rfl⟩
  case round=>
   obtain⟨k,x,a9,rfl,rfl,h,rfl⟩:=hrel;by_cases W:k<n
   ·
    obtain⟨b,D,-⟩:=Ab l k (by rw[U.o];exact W);have al:=a0.o k b D;obtain⟨a6,a3⟩:=OL U.o ao W h;have J:l.take (k+1)=l.take k++[b]:=by rw[vF,D];rfl
    have z:=Km (l.take k) 0 x b h;rw[<- J]at z;have K:=b.toNat_lt;obtain⟨y,I⟩:∃ y:Int,(b.toNat:Int)=y:=⟨_,rfl⟩
    rw[I]at al z;by_cases H:b.toNat<48\/57<b.toNat
    ·
     have V:Hid (∀ q,CG O (Ca l 0) w (.returned (.tuple #[.int .i64 0,.iface 308 (.pointer (some O))])) (wr.drewN q)):=fun q=>DV (Kr l 0 k b D H) (qL ad.o q)
     by_cases Y:y<48
     ·
      have Z:decide (y<48)=true:=qM Y;clear J z D h H K I;go_wp2
      go_quiet (fail);go_wp2
      go_ret2;exact V.o nq
     have Z:decide (y<48)=false:=qF Y;have ar:decide (57<y)=true:=qM (by omega);clear J z D h H K I;go_wp2
     go_quiet (fail);go_wp2
     go_ret2;exact V.o nq
    rw[if_neg H]at z;have Z:decide (y<48)=false:=qF (by omega);have ar:decide (57<y)=false:=qF (by omega);have a':IntKind.u8.wrap (y-48)=y-48:=by rw[IntKind.wrap_u8];omega
    have av:=qX z;have a8:0<=y-48:=by omega
    have a5:y-48<=9:=by omega
    clear J z D h H K I;go_wp2
    go_roundw
    case rel=>exact⟨k+1,_,by omega,by go_num,rfl,av.o,trivial⟩
    case measure=>simp[intOf];omega
   obtain rfl:k=n:=by omega
   rw[show l.take k=l by rw[<- U.o,xA]]at h;go_wp2
   go_ret2;exact Iu h ad.o
 | false=>
  go_in
  go_wp2_with fail;go_loopw [4,28] (fun m i wr=>∃ k:Nat,∃ x:Int,k<=n/\i=.int .i64 k/\m=.int .i64 x/\Ca (l.take k) 0=some x/\wr=Q) (fun _ i _=>n-(intOf i).toNat)
  case atStart=>exact⟨0,0,qR _,rfl,rfl,rfl,rfl⟩
  case round=>
   obtain⟨k,x,a9,rfl,rfl,h,rfl⟩:=hrel;by_cases W:k<n
   ·
    obtain⟨b,D,-⟩:=Ab l k (by rw[U.o];exact W);have al:=a0.o k b D;obtain⟨a6,a3⟩:=OL U.o ao W h;have J:l.take (k+1)=l.take k++[b]:=by rw[vF,D];rfl
    have z:=Km (l.take k) 0 x b h;rw[<- J]at z;have K:=b.toNat_lt;obtain⟨y,I⟩:∃ y:Int,(b.toNat:Int)=y:=⟨_,rfl⟩
    rw[I]at al z;by_cases H:b.toNat<48\/57<b.toNat
    ·
     have V:Hid (∀ q,CG O (Ca l 0) w (.returned (.tuple #[.int .i64 0,.iface 308 (.pointer (some O))])) (wr.drewN q)):=fun q=>DV (Kr l 0 k b D H) (qL ad.o q)
     by_cases Y:y<48
     ·
      have Z:decide (y<48)=true:=qM Y;clear J z D h H K I;go_wp2
      go_quiet (fail);go_wp2
      go_ret2;exact V.o nq
     have Z:decide (y<48)=false:=qF Y;have ar:decide (57<y)=true:=qM (by omega);clear J z D h H K I;go_wp2
     go_quiet (fail);go_wp2
     go_ret2;exact V.o nq
    rw[if_neg H]at z;have Z:decide (y<48)=false:=qF (by omega);have ar:decide (57<y)=false:=qF (by omega);have a':IntKind.u8.wrap (y-48)=y-48:=by rw[IntKind.wrap_u8];omega
    have av:=qX z;have a8:0<=y-48:=by omega
    have a5:y-48<=9:=by omega
    clear J z D h H K I;go_wp2
    go_roundw
    case rel=>exact⟨k+1,_,by omega,by go_num,rfl,av.o,trivial⟩
    case measure=>simp[intOf];omega
   obtain rfl:k=n:=by omega
   rw[show l.take k=l by rw[<- U.o,xA]]at h;go_wp2
   go_ret2;exact Iu h ad.o
theorem GX (s:ByteArray)(w:World)(h:Addr)(D:w.cell? ⟨2,0,none⟩=some (.iface 308 (.pointer (some h))))(H:s.size<=9223372036854775807):Calls Tryz.prog 90 #[.string s] w fun e w'=>CG h (Fp s.data.toList) w e w':=by
 by_cases I:s.size<1\/7<s.size
 · exact Pt s w h D I H
 obtain⟨b,z,-⟩:=Ab s.data.toList 0 (by simp;omega);by_cases E:b=48/\1<s.size
 · rw[E.1]at z;exact OX s w h D E.2 (by omega) z
 exact MO s w h D (by omega) (by omega) b z E
end
section
variable (s:ByteArray) (w:World) (a0:Addr) (h0:w.cell? ⟨2,0,none⟩=some (.iface 308 (.pointer (some a0))))
theorem MW (s:ByteArray)(w:World)(h:Addr)(N:w.cell? ⟨2,0,none⟩=some (.iface 308 (.pointer (some h))))(H:s.size<=9223372036854775807):Calls Tryz.prog 95 #[.string s] w fun e w'=>CG h (Gs s.data.toList) w e w':=by
 have z:s.data.toList.length=s.size:=by simp
 obtain⟨n,I⟩:=ex s.size;by_cases D:n=1
 ·
  have e:Gs s.data.toList=Fp s.data.toList:=by unfold Gs;rw[if_neg];rw[z,I];exact fun Q=>Q D
  rw[e];have O:=(show Hid (Calls Tryz.prog 90 #[.string s] w fun e w'=>CG h (Fp s.data.toList) w e w')from GX s w h N H)
  have d1:((n:Int)==1)=true:=by simp[D]
  clear z e D H;go_in
  go_wp2_with fail;refine O.o.mono ?_
  rintro e U ⟨J,⟨E,rfl⟩|⟨m,E,rfl⟩⟩
  ·
   go_wp2
   go_ret2;exact DV E J
  go_wp2
  go_ret2;exact Iu E J
 have K:Hid (∀ q,CG h (Gs s.data.toList) w (.returned (.tuple #[.int .i64 0,.iface 308 (.pointer (some h))])) (w.drewN q)):=fun q=>DV (by unfold Gs;rw[if_pos];rw[z,I];exact D) (qL br q)
 have d1:((n:Int)==1)=false:=by simp;omega
 clear z H;go_in
 go_wp2
 go_quiet (fail);go_wp2
 go_ret2;exact K.o nq
theorem Ot (s:ByteArray)(w:World)(h:Addr)(J:w.cell? ⟨2,0,none⟩=some (.iface 308 (.pointer (some h))))(K:s.size<=9223372036854775807):Calls Tryz.prog 88 #[.string s] w fun e w'=>CG h (Em s.data.toList) w e w':=by
 have N:=(show Hid (Calls Tryz.prog 95 #[.string s] w fun e w'=>CG h (Gs s.data.toList) w e w')from MW s w h J K)
 have Q:=qX J;clear K J;go_in
 go_wp2_with fail;refine N.o.mono ?_
 rintro e E ⟨D,⟨z,rfl⟩|⟨m,z,rfl⟩⟩
 ·
  go_wp2
  go_ret2;exact DV (by unfold Em;rw[z];rfl) D
 by_cases H:0<=m/\m<8
 ·
  have I:Hid (CG h (Em s.data.toList) w (.returned (.tuple #[.int .i64 m,.nilIface])) E):=Iu (by unfold Em;rw[z];simp[H]) D;clear z D;go_wp2_with fail;refine(Xv m E H).mono ?_
  rintro e O ⟨rfl,rfl⟩;go_wp2
  go_ret2;exact I.o
 have I:Hid (∀ q,CG h (Em s.data.toList) w (.returned (.tuple #[.int .i64 0,.iface 308 (.pointer (some h))])) (E.drewN q)):=fun q=>DV (by unfold Em;rw[z];simp only[y8];rw[if_neg H]) (qL D q)
 have U:=j7 D Q.o;clear z D;go_wp2_with fail;refine(bI m E H).mono ?_
 rintro e O ⟨rfl,rfl⟩;go_wp2
 go_quiet (fail);go_wp2
 go_ret2;exact I.o nq
end
def CO (w:World)(a:oA)(ws:List (List UInt8)):Prop:=
 ws=[]\/∃ b h,a=some ⟨b,h,none⟩/\b<w.heap.size/\∀(i:Nat) x,ws[i]? = some x->w.cell? ⟨b,h+i,none⟩=some (.string ⟨x.toArray⟩)
theorem CO.below {w w':World}{a:oA}{ws:List (List UInt8)}(H:CO w a ws)(h:zW w w'):CO w' a ws:=by
 rcases H with rfl|⟨b,z,rfl,I,D⟩
 · exact .inl rfl
 exact .inr ⟨b,z,rfl,qD I h.size,fun i x E=>j7 h (D i x E)⟩
theorem CO.place {w:World}{a:oA}{ws:List (List UInt8)}(h:CO w a ws)(D:1<=ws.length):∃ b z,a=some ⟨b,z,none⟩/\b<w.heap.size/\∀(i:Nat) x,ws[i]? = some x->w.cell? ⟨b,z+i,none⟩=some (.string ⟨x.toArray⟩):=by
 rcases h with rfl|h
 · simp at D
 exact h
def Fb (ws:List (List UInt8)):Prop:=ws.length<=1000/\∀ x∈ws,x.length<=1000
structure BN (w:World)(g n:Nat)(f:Nat->Value):Prop where
 cell:∀ i,i<n->w.cell? ⟨g,i,none⟩=some (f i)
 frozen:∀ i,w.frozen? ⟨g,i,none⟩=false
 lt:g<w.heap.size
def Rx (f:Nat->Value)(k:Nat)(u:Value):Nat->Value:=fun i=>if i=k then u else f i
section
variable {w w':World} {g n:Nat} {f:Nat → Value}
theorem NV (w:World)(n:Nat)(u:Value)(t:TypeId):BN (w.alloc (.cells (madeCells #[u] n) t)) w.heap.size n (fun _=>u):=by
 refine⟨fun i h=>?_,fun i=>vQ w _ _ i,by simp⟩;rw[qO _ _ _ _ rfl];exact Gr _ _ _ h
theorem BN.of_block (h:BN w g n f)(z:w'.heap[g]? = w.heap[g]?)(D:w.heap.size<=w'.heap.size):BN w' g n f:=
 ⟨fun i E=>(yE (a:=⟨g,i,none⟩) z).trans (h.cell i E),fun i=>(xY (a:=⟨g,i,none⟩) z).trans (h.frozen i),qD h.lt D⟩
theorem BN.but {S:Nat->Prop}(h:BN w g n f)(z:But S w w')(D:¬S g):BN w' g n f:=h.of_block (z.block g h.lt D) z.size
theorem BN.below (h:BN w g n f)(z:zW w w'):BN w' g n f:=h.of_block (z.block g h.lt) z.size
theorem BN.put (h:BN w g n f){k:Nat}(E:k<n)(u:Value):BN (w.setCell ⟨g,k,none⟩ u) g n (Rx f k u):=by
 refine⟨fun i D=>?_,fun i=>by rw[qK];exact h.frozen i,by simp[World.setCell];exact h.lt⟩;by_cases e:k=i
 · subst e;rw[qT _ _ _ (by rw[h.cell k E];rfl)];simp[Rx]
 rw[j9 _ _ _ _ (by intro z;cases z;exact e rfl),h.cell i D,Rx,if_neg (fun z=>e z.symm)]
theorem BN.drew (h:BN w g n f):BN w.drew g n f:=⟨h.cell,h.frozen,h.lt⟩
theorem En {B:Nat}{w z:World}(h:Below B w z){p:Addr}(E:B<=p.block)(u:Value):Below B w (z.setCell p u):=
 ⟨h.os,h.tape,h.output,by simpa[World.setCell]using h.size,fun k D=>by rw[heap_setCell_other _ _ _ _ (by omega)];exact h.block k D⟩
end
theorem Qy (n:Nat)(I:n<=1000)(w':World):(Instr.makeSlice 27 (.int .i64 n) (.int .i64 n)).run Tryz.prog w'=.ok (.slice (some ⟨w'.heap.size,0,none⟩) n n) (w'.alloc (.cells (madeCells #[.int .i64 0] n) 3)):=by
 obtain⟨D,H,E,z,h⟩:=vL Tryz.infoInt;have:=yW (P:=Tryz.prog) w' 27 3 D (.int .i64 0) Tryz.underlying27 H E .i64 .i64 n n (by omega) (by omega) (by rw[h];omega) (by omega);simpa[z,Value.cells]using this
def Js (h:Addr)(o:Option (List Int))(w:World)(e:Ending)(w':World):Prop:=
 zW w w' /\ ((o=none /\ e=.returned (.tuple #[.slice none 0 0,.iface 308 (.pointer (some h))])) \/
  ∃ ns g,o=some ns /\ e=.returned (.tuple #[.slice (some ⟨g,0,none⟩) ns.length ns.length,.nilIface]) /\ w.heap.size <= g /\ g < w'.heap.size /\ AR w' (some ⟨g,0,none⟩) ns)
def LM (h:List Int)(j:Nat):Value:=.int .i64 (h.getD j 0)
theorem au (h:List Int)(m:Int):Rx (LM h) h.length (.int .i64 m)=LM (h++[m]):=by
 funext i
 unfold Rx LM;by_cases D:i=h.length
 · subst D;simp
 rw[if_neg D];rcases qC i h.length with z|z
 · simp[qU z]
 simp[qH z,qH (show(h++[m]).length<=i by simp;omega)]
theorem RQ {w:World}{g:Nat}{h:List Int}(z:BN w g h.length (LM h)):AR w (some ⟨g,0,none⟩) h:=by
 refine .inr ⟨g,0,rfl,z.lt,fun i x D=>?_⟩;rw[vC,z.cell i (Af D)];simp[LM,D]
theorem I1 (a:oA)(cap:Nat)(ws:List (List UInt8))(w:World)(E:Addr)(aE:w.cell? ⟨2,0,none⟩=some (.iface 308 (.pointer (some E))))(aq:CO w a ws)(ai:Fb ws):Calls Tryz.prog 94 #[.slice a ws.length cap] w fun e w'=>Js E (Ev ws) w e w':=by
 have a7:Hid (∀(i:Nat) x,ws[i]? = some x->∃ b N,a=some ⟨b,N,none⟩/\w.cell? ⟨b,N+i,none⟩=some (.string ⟨x.toArray⟩)):=fun i x aB=>by
  obtain⟨b,N,a5,-,a8⟩:=aq.place (by have:=Af aB;omega);exact⟨b,N,a5,a8 i x aB⟩
 have a':=qX ai;have a6:=qX aE;obtain⟨n,W⟩:=ex ws.length;have a0:=qX W;have a9:n<=1000:=by rw[<- W];exact ai.1
 rw[W];have aN:=Qy n a9;have z:zW w (w.alloc (.cells (madeCells #[.int .i64 0] n) 3)):=ba;have D:BN (w.alloc (.cells (madeCells #[.int .i64 0] n) 3)) w.heap.size n (LM []):=NV w n (.int .i64 0) 3;obtain⟨a3,Z⟩:=ex (w.alloc (.cells (madeCells #[.int .i64 0] n) 3));rw[Z]at z D;have aw:=qY z D;obtain⟨G,ad⟩:=ex w.heap.size;have am:=qX ad;have bj:(Instr.makeSlice 27 (.int .i64 n) (.int .i64 n)).run Tryz.prog w=.ok (.slice (some ⟨G,0,none⟩) n n) a3:=by rw[aN w,Z,ad]
 clear aq ai aE W z D Z aN ad;go_in
 go_wp2_with fail;go_loopw [14] (fun i wr=>∃ k:Nat,∃ h:List Int,k<=n/\i=.int .i64 k/\h.length=k/\zW w wr/\BN wr G n (LM h)/\∀(j:Nat) x m,ws[j]? = some x->h[j]? = some m->Fp x=some m) (fun i _=>n-(intOf i).toNat)
 case atStart=>exact⟨0,[],qR _,rfl,rfl,aw.o.1,by rw[<- am.o];exact aw.o.2,fun j x m _ a1=>by simp at a1⟩
 case round=>
  obtain⟨k,h,bh,rfl,I,H,O,Q⟩:=hrel;have Y:=qV H O Q I;by_cases aj:k<n
  ·
   obtain⟨x,al,ap⟩:=Ab ws k (by rw[a0.o];exact aj);obtain⟨b,N,rfl,ar⟩:=a7.o k x al;have bg:=j7 H ar;have bb:=(show Hid (Calls Tryz.prog 90 #[.string ⟨x.toArray⟩] wr fun e w'=>CG E (Fp x) wr e w')from GX ⟨x.toArray⟩ wr E (j7 H a6.o) (by have:=a'.o.2 x ap;show x.toArray.size<=_;simp;omega))
   have av:=qX al;clear H O Q I al ap ar;go_wp2_with fail;refine bb.o.mono ?_
   rintro e an ⟨z,⟨K,rfl⟩|⟨m,K,rfl⟩⟩
   ·
    have ac:Hid (Js E (Ev ws) w (.returned (.tuple #[.slice none 0 0,.iface 308 (.pointer (some E))])) an):=⟨Y.o.1.tr z,.inl ⟨YT av.o K,rfl⟩⟩
    clear K z;go_wp2
    go_ret2;exact ac.o
   have D:=Y.o.2.1.below z;have bd:=D.cell k aj;have be:=D.frozen k;have U:Hid (zW w (an.setCell ⟨G,k,none⟩ (.int .i64 m))/\BN (an.setCell ⟨G,k,none⟩ (.int .i64 m)) G n (LM (h++[m]))/\(∀(j:Nat) x V,ws[j]? = some x->(h++[m])[j]? = some V->Fp x=some V)/\(h++[m]).length=k+1):=by
    obtain⟨a2,bk,bc,ab⟩:=Y.o;refine⟨En (a2.tr z) (by show w.heap.size<=G;rw[am.o];exact lr) _,?_,?_,by simp[ab]⟩
    · rw[<- au,ab];exact D.put aj _
    intro j y V ao J;rcases qC j h.length with aS|aS
    · rw[qU aS]at J;exact bc j y V ao J
    have a4:=Af J;simp at a4
    obtain rfl:j=h.length:=by omega
    simp at J
    subst J;rw[ab,av.o]at ao;obtain rfl:=Option.some.inj ao;exact K
   clear K z D;go_wp2
   go_roundw
   case rel=>exact⟨k+1,h++[m],by omega,by go_num,U.o.2.2.2,U.o.1,U.o.2.1,U.o.2.2.1⟩
   case measure=>simp[intOf];omega
  obtain rfl:k=n:=by omega
  have ac:Hid (Js E (Ev ws) w (.returned (.tuple #[.slice (some ⟨G,0,none⟩) k k,.nilIface])) wr):=by
   refine⟨H,.inr ⟨h,G,X8 (by rw[I,a0.o]) Q,by rw[I],by rw[am.o];exact lr,O.lt,RQ (by rw[I];exact O)⟩⟩
  clear H O Q I;go_wp2
  go_ret2;exact ac.o
def EL (a b:Int):Int:=if a<b then -1 else if b<a then 1 else 0
theorem KC {a b:Int}:EL a b<0↔a<b:=by unfold EL;split;omega;split <;> omega
theorem Sj {a b:Int}:EL a b=0↔a=b:=by unfold EL;split;omega;split <;> omega
theorem KZ (a b:Int)(w:World):Calls Tryz.prog 130 #[.int .i64 a,.int .i64 b] w fun e w'=>e=.returned (.int .i64 (EL a b))/\w'=w:=by
 by_cases D:a<b
 ·
  have z:Hid (EL a b = -1):=by show _=_;unfold EL;rw[if_pos D]
  go_in
  go_wp2
  go_ret;exact⟨congrArg (fun h=>Ending.returned (.int .i64 h)) z.o.symm,rfl⟩
 by_cases E:b<a
 ·
  have z:Hid (EL a b=1):=by show _=_;unfold EL;rw[if_neg D,if_pos E]
  go_in
  go_wp2
  go_ret;exact⟨congrArg (fun h=>Ending.returned (.int .i64 h)) z.o.symm,rfl⟩
 have z:Hid (EL a b=0):=by show _=_;unfold EL;rw[if_neg D,if_neg E]
 go_in
 go_wp2
 go_ret;exact⟨congrArg (fun h=>Ending.returned (.int .i64 h)) z.o.symm,rfl⟩
open Go.Sort
def cmpL (x y:Int×Int):Int:=if EL y.2 x.2=0 then EL y.1 x.1 else EL y.2 x.2
theorem jF (h z:Int)(B:Nat)(w:World)(J:w.cell? ⟨B,0,none⟩=some (.int .i64 h))(H:w.cell? ⟨B,1,none⟩=some (.int .i64 z)):Calls Tryz.prog 208 #[.slice (some ⟨B,0,none⟩) 2 2] w fun e w'=>e=.returned (.int .i64 (if h=0 then z else h))/\w'=w:=by
 by_cases D:h=0
 ·
  subst D;by_cases E:z=0
  ·
   subst E;go_in
   go_wp2
   refine xG 3 ?_
   rw[xL];go_wp2
   rw[xL];go_wp2
   rw[xL];go_wp2
   go_ret;exact⟨rfl,rfl⟩
  have I:(z==0)=false:=by simpa using E
  go_in
  go_wp2
  refine xG 2 ?_
  rw[xL];go_wp2
  rw[xL];go_wp2
  go_ret;exact⟨rfl,rfl⟩
 have K:(h==0)=false:=by simpa using D
 rw[if_neg D];go_in
 go_wp2
 refine xG 1 ?_
 rw[xL];go_wp2
 go_ret;exact⟨rfl,rfl⟩
theorem QG (w:World)(z h:Obj)(u v:Value)(t:TypeId):(((w.alloc z).alloc h).alloc (.cells #[u,v] t)).cell? ⟨w.heap.size+1+1,0,none⟩=some u/\(((w.alloc z).alloc h).alloc (.cells #[u,v] t)).cell? ⟨w.heap.size+1+1,1,none⟩=some v:=by
 rw[qO _ _ _ _ (by simp),qO _ _ _ _ (by simp)];exact⟨rfl,rfl⟩
theorem VI (w:World)(z h:Obj)(u v:Value)(t:TypeId):(((w.alloc z).alloc h).alloc (.cells #[u,v] t)).drew.cell? ⟨w.heap.size+1+1,0,none⟩=some u/\(((w.alloc z).alloc h).alloc (.cells #[u,v] t)).drew.cell? ⟨w.heap.size+1+1,1,none⟩=some v:=by
 have E:=(QG w z h u v t).1;have D:=(QG w z h u v t).2;exact⟨E,D⟩
theorem XQ (w:World)(D h z:Obj):(((w.alloc D).alloc h).alloc z).drew=grow (w.drewN 1) #[D,h,z]:=by
 rw[alloc_eq_grow,alloc_eq_grow,alloc_eq_grow,grow_grow,grow_grow];rfl
theorem Xh (x y:Int×Int)(w:World):Calls Tryz.prog 207 #[.agg #[.int .i64 x.1,.int .i64 x.2],.agg #[.int .i64 y.1,.int .i64 y.2]] w fun e w'=>e=.returned (.int .i64 (cmpL x y))/\∃ q Y,w'=grow (w.drewN q) Y:=by
 obtain⟨H,D⟩:=x;obtain⟨z,h⟩:=y;have Z:Hid (cmpL (H,D) (z,h)=if EL h D=0 then EL z H else EL h D):=rfl;have N:=fun E=>KZ h D E
 have O:=fun E=>KZ z H E
 obtain⟨I,J⟩:=ex (EL h D);obtain⟨V,Q⟩:=ex (EL z H);rw[J]at N;rw[Q]at O;have W:=qY J Q;have ad:=qX N;have ac:=qX O;have U:=fun B E=>jF I V B E
 obtain⟨R,K⟩:=ex (if I=0 then V else I);rw[K]at U;have aj:=qX K;have ab:=qX U;clear N O J Q U K;go_in
 go_wp2_with fail;go_region_held (fun w'=>w'.cell? ⟨w.heap.size,0,none⟩=some (.int .i64 H)/\w'.cell? ⟨w.heap.size,1,none⟩=some (.int .i64 D)/\w'.cell? ⟨w.heap.size+1,0,none⟩=some (.int .i64 z)/\w'.cell? ⟨w.heap.size+1,1,none⟩=some (.int .i64 h)) (go_keep)
  (first
  | (go_at_call_of 130 (Value.int IntKind.i64 h);refine(ad.o _).mono ?_;rintro e w' ⟨rfl,rfl⟩)
  | (go_at_call_of 130 (Value.int IntKind.i64 z);refine(ac.o _).mono ?_;rintro e w' ⟨rfl,rfl⟩)
  | (go_at_call 208;refine (ab.o _ _ (VI _ _ _ _ _ _).1 (VI _ _ _ _ _ _).2).mono ?_;rintro e w' ⟨rfl,rfl⟩))
 all_goals (go_wp2_with fail;go_ret)
 all_goals exact⟨congrArg (fun ai=>Ending.returned (.int .i64 ai)) (by rw[Z.o,W.o.1,W.o.2,aj.o]),1,_,XQ _ _ _ _⟩
end Go.Proofs.YtejlihcdfffafaaGreatDoor
