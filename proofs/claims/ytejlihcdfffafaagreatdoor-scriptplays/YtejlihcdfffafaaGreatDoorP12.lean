import Derived.Test.YtejlihcdfffafaaGreatDoorP11
import Derived.Maps.OwnOps
import Derived.Maps.Views
import Derived.Maps.OwnSet
set_option maxHeartbeats 4000000
set_option maxRecDepth 100000
namespace Go.Proofs.YtejlihcdfffafaaGreatDoor
open Go.RowKit
def ER (B g:Nat)(w:World)(h:Nat->Prop)(q:List Nat):Prop:=
 ∃ v F,w.heap[g]? = some (.cells #[v] 27 (0,0))/\Bl w B v F q/\¬F g/\B<=g/\(∀ k,h k↔k=g\/F k)
theorem ER.foot {B g:Nat}{w:World}{z:Nat->Prop}{q:List Nat}(J:ER B g w z q):∀ k,z k->B<=k/\k<w.heap.size:=by
 obtain⟨v,F,H,D,K,I,E⟩:=J;intro k h;rcases(E k).1 h with rfl|h
 · exact⟨I,xR H⟩
 exact D.foot k h
theorem ER.but {B g:Nat}{S:Nat->Prop}{w w':World}{h:Nat->Prop}{q:List Nat}(O:ER B g w h q)(D:But S w w')(H:∀ k,h k->¬S k):ER B g w' h q:=by
 obtain⟨v,F,E,J,K,N,z⟩:=O;exact⟨v,F,(D.block g (xR E) (H g ((z g).2 (.inl rfl)))).trans E,J.but D (fun k I=>H k ((z k).2 (.inr I))),K,N,z⟩
def KY (B g:Nat)(w w':World)(h:Nat->Prop)(q:List Nat):Prop:=∃ z,ER B g w' z q/\But h w w'/\∀ k,z k->h k\/w.heap.size<=k
theorem Ll {B g:Nat}{K F E:Nat->Prop}{w J D:World}{v H:Value}{q:List Nat}(Z:¬F g)(W:B<=g)(I:∀ k,K k↔k=g\/F k)(ad:g<w.heap.size)(U:zW w J)(ac:w.heap.size<=J.heap.size)(ab:But F J D)
  (Y:D.heap[g]? = some (.cells #[v] 27 (0,0))) (V:Bl D B H E q) (O:∀ k,E k->F k\/J.heap.size<=k):KY B g w (D.setCell ⟨g,0,none⟩ H) K q:=by
 have Q:¬E g:=fun z=>by
  rcases O g z with z|z
  · exact Z z
  omega
 have N:But (fun k=>k=g) D (D.setCell ⟨g,0,none⟩ H):=But.setCell (S:=fun k=>k=g) (But.refl _ D) (p:=⟨g,0,none⟩) rfl H;refine⟨fun k=>k=g\/E k,⟨H,E,one_setCell Y,V.but N (fun k h e=>Q (e ▸ h)),Q,W,fun k=>Iff.rfl⟩,?_,fun k h=>?_⟩
 · refine((But.ofBelow U).trans (ab.mono fun k h=>(I k).2 (.inr h))).trans (N.mono fun k h=>(I k).2 (.inl h))
 rcases h with rfl|h
 · exact .inl ((I _).2 (.inl rfl))
 rcases O k h with z|z
 · exact .inl ((I k).2 (.inr z))
 exact .inr (by omega)
theorem dG (B g:Nat)(O:Nat->Prop)(q:List Nat)(k:Nat)(w:World)(J:ER B g w O q)(aN:q.length<=1000):Calls Tryz.prog 190 #[.int .i64 k,.pointer (some ⟨g,0,none⟩)] w fun e w'=>e=.returned (.tuple #[])/\KY B g w w' O (q++[k]):=by
 obtain⟨ad,ai,aj,ac,ao⟩:=vL Tryz.infoInt;obtain⟨v,F,h,K,Z,am,Q⟩:=J;obtain⟨z,cap,rfl,aE,ar⟩:=K.form;have aw:=y9 h;have Y:=xR h;have aB:=qX h;have an:Hid (Bl (w.alloc (.cells #[.int .i64 k] 3)) B (.slice z q.length cap) F q):=K.but (S:=fun _=>False) (.ofBelow ba) (fun _ _ J=>J);have I:=qZ Z am Q;have ap:Hid ((w.alloc (.cells #[.int .i64 k] 3)).heap[g]? = some (.cells #[.slice z q.length cap] 27 (0,0))):=(Below.heap_alloc w _ g Y).trans h;clear h K Z Q;go_in
 go_wp2_with (at_builtin;go_must (refine Ih _ rfl _ _ 27 rfl 3 ad (.int .i64 0) 8 Tryz.underlying27 ai aj ac ao rfl B (.slice z q.length cap) F k q rfl an.o (by simp;omega) ⟨w.heap.size,0,none⟩ 1 rfl (by simp) (by unfold maxLen;omega) (by omega) ?_;intro ab al H aq;obtain⟨V,U,W,N⟩:=aq;have D:H.heap[g]? = some (.cells #[.slice z q.length cap] 27 (0,0)):=(N.block g (by simp;omega) I.o.1).trans ap.o;have aS:=y9 D;have av:=free_of_one D;have E:Hid (Bl H B (.slice ab (q.length+1) al) V (q++[k])/\(∀ k,V k->F k\/w.heap.size+1<=k)/\But F (w.alloc (.cells #[.int .i64 k] 3)) H/\H.heap[g]? = some (.cells #[.slice z q.length cap] 27 (0,0))):=⟨U,by simpa using W,N,D⟩;clear U W N D))
 go_end0;exact⟨rfl,Ll I.o.1 I.o.2.1 I.o.2.2 Y ba (by simp) E.o.2.2.1 E.o.2.2.2 E.o.1 (by simpa using E.o.2.1)⟩
theorem dh (B g:Nat)(O:Nat->Prop)(q:List Nat)(k:Nat)(w:World)(D:ER B g w O (k::q))(aj:q.length<=1000):Calls Tryz.prog 191 #[.pointer (some ⟨g,0,none⟩)] w fun e w'=>e=.returned (.int .i64 k)/\KY B g w w' O q:=by
 obtain⟨v,F,h,I,H,U,E⟩:=D;obtain⟨b,ad,cap,rfl,ai,W,ab,ac,s1,K⟩:=I.first;have Z:=y9 h;have al:=free_of_one h;have V:=xR h;unfold maxLen at W;by_cases Y:1<cap
 ·
  have N:=qX (s1 Y);have J:=qX h;have z:=qZ H U E;clear h I H E s1 K;go_in
  go_wp2
  go_ret;exact⟨rfl,Ll z.o.1 z.o.2.1 z.o.2.2 V br lr (But.refl _ _) J.o N.o (fun _ D=>.inl D)⟩
 obtain rfl:cap=1:=by omega
 obtain⟨rfl,Q⟩:=K rfl;have N:=qX Q;have J:=qX h;have z:=qZ H U E;clear h I H E s1 K Q;simp only[vU,vC]at Z;go_in
 go_wp2
 go_ret;exact⟨rfl,Ll z.o.1 z.o.2.1 z.o.2.2 V br lr (But.refl _ _) J.o N.o (fun _ D=>.inl D)⟩
theorem fU (B g:Nat)(E:Nat->Prop)(q:List Nat)(w:World)(J:ER B g w E q):Calls Tryz.prog 192 #[.pointer (some ⟨g,0,none⟩)] w fun e w'=>e=.returned (.int .i64 (q.length:Int))/\w'=w:=by
 obtain⟨v,F,z,h,I,Q,H⟩:=J;obtain⟨O,cap,rfl,N,D⟩:=h.form;have K:=y9 z;unfold maxLen at D;clear z h I H;go_in
 go_wp2
 go_ret;exact⟨rfl,rfl⟩
def MV (g:Nat):Value:=.agg #[.func (.func 190) #[] #[.pointer (some ⟨g,0,none⟩)],.func (.func 191) #[] #[.pointer (some ⟨g,0,none⟩)],.func (.func 192) #[] #[.pointer (some ⟨g,0,none⟩)]]
theorem KY.after {B g:Nat}{w E w':World}{D:Nat->Prop}{q:List Nat}(z:zW w E)(h:KY B g E w' D q):KY B g w w' D q:=by
 obtain⟨I,N,J,K⟩:=h;refine⟨I,N,(But.ofBelow z).trans J,fun k H=>?_⟩;rcases K k H with h|h
 · exact .inl h
 exact .inr (qI z.size h)
theorem ER.alloc {B g:Nat}{w:World}{z:Nat->Prop}{q:List Nat}(h:ER B g w z q)(o:Obj):ER B g (w.alloc o) z q:=
 h.but (S:=fun _=>False) (.ofBelow ba) (fun _ _ h=>h)
theorem T9 (B g:Nat)(h:Nat->Prop)(q:List Nat)(w:World)(D:ER B g w h q):Calls Tryz.prog 282 #[MV g] w fun e w'=>e=.returned (.int .i64 (q.length:Int))/\KY B g w w' h q:=by
 have z:=qX D;clear D;unfold MV;go_in
 go_wp2_with fail;refine(fU B g h q _ (z.o.alloc _)).mono ?_
 rintro e H ⟨rfl,rfl⟩;go_wp2
 go_ret;exact⟨rfl,h,z.o.alloc _,.ofBelow ba,fun k E=>.inl E⟩
theorem Uk (B g:Nat)(h:Nat->Prop)(q:List Nat)(k:Nat)(w:World)(D:ER B g w h (k::q))(E:q.length<=1000):Calls Tryz.prog 281 #[MV g] w fun e w'=>e=.returned (.int .i64 k)/\KY B g w w' h q:=by
 have I:=qX D;clear D;unfold MV;go_in
 go_wp2_with fail;refine(dh B g h q k _ (I.o.alloc _) E).mono ?_
 rintro e H ⟨rfl,z⟩;have J:Hid (KY B g w H h q):=z.after ba;clear z;go_wp2
 go_ret;exact⟨rfl,J.o⟩
theorem TF (B g:Nat)(h:Nat->Prop)(q:List Nat)(k:Nat)(w:World)(D:ER B g w h q)(E:q.length<=1000):Calls Tryz.prog 280 #[MV g,.int .i64 k] w fun e w'=>e=.returned (.tuple #[])/\KY B g w w' h (q++[k]):=by
 have I:=qX D;clear D;unfold MV;go_in
 go_wp2_with fail;refine(dG B g h q k _ (I.o.alloc _) E).mono ?_
 rintro e H ⟨rfl,z⟩;have J:Hid (KY B g w H h (q++[k])):=z.after ba;clear z;go_wp2
 go_end0;exact⟨rfl,J.o⟩
theorem We (w:World):Calls Tryz.prog 160 #[] w fun e w'=>e=.returned (.iface 256 (MV w.heap.size))/\ER w.heap.size w.heap.size w' (fun k=>k=w.heap.size) []/\zW w w':=by
 unfold MV;go_in
 go_wp2
 go_ret;refine⟨rfl,⟨.slice none 0 0,fun _=>False,?_,Bl.nil _ _,id,lr,fun k=>by simp⟩,ba⟩;exact vZ w _
theorem Aw.at_lt {w:World}{a:oA}{ps:List Pk}(D:Aw w a ps):∀ h,a=some h->0<ps.length->h.block<w.heap.size:=by
 intro h e z;obtain⟨b,H,rfl,E,-⟩:=D.place z;cases e
 exact E
theorem iE (B g:Nat):IK (ER B g) B:=⟨fun _ _ _ h=>h.foot,fun _ _ _ _ _ h z D _=>h.but z D⟩
theorem Wi (a:oA)(cap:Nat)(ps:List Pk)(per:Int)(g:Nat)(w:World)(W:Aw w a ps)(E:Al ps)(Z:1<=per)(ai:per<=1000)(aj:∀ N,a=some N->0<ps.length->N.block<g)(H:ER g g w (fun k=>k=g) []):Calls Tryz.prog 159 #[.slice a ps.length cap,.int .i64 per,.iface 256 (MV g)] w fun e w'=>∃ v,e=.returned v/\DX w' w.heap.size v (BZ per ps ps.length)/\Below g w w':=by
 have J:=dS (per:=per) (by omega) E;have ad:g<=w.heap.size:=x9 (H.foot g rfl).2;refine(PW JA (ER g g) per ps [] g _ _ _ (iE g g) J E Z ai ?_ ?_ ?_ a cap w W ad aj _ H).mono ?_
 · intro w D s p h al z;have U:=h.count J;have I:=h.next_le;have:=E.few;exact TF g g D s.q s.next w z (by have:JA.rest s.q=s.q.length:=rfl;omega)
 ·
  intro w D s h H z;have U:=h.count J;have I:=h.next_le;have:=E.few;have O:s.q.length<=1000:=by have:JA.rest s.q=s.q.length:=rfl;omega
  have K:0<s.q.length:=H;obtain⟨k,q,ac⟩:∃ k q,s.q=k::q:=by
   cases Y:s.q with
   | nil=>rw[Y]at K;simp at K
   | cons k q=>exact⟨k,q,rfl⟩
  rw[ac]at z O ⊢;exact Uk g g D q k w z (by simp at O;omega)
 · intro w D s h z;rw[MK _ (fun _=>rfl)];exact T9 g g D s.q w z
 rintro e w' ⟨s,v,rfl,h,I,ab,V,Q⟩;exact⟨v,rfl,by rw[<- eG (by omega) E h I ab];exact V,Q⟩
theorem WM (a:oA)(cap:Nat)(ps:List Pk)(per:Int)(w:World)(E:Aw w a ps)(D:Al ps)(Q:1<=per)(J:per<=1000):Calls Tryz.prog 132 #[.slice a ps.length cap,.int .i64 per] w fun e w'=>∃ v,e=.returned (.tuple #[v,.nilIface])/\DX w' w.heap.size v (BZ per ps ps.length)/\zW w w':=by
 have H:=qY E D;have U:=qX (Dq a cap ps per w E D Q J);clear E D;go_in
 go_wp2_with fail;refine U.o.mono ?_
 rintro e K ⟨rfl,h⟩;have z:=qX h;clear h;go_wp2_with fail;refine(We K).mono ?_
 rintro e V ⟨rfl,O,h⟩;have N:=qX h;have W:=qX O;have Y:=qX ((H.o.1.below z.o).below h);have Z:=qX ((H.o.1.below z.o).at_lt);clear h O;go_wp2_with fail;refine(Wi a cap ps per K.heap.size V Y.o H.o.2 Q J Z.o W.o).mono ?_
 rintro e ac ⟨v,rfl,I,h⟩;have ab:=qY (Bb I (qI z.o.size N.o.size)) (z.o.trans ((N.o.mono z.o.size).trans (h.mono z.o.size)));clear I h;go_wp2
 go_ret2;exact⟨v,rfl,ab.o⟩
theorem Vh {R:TypeId->Value->World->Prop}(a:oA)(n cap:Nat)(per:Int)(w:World)(D:Calls Tryz.prog 158 #[.slice a n cap,.int .i64 per] w fun e w'=>∃ h v,e=.returned (.iface h v)/\R h v w'):Calls Tryz.prog 132 #[.slice a n cap,.int .i64 per] w fun e w'=>∃ h v,e=.returned (.tuple #[.slice none 0 0,.iface h v])/\R h v w':=by
 have E:=qX D;clear D;go_in
 go_wp2_with fail;refine E.o.mono ?_
 rintro e I ⟨h,v,rfl,z⟩;have H:=qX z;clear z;go_wp2
 go_ret2;exact⟨h,v,rfl,H.o⟩
def EG (ps:List Pk)(per c p:Int):Prop:=
 (EF ps c p/\0<c)\/(Al ps/\(per<1\/1000<per)/\c=2/\p = -1)\/(Al ps/\1<=per/\per<=1000/\c=0/\p = -1)
theorem Gp (a:oA)(cap:Nat)(ps:List Pk)(per c p:Int)(w:World)(D:Nat->Addr)(E:A8 w D)(K:Aw w a ps)(O:ps.length<=cap)(N:cap<=maxLen)(H:EG ps per c p)(U:0<c):Calls Tryz.prog 158 #[.slice a ps.length cap,.int .i64 per] w fun e w'=>∃ h v,e=.returned (.iface h v)/\(Ba w' (.iface h v) c p/\zW w w'):=by
 rcases H with⟨H,V⟩|⟨I,Q,rfl,rfl⟩|⟨I,Z,Y,rfl,rfl⟩
 · refine Ru (R:=fun h v w'=>Ba w' (.iface h v) c p/\zW w w') a ps.length cap per w ((NU a cap ps w D E K O N c p H).mono ?_);rintro e w' ⟨W,rfl,J,z⟩;obtain⟨h,v,rfl⟩:=J.some_ (by omega);exact⟨h,v,rfl,J,z⟩
 ·
  refine(Rl a cap ps per w D E.bo K I Q).mono ?_
  rintro e w' ⟨rfl,z⟩;exact⟨_,_,rfl,Bo (E.below z) 1 (by decide),z⟩
 omega
theorem X6 (a:oA)(cap:Nat)(ps:List Pk)(per c p:Int)(w:World)(z:Nat->Addr)(J:A8 w z)(H:Aw w a ps)(I:ps.length<=cap)(D:cap<=maxLen)(K:EG ps per c p)(E:0<c):Calls Tryz.prog 132 #[.slice a ps.length cap,.int .i64 per] w fun e w'=>∃ h v,e=.returned (.tuple #[.slice none 0 0,.iface h v])/\(Ba w' (.iface h v) c p/\zW w w'):=
 Vh (R:=fun h v w'=>Ba w' (.iface h v) c p/\zW w w') a ps.length cap per w (Gp a cap ps per c p w z J H I D K E)
def Pm (per:Int)(ps:List Pk)(w:World)(e:Ending)(w':World):Prop:=∃ v,e=.returned v/\DX w' w.heap.size v (BZ per ps ps.length)/\zW w w'
theorem Xt (a:oA)(cap:Nat)(ps:List Pk)(per:Int)(w:World)(H:Aw w a ps)(z:Al ps)(Y:1<=per)(ab:per<=1000):Calls Tryz.prog 50 #[.slice a ps.length cap,.int .i64 per] w fun e w'=>Pm per ps w e w':=by
 have aj:=z.few;have I:Hid (∀ w',w'=w.alloc (.cells (madeCells #[.int .i64 0] ps.length) 3)->Calls Tryz.prog 67 #[.slice a ps.length cap,.int .i64 per,.slice (some ⟨w.heap.size,0,none⟩) ps.length ps.length] w' fun e K=>Pm per ps w e K):=fun w' e=>by
  subst e;have E:zW w (w.alloc (.cells (madeCells #[.int .i64 0] ps.length) 3)):=ba;refine(KV a cap ps per (some ⟨w.heap.size,0,none⟩) ps.length (List.replicate ps.length 0) _ (H.below E) (XN w ps.length 3) (by simp) z Y ab).mono ?_
  rintro e K ⟨v,l,rfl,D,h,Q,ad⟩;have Z:l=BZ per ps ps.length:=h.same (Qe z _ (fun i=>by
   rw[List.getD_eq_getElem?_getD,List.getElem?_replicate];split <;> rfl)) (by rw [Q,K6])
  subst Z;exact⟨v,rfl,Bb D (by simp),E.trans (ad.mono (by simp))⟩
 obtain⟨n,J⟩:=ex ps.length;rw[J]at aj I ⊢;have al:∀ w':World,(Instr.makeSlice 27 (.int .i64 n) (.int .i64 n)).run Tryz.prog w'=.ok (.slice (some ⟨w'.heap.size,0,none⟩) n n) (w'.alloc (.cells (madeCells #[.int .i64 0] n) 3)):=fun w'=>by
  obtain⟨O,U,W,N,ai⟩:=vL Tryz.infoInt;have:=yW (P:=Tryz.prog) w' 27 3 O (.int .i64 0) Tryz.underlying27 U W .i64 .i64 n n (by omega) (by omega) (by rw[ai];omega) (by omega);simpa[N,Value.cells]using this
 clear H z J;go_in
 go_wp2_with fail;refine(I.o _ rfl).mono ?_
 rintro e ac ⟨v,rfl,D,h⟩;have V:Hid (Pm per ps w (.returned v) ac):=⟨v,rfl,D,h⟩
 clear D h;go_wp2
 go_ret;exact V.o
theorem LH {ps:List Pk}{k:Nat}{p:Pk}(z:Al ps)(h:ps[k]? = some p):∃ m:Nat,m<8/\p.flow=(m:Int)/\Ag ps k=m:=by
 obtain⟨E,D,-⟩:=A7 (z.each _ p h).1;exact⟨p.flow.toNat,by omega,by omega,FI h⟩
theorem O7 {ns:List Int}(z:ns.length=8){m:Nat}(D:m<8):∃ x,ns[m]? = some x/\ns.getD m 0=x:=by
 obtain⟨x,h,-⟩:=Ab ns m (by omega);exact⟨x,h,by simp[List.getD,h]⟩
theorem iw (ps:List Pk)(ns:List Int)(Q Z:Nat)(I:oA)(an:Nat)(H:oA)(ad:Nat)(w:World)(k:Nat)(ai:w.cell? ⟨Q,0,none⟩=some (.slice I ps.length an))(ac:w.cell? ⟨Z,0,none⟩=some (.slice H ns.length ad))(W:Aw w I ps)(U:AR w H ns)(z:Al ps)(h:ns.length=8)(O:k<ps.length):Calls Tryz.prog 162 #[.int .i64 k,.pointer (some ⟨Z,0,none⟩),.pointer (some ⟨Q,0,none⟩)] w fun e w'=>e=.returned (.int .i64 (E9 ps ns k))/\∃ m,w'=w.drewN m:=by
 obtain⟨p,hpk,-⟩:=Ab ps k O;obtain⟨m,al,K,N⟩:=LH z hpk;obtain⟨x,J,ab⟩:=O7 h al;obtain⟨b,aj,rfl,-,D⟩:=W.place (by omega);obtain⟨ar,ap,rfl,-,V⟩:=U.place (by omega);have ao:w.cell? ⟨b,aj+k*3,none⟩=some (.int .i64 m):=by rw[<- K];exact(D k p hpk).1
 have aq:=V m x J;have E:E9 ps ns k=x:=by rw[E9,N];exact ab
 have am:=z.few;obtain⟨n,Y⟩:=ex ps.length;rw[Y]at ai O am;rw[h]at ac;rw[E];clear W U D V hpk J z h E ab Y N K;go_in
 go_wp2
 go_quiet (fail);go_wp2
 go_ret;exact⟨rfl,_,rfl⟩
theorem jL (ps:List Pk)(ns:List Int)(W ad:Nat)(K:oA)(ap:Nat)(J:oA)(al:Nat)(w:World)(k:Nat)(am:w.cell? ⟨W,0,none⟩=some (.slice K ps.length ap))(aj:w.cell? ⟨ad,0,none⟩=some (.slice J ns.length al))(ab:Aw w K ps)(Y:AR w J ns)(z:Al ps)(h:DF 0 1099511627776 ns)(V:k<ps.length):Calls Tryz.prog 164 #[.int .i64 k,.pointer (some ⟨W,0,none⟩),.pointer (some ⟨ad,0,none⟩)] w fun e w'=>e=.returned (.int .i64 (Ar ps k+E9 ps ns k))/\∃ m,w'=w.drewN m:=by
 obtain⟨p,hpk,-⟩:=Ab ps k V;obtain⟨m,an,O,Q⟩:=LH z hpk;obtain⟨x,H,ai⟩:=O7 h.len an;obtain⟨b,U,rfl,-,E⟩:=ab.place (by omega);obtain⟨aE,ar,rfl,-,Z⟩:=Y.place (by have:=h.len;omega);have aq:w.cell? ⟨b,U+k*3,none⟩=some (.int .i64 m):=by rw[<- O];exact(E k p hpk).1
 obtain⟨t,D⟩:=ex p.tick;have aS:w.cell? ⟨b,U+k*3+2,none⟩=some (.int .i64 t):=by rw[<- D];exact(E k p hpk).2.2
 have av:=Z m x H;obtain⟨a1,aB⟩:=(show 0<=t/\t<=1099511627776 by rw[<- D];have:=A7 (z.each _ p hpk).1;omega)
 obtain⟨aN,aw⟩:=h.each m x H;have I:Ar ps k+E9 ps ns k=t+x:=by rw[E9,Q,ai,Av hpk,D]
 have ao:=z.few;have N:=h.len;obtain⟨n,ac⟩:=ex ps.length;rw[ac]at am V ao;rw[N]at aj;rw[I];have a0:IntKind.i64.wrap (t+x)=t+x:=vY _ (by omega);clear ab Y E Z hpk H z h I ai ac Q O N D;go_in
 go_wp2
 go_quiet (fail);go_wp2
 go_ret;exact⟨rfl,_,rfl⟩
theorem Iq {w:World}{B:Nat}{v:Value}{zs:List Int}(D:w.ownsRow B 3 1 v zs.length (ints zs)):∃ a cap,v=.slice a zs.length cap/\zs.length<=cap/\cap<=maxLen/\AR w a zs/\(a=none->zs=[]/\cap=0):=by
 have I:=D;obtain⟨Q,⟨rfl,h⟩|⟨g,cap,U,rfl,O,J,E,H,N,K⟩⟩:=D
 · have e:zs=[]:=qN.1 h;exact⟨none,0,by rw[h],by omega,by simp[maxLen],.inl e,fun _=>⟨e,rfl⟩⟩
 refine⟨_,cap,rfl,E,H,.inr ⟨g,0,rfl,xR J,fun i x z=>?_⟩,fun e=>by cases e⟩;rw[vC,I.cellAt i (by have:=(vK.1 z).1;omega)];exact Hu z
def Ib (w wr:World)(v:Value)(h:List Int)(k:Nat):Prop:=wr.ownsRow w.heap.size 3 1 v k (ints (h.take k))/\zW w wr
theorem Ib.next {w wr D:World}{v E:Value}{h:List Int}{k:Nat}{x:Int}(z:Ib w wr v h k)(H:h[k]? = some x)(o:Obj)(K:D.ownsRow w.heap.size 3 1 E (k+1) (ints (h.take k)++ints [x]))(I:(wr.alloc o).grownBy D v.ownBlock):Ib w D E h (k+1):=by
 refine⟨?_,(z.2.alloc z.2.size _).grown I (qI z.2.size (by simp)) (fun j J=>(Aq z.1 J).1)⟩;rw[vF,H,Oc];exact K
theorem XG (a:oA)(cap:Nat)(ps:List Pk)(per:Int)(na:oA)(ncap:Nat)(ns:List Int)(w:World)(hl:Aw w a ps)(hn:AR w na ns)(ho:Al ps)(h8:ns.length=8)(h1:1<=per)(h2:per<=1000):Calls Tryz.prog 46 #[.slice a ps.length cap,.int .i64 per,.slice na ns.length ncap] w fun e w'=>EI per ps (Bz ps ns) w e w':=by
 obtain⟨i0,hi,hz0,hz1,hz2⟩:=vL Tryz.infoInt;have HP:=qY hl ho;have HN:=qY hn h8;have hfew:=ho.few;have HLeast:Hid (∀ W v,Ib w W v (Bz ps ns) ps.length->Calls Tryz.prog 67 #[.slice a ps.length cap,.int .i64 per,v] W fun e w'=>EI per ps (Bz ps ns) w e w'):=fun W v hK=>by
  have ek:(Bz ps ns).take ps.length=Bz ps ns:=vP (by rw[DI];exact lr);have hown:=hK.1;rw[ek,<- DI ps ns]at hown;obtain⟨ka,kcap,rfl,-,-,hlk,-⟩:=Iq hown;rw[DI];refine(KV a cap ps per ka kcap (Bz ps ns) W (hl.below hK.2) hlk (DI _ _) ho h1 h2).mono ?_
  rintro e w' ⟨v,l,rfl,g1,g2,g3,g4⟩;exact⟨v,l,rfl,Bb g1 hK.2.size,g2,g3,hK.2.tr g4⟩
 clear hl hn ho;obtain⟨n,hnn⟩:=ex ps.length;have HNN:=qX hnn;rw[hnn]at hfew HLeast ⊢;rw[h8];clear hnn h8;go_in
 go_wp2_with fail;go_loopg [7,8] n (fun gk v i wr=>∃ k:Nat,gk+k=n/\i=.int .i64 k/\Ib w wr v (Bz ps ns) k)
 case atStart=>exact⟨0,by omega,rfl,qQ _ _ _ _,br⟩
 case round=>
  obtain⟨k,hgk,rfl,hK⟩:=hrel;have HK:=qX hK;clear hK;by_cases hkn:k<n
  ·
   obtain⟨p,hpk,-⟩:=Ab ps k (by rw[HNN.o];exact hkn);obtain⟨fl,hfl,hf,hfo⟩:=LH HP.o.2 hpk;obtain⟨du,hdu,hdud⟩:=O7 HN.o.2 hfl;obtain⟨b2,o2,rfl,-,hc2⟩:=HP.o.1.place (by rw[HNN.o];omega);obtain⟨b3,o3,rfl,-,hc3⟩:=HN.o.1.place (by have:=HN.o.2;omega);have e1:wr.cell? ⟨b2,o2+k*3,none⟩=some (.int .i64 fl):=by rw[<- hf];exact j7 HK.o.2 (hc2 k _ hpk).1
   have d2:=j7 HK.o.2 (hc3 fl du hdu);have HX:Hid ((Bz ps ns)[k]? = some du):=by
    show _=_
    rw[qE (by rw[DI,HNN.o];exact hkn),<- getD_lt (d:=0),Nw (by rw[HNN.o];exact hkn),E9,hfo,hdud]
   have HOw:Hid ((wr.alloc (.cells #[.int .i64 du] 3)).ownsRow w.heap.size 3 1 u7 k (ints ((Bz ps ns).take k))):=Ah HK.o.1 (fun g' _ hg'=>(ba:zW wr _).block g' hg');have HNew:Hid (∀ j u,(ints [du])[j]? = some u->(wr.alloc (.cells #[.int .i64 du] 3)).cell? (Addr.add ⟨wr.heap.size,0,none⟩ j)=some u):=by
    intro j u hu;cases j with
    | zero=>simp[ints]at hu;subst hu;simp[Addr.add]
    | succ j=>simp[ints]at hu
   have HBs:Hid (w.heap.size<=(wr.alloc (.cells #[.int .i64 du] 3)).heap.size):=qI HK.o.2.size (by simp);clear hc2 hc3 hpk hf hfo hdu hdud;go_wp2_with (at_builtin;go_must (refine wpList_append_lies _ rfl _ _ 27 rfl w.heap.size 3 i0 (.int .i64 0) 1 8 Tryz.underlying27 hi hz0 hz1 hz2 rfl (by decide) u7 k (ints ((Bz ps ns).take k)) rfl HOw.o ⟨wr.heap.size,0,none⟩ 1 1 (ints [du]) rfl rfl HNew.o (D7 _) (by decide) (by unfold maxLen;omega) (by omega) HBs.o _ rfl ?_;intro g5 cap5 w5 ho5 hg5 hat5 hlt5;have H5:Hid (Ib w w5 (.slice (some ⟨g5,0,none⟩) (k+1) cap5) (Bz ps ns) (k+1)):=HK.o.next HX.o _ ho5 hg5;clear ho5 hg5 hat5 hlt5))
   go_roundg (gk-1)
   case measure=>omega
   case rel=>exact⟨k+1,by omega,by go_num,H5.o⟩
  obtain rfl:k=n:=by omega
  have HC:=qX (HLeast.o wr u7 HK.o);go_wp2_with fail;refine HC.o.mono ?_
  rintro e w1 ⟨v,l,rfl,g1,g2,g3,g4⟩;have HE:Hid (EI per ps (Bz ps ns) w (.returned v) w1):=⟨v,l,rfl,g1,g2,g3,g4⟩
  clear g1 g2 g3 g4;go_wp2
  go_ret;exact HE.o
theorem Xk (a:oA)(cap:Nat)(ps:List Pk)(per:Int)(na:oA)(ncap:Nat)(ns:List Int)(w:World)(hl:Aw w a ps)(hn:AR w na ns)(ho:Al ps)(hk8:DF 0 1099511627776 ns)(h1:1<=per)(h2:per<=1000):Calls Tryz.prog 47 #[.slice a ps.length cap,.int .i64 per,.slice na ns.length ncap] w fun e w'=>EI per ps (BP ps ns) w e w':=by
 obtain⟨i0,hi,hz0,hz1,hz2⟩:=vL Tryz.infoInt;have HP:=qY hl ho;have h8:=hk8.len;have HN:=qY hn hk8;have hfew:=ho.few;have HLeast:Hid (∀ W v,Ib w W v (BP ps ns) ps.length->Calls Tryz.prog 67 #[.slice a ps.length cap,.int .i64 per,v] W fun e w'=>EI per ps (BP ps ns) w e w'):=fun W v hK=>by
  have ek:(BP ps ns).take ps.length=BP ps ns:=vP (by rw[Ed];exact lr);have hown:=hK.1;rw[ek,<- Ed ps ns]at hown;obtain⟨ka,kcap,rfl,-,-,hlk,-⟩:=Iq hown;rw[Ed];refine(KV a cap ps per ka kcap (BP ps ns) W (hl.below hK.2) hlk (Ed _ _) ho h1 h2).mono ?_
  rintro e w' ⟨v,l,rfl,g1,g2,g3,g4⟩;exact⟨v,l,rfl,Bb g1 hK.2.size,g2,g3,hK.2.tr g4⟩
 clear hl hn ho hk8;obtain⟨n,hnn⟩:=ex ps.length;have HNN:=qX hnn;rw[hnn]at hfew HLeast ⊢;rw[h8];clear hnn h8;go_in
 go_wp2_with fail;go_loopg [7,8] n (fun gk v i wr=>∃ k:Nat,gk+k=n/\i=.int .i64 k/\Ib w wr v (BP ps ns) k)
 case atStart=>exact⟨0,by omega,rfl,qQ _ _ _ _,br⟩
 case round=>
  obtain⟨k,hgk,rfl,hK⟩:=hrel;have HK:=qX hK;clear hK;by_cases hkn:k<n
  ·
   obtain⟨p,hpk,-⟩:=Ab ps k (by rw[HNN.o];exact hkn);obtain⟨fl,hfl,hf,hfo⟩:=LH HP.o.2 hpk;obtain⟨du,hdu,hdud⟩:=O7 HN.o.2.len hfl;obtain⟨b2,o2,rfl,-,hc2⟩:=HP.o.1.place (by rw[HNN.o];omega);obtain⟨b3,o3,rfl,-,hc3⟩:=HN.o.1.place (by have:=HN.o.2.len;omega);have e1:wr.cell? ⟨b2,o2+k*3,none⟩=some (.int .i64 fl):=by rw[<- hf];exact j7 HK.o.2 (hc2 k _ hpk).1
   have d2:=j7 HK.o.2 (hc3 fl du hdu);obtain⟨tk,htk⟩:=ex p.tick;have e3:wr.cell? ⟨b2,o2+k*3+2,none⟩=some (.int .i64 tk):=by rw[<- htk];exact j7 HK.o.2 (hc2 k _ hpk).2.2
   have hdr:=HN.o.2.each fl du hdu;have htr:0<=tk/\tk<=1099511627776:=by have:=A7 (HP.o.2.each _ p hpk).1;omega
   obtain⟨kv,hkv⟩:=ex (tk+du);have hw:IntKind.i64.wrap (tk+du)=kv:=by rw[<- hkv];exact vY _ (by omega)
   have HX:Hid ((BP ps ns)[k]? = some kv):=by
    show _=_
    rw[qE (by rw[Ed,HNN.o];exact hkn),<- getD_lt (d:=0),Od (by rw[HNN.o];exact hkn),E9,hfo,hdud,Av hpk,htk,hkv]
   have HOw:Hid ((wr.drew.alloc (.cells #[.int .i64 kv] 3)).ownsRow w.heap.size 3 1 u7 k (ints ((BP ps ns).take k))):=Ah HK.o.1 (fun g' _ hg'=>(br.drew.alloc lr _:zW wr (wr.drew.alloc _)).block g' hg');have HNew:Hid (∀ j u,(ints [kv])[j]? = some u->(wr.drew.alloc (.cells #[.int .i64 kv] 3)).cell? (Addr.add ⟨wr.heap.size,0,none⟩ j)=some u):=World.news_of_block (cs:=#[.int .i64 kv]) (t:=3) (vZ wr.drew _);have HBs:Hid (w.heap.size<=(wr.drew.alloc (.cells #[.int .i64 kv] 3)).heap.size):=qI HK.o.2.size (by simp);have HKd:Hid (Ib w wr.drew u7 (BP ps ns) k):=⟨Ah HK.o.1 (fun g' _ hg'=>rfl),HK.o.2.drew⟩
   have HCw:Hid (w.cell? ⟨b2,o2+k*3,none⟩=some (.int .i64 fl)/\w.cell? ⟨b2,o2+k*3+2,none⟩=some (.int .i64 tk)/\w.cell? ⟨b3,o3+fl,none⟩=some (.int .i64 du)):=⟨by rw[<- hf];exact(hc2 k _ hpk).1,by rw[<- htk];exact(hc2 k _ hpk).2.2,hc3 fl du hdu⟩
   clear hc2 hc3 hpk hf hfo hdu hdud htk hkv;go_wp2_with fail;go_region_held_law (fun w'=>w'.cell? ⟨b2,o2+k*3,none⟩=some (.int .i64 fl)/\w'.cell? ⟨b2,o2+k*3+2,none⟩=some (.int .i64 tk)/\w'.cell? ⟨b3,o3+fl,none⟩=some (.int .i64 du)) (go_keep)
    (first
     | (refine step_append_lies _ rfl _ _ 27 rfl w.heap.size 3 i0 (.int .i64 0) 1 8 Tryz.underlying27 hi hz0 hz1 hz2 rfl (by decide) u7 k (ints ((BP ps ns).take k)) rfl HOw.o ⟨wr.heap.size,0,none⟩ 1 1 (ints [kv]) rfl rfl HNew.o (D7 _) (by decide) (by unfold maxLen;omega) (by omega) HBs.o _ rfl ?_
        intro g5 cap5 w5 ho5 hg5 hat5 hlt5;have H5:=qX (HKd.o.next HX.o _ ho5 hg5);have y1:=j7 H5.o.2 HCw.o.1;have y2:=j7 H5.o.2 HCw.o.2.1;have y3:=j7 H5.o.2 HCw.o.2.2;clear ho5 hg5 hat5 hlt5)
     | fail)
   all_goals
    go_wp2
    go_roundg (gk-1)
    case measure=>omega
    case rel=>exact⟨k+1,by omega,by go_num,H5.o⟩
  obtain rfl:k=n:=by omega
  have HC:=qX (HLeast.o wr u7 HK.o);go_wp2_with fail;refine HC.o.mono ?_
  rintro e w1 ⟨v,l,rfl,g1,g2,g3,g4⟩;have HE:Hid (EI per ps (BP ps ns) w (.returned v) w1):=⟨v,l,rfl,g1,g2,g3,g4⟩
  clear g1 g2 g3 g4;go_wp2
  go_ret;exact HE.o
structure Jq (w:World)(g n next:Nat):Prop where
 cell:∀ i,i<n->w.cell? ⟨g,i,none⟩=some (.bool (decide (i<next)))
 frozen:∀ i,w.frozen? ⟨g,i,none⟩=false
 lt:g<w.heap.size
structure Lg (w:World)(g:Nat)(cr:Nat->Int):Prop where
 cell:∀ f,f<8->w.cell? ⟨g,f,none⟩=some (.int .i64 (cr f))
 frozen:∀ i,w.frozen? ⟨g,i,none⟩=false
 lt:g<w.heap.size
theorem SL (w:World)(n:Nat)(t:TypeId):Jq (w.alloc (.cells (madeCells #[.bool false] n) t)) w.heap.size n 0:=by
 refine⟨fun i h=>?_,fun i=>vQ w _ _ i,by simp⟩;rw[qO _ _ _ _ rfl];simpa using Gr _ _ _ h
theorem aI (w:World)(t:TypeId):Lg (w.alloc (.cells (madeCells #[.int .i64 0] 8) t)) w.heap.size (fun _=>0):=by
 refine⟨fun i h=>?_,fun i=>vQ w _ _ i,by simp⟩;rw[qO _ _ _ _ rfl];exact Gr _ _ _ h
theorem Jq.of_block {w w':World}{g n k:Nat}(h:Jq w g n k)(z:w'.heap[g]? = w.heap[g]?)(E:w.heap.size<=w'.heap.size):Jq w' g n k:=
 ⟨fun i D=>(yE (a:=⟨g,i,none⟩) z).trans (h.cell i D),fun i=>(xY (a:=⟨g,i,none⟩) z).trans (h.frozen i),qD h.lt E⟩
theorem Lg.of_block {w w':World}{g:Nat}{cr:Nat->Int}(h:Lg w g cr)(z:w'.heap[g]? = w.heap[g]?)(E:w.heap.size<=w'.heap.size):Lg w' g cr:=
 ⟨fun i D=>(yE (a:=⟨g,i,none⟩) z).trans (h.cell i D),fun i=>(xY (a:=⟨g,i,none⟩) z).trans (h.frozen i),qD h.lt E⟩
theorem Jq.put {w:World}{g n k:Nat}(h:Jq w g n k)(D:k<n):Jq (w.setCell ⟨g,k,none⟩ (.bool true)) g n (k+1):=by
 refine⟨fun i z=>?_,fun i=>by rw[qK];exact h.frozen i,by simp[World.setCell];exact h.lt⟩;by_cases e:k=i
 · subst e;rw[qT _ _ _ (by rw[h.cell k D];rfl)];simp
 rw[j9 _ _ _ _ (by intro E;cases E;exact e rfl),h.cell i z]
 congr 2
 simp only[decide_eq_decide];omega
theorem Lg.put {w:World}{g:Nat}{cr:Nat->Int}(h:Lg w g cr){f:Nat}(E:f<8)(x:Int):Lg (w.setCell ⟨g,f,none⟩ (.int .i64 x)) g (AB cr f x):=by
 refine⟨fun i D=>?_,fun i=>by rw[qK];exact h.frozen i,by simp[World.setCell];exact h.lt⟩;by_cases e:f=i
 · subst e;rw[qT _ _ _ (by rw[h.cell f E];rfl),AJ]
 rw[j9 _ _ _ _ (by intro z;cases z;exact e rfl),h.cell i D,Au _ _ (fun z=>e z.symm)]
structure Bj (w wr:World)(gd gc gk n:Nat)(v:Value)(out:List Sn)(next:Nat)(cr:Nat->Int)(rv:Value)(F:Nat->Prop)(row:List Nat):Prop where
 own:DX wr w.heap.size v out
 done:ES wr gd n out
 came:Jq wr gc n next
 cred:Lg wr gk cr
 row:Bl wr w.heap.size rv F row
 ne:gd≠gc/\gd≠gk/\gc≠gk
 vne:v.ownBlock≠some gd/\v.ownBlock≠some gc/\v.ownBlock≠some gk
 fne:¬F gd/\¬F gc/\¬F gk/\∀ k,F k->v.ownBlock≠some k
 new:w.heap.size<=gd/\w.heap.size<=gc/\w.heap.size<=gk
 below:zW w wr
section
variable {w wr wr':World} {gd gc gk n:Nat} {v:Value} {out:List Sn} {next:Nat} {cr:Nat → Int} {rv:Value} {F:Nat → Prop} {row:List Nat}
theorem Bj.later (h:Bj w wr gd gc gk n v out next cr rv F row)(z:zW wr wr'):Bj w wr' gd gc gk n v out next cr rv F row:=
 ⟨Ah h.own (fun g _ D=>z.block g D),h.done.of_block (z.block gd h.done.lt) z.size,h.came.of_block (z.block gc h.came.lt) z.size,h.cred.of_block (z.block gk h.cred.lt) z.size,h.row.but (S:=fun _=>False) (.ofBelow z) (fun _ _ h=>h),h.ne,h.vne,h.fne,h.new,h.below.tr z⟩
theorem Bj.alloc (h:Bj w wr gd gc gk n v out next cr rv F row)(o:Obj):Bj w (wr.alloc o) gd gc gk n v out next cr rv F row:=h.later ba
theorem Jn (w:World)(g i:Nat)(v:Value):But (fun k=>k=g) w (w.setCell ⟨g,i,none⟩ v):=But.setCell (S:=fun k=>k=g) (But.refl _ w) (p:=⟨g,i,none⟩) rfl v
theorem size_setCell (w:World)(a:Addr)(v:Value):(w.setCell a v).heap.size=w.heap.size:=by simp[World.setCell]
theorem Bj.setCame (h:Bj w wr gd gc gk n v out next cr rv F row)(E:next<n):Bj w (wr.setCell ⟨gc,next,none⟩ (.bool true)) gd gc gk n v out (next+1) cr rv F row:=by
 have z:=Jn wr gc next (.bool true);exact⟨Ah h.own (fun g I H=>z.block g H (fun e=>h.vne.2.1 (by rw[<- e];exact I))),h.done.of_block (z.block gd h.done.lt h.ne.1) z.size,h.came.put E,h.cred.of_block (z.block gk h.cred.lt (fun e=>h.ne.2.2 e.symm)) z.size,h.row.but z (fun k D e=>h.fne.2.1 (by rw[<- e];exact D)),h.ne,h.vne,h.fne,h.new,h.below.trans (z.below h.below.size fun k D=>by rw[D];exact h.new.2.1)⟩
theorem Bj.setCred (h:Bj w wr gd gc gk n v out next cr rv F row){f:Nat}(H:f<8)(x:Int):Bj w (wr.setCell ⟨gk,f,none⟩ (.int .i64 x)) gd gc gk n v out next (AB cr f x) rv F row:=by
 have z:=Jn wr gk f (.int .i64 x);exact⟨Ah h.own (fun g I E=>z.block g E (fun e=>h.vne.2.2 (by rw[<- e];exact I))),h.done.of_block (z.block gd h.done.lt h.ne.2.1) z.size,h.came.of_block (z.block gc h.came.lt h.ne.2.2) z.size,h.cred.put H x,h.row.but z (fun k D e=>h.fne.2.2.1 (by rw[<- e];exact D)),h.ne,h.vne,h.fne,h.new,h.below.trans (z.below h.below.size fun k D=>by rw[D];exact h.new.2.2)⟩
theorem Bj.setRow (h:Bj w wr gd gc gk n v out next cr rv F row){I:World}{Q:Value}{E:Nat->Prop}{N:List Nat}(z:But F wr I)(W:Bl I w.heap.size Q E N)(O:∀ k,E k->F k\/wr.heap.size<=k):Bj w I gd gc gk n v out next cr Q E N:=by
 have J:∀ g,g<wr.heap.size->¬F g->¬E g:=fun g U V Y=>by
  rcases O g Y with D|D
  · exact V D
  omega
 refine⟨Ah h.own (fun g U K=>z.block g K (fun e=>h.fne.2.2.2 g e U)),h.done.of_block (z.block gd h.done.lt h.fne.1) z.size,h.came.of_block (z.block gc h.came.lt h.fne.2.1) z.size,h.cred.of_block (z.block gk h.cred.lt h.fne.2.2.1) z.size,W,h.ne,h.vne,⟨J gd h.done.lt h.fne.1,J gc h.came.lt h.fne.2.1,J gk h.cred.lt h.fne.2.2.1,fun k H e=>?_⟩,h.new,h.below.trans (z.below h.below.size fun k H=>(h.row.foot k H).1)⟩;have K:=(Aq h.own e).2;rcases O k H with D|D
 · exact h.fne.2.2.2 k D e
 omega
theorem Bj.setDone (h:Bj w wr gd gc gk n v out next cr rv F row)(b:Nat)(ab:b<n){E:World}{f t:Int}{g' cap:Nat}(H:World)(V:H=wr.setCell ⟨gd,b,none⟩ (.bool true)){K:World}(J:zW H K)
  (U:E.ownsRow w.heap.size 61 3 (.slice (some ⟨g',0,none⟩) (out.length+1) cap) (out.length+1) (cellsS out++cellsS [⟨b,f,t⟩])) (D:K.grownBy E v.ownBlock) (N:v.ownBlock=some g'\/g'=K.heap.size):Bj w E gd gc gk n (.slice (some ⟨g',0,none⟩) (out.length+1) cap) (out++[⟨b,f,t⟩]) next cr rv F row:=by
 have al:=Jn wr gd b (.bool true);have hs1:H.heap.size=wr.heap.size:=by rw[V];exact size_setCell _ _ _
 have O:∀ g,g<wr.heap.size->v.ownBlock≠some g->g'≠g:=fun g W aj e=>by
  rcases N with N|N
  · exact aj (by rw[N,e])
  have:=J.size;omega
 have Q:But (fun k=>v.ownBlock=some k) K E:=⟨D.os,D.tape,D.output,D.size,fun k z ai=>D.block k z (fun e=>ai e.symm)⟩
 have ac:ES H gd n (out++[⟨b,f,t⟩]):=by rw[V];exact h.done.put b ab f t
 have ad:But (fun k=>k=gd) wr H:=by rw[V];exact al
 have I:But (fun k=>k=gd\/v.ownBlock=some k) wr E:=((ad.mono fun k z=>.inl z).trans (.ofBelow J)).trans (Q.mono fun k z=>.inr z);have Y:∀ g,g<wr.heap.size->g≠gd->v.ownBlock≠some g->E.heap[g]? = wr.heap[g]?:=fun g W U D=>I.block g W (fun e=>by rcases e with e|e;exact U e;exact D e)
 refine⟨?_,?_,h.came.of_block (Y gc h.came.lt (fun e=>h.ne.1 e.symm) h.vne.2.1) I.size,h.cred.of_block (Y gk h.cred.lt (fun e=>h.ne.2.1 e.symm) h.vne.2.2) I.size,h.row.but I (fun k z e=>?_),h.ne,⟨fun e=>O gd h.done.lt h.vne.1 (Option.some.inj e),fun e=>O gc h.came.lt h.vne.2.1 (Option.some.inj e),fun e=>O gk h.cred.lt h.vne.2.2 (Option.some.inj e)⟩,⟨h.fne.1,h.fne.2.1,h.fne.2.2.1,fun k z e=>O k (h.row.foot k z).2 (h.fne.2.2.2 k z) (Option.some.inj e)⟩,h.new,?_⟩
 · unfold DX;rw[qJ,GY];exact U
 ·
  have Z:gd<H.heap.size:=by rw[hs1];exact h.done.lt
  exact(ac.of_block (J.block gd Z) J.size).of_block (Q.block gd (qD Z J.size) h.vne.1) Q.size
 ·
  rcases e with e|e
  · exact h.fne.1 (by rw[<- e];exact z)
  exact h.fne.2.2.2 k z e
 refine h.below.trans (I.below h.below.size fun k z=>?_);rcases z with rfl|z
 · exact h.new.1
 exact(Aq h.own z).1
end
open Go.Maps (Keyed)
open Go.WideElems (Fit)
def MI:Lit->Bool
 | .int .i64 x=>!(decide (0<=x)&&decide (x<8))
 | _=>true
def XZ:Lit->Nat
 | .int _ x=>x.toNat
 | _=>0
theorem aQ {y:Lit}(h:MI y=false):∃ x:Nat,x<8/\y=.int .i64 x:=by
 cases y with
 | int q x=>
  cases q <;> simp only[MI]at h <;> try cases h
  have z:0<=x/\x<8:=by simpa using h
  exact⟨x.toNat,by omega,by rw[Int.toNat_of_nonneg z.1]⟩
 | _=>cases h
theorem Xb {x:Nat}(h:x<8):MI (.int .i64 x)=false:=by simp[MI];omega
theorem NF:∀(n:Nat)(l:List Nat),l.Nodup->(∀ x,x∈l->x<n)->l.length<=n
 | 0,[],_,_=>lr
 | 0,a::l,_,z=>absurd (z a (qA ..)) (vR _)
 | n+1,l,D,z=>by
  by_cases E:n∈l
  ·
   have:=NF n (l.erase n) (D.erase n) (fun x h=>by
    have H:=D.mem_erase_iff.1 h;have:=z x H.2;omega)
   rw[List.length_erase_of_mem E]at this;omega
  have:=NF n l D (fun x h=>by
   have H:=z x h;have:x≠n:=fun e=>E (by rw[<- e];exact h)
   omega)
  omega
theorem fA {V:Type}{h:List (Lit×DataW V)}(Q:h.Pairwise fun p q=>p.1≠q.1)(K:h.any (fun p=>MI p.1)=false):h.length<=8:=by
 have E:∀ p,p∈h->∃ x:Nat,x<8/\p.1=.int .i64 x:=fun p D=>aQ (by simpa using List.any_eq_false.1 K p D)
 have J:(h.map fun p=>XZ p.1).Nodup:=by
  refine List.pairwise_map.2 (xC.2 fun i j I H U e=>xC.1 Q i j I H U ?_);obtain⟨x,-,z⟩:=E _ (xQ I);obtain⟨y,-,N⟩:=E _ (xQ H);rw[z,N]at e ⊢;have:x=y:=by simpa[XZ]using e
  rw[this]
 have:=NF 8 _ J (fun a O=>by
  obtain⟨p,D,rfl⟩:=List.mem_map.1 O;obtain⟨x,z,e⟩:=E p D;rw[e];simpa [XZ] using z)
 simpa using this
def Hr (P:Program)(k e:TypeId)(w:World)(b:Nat)(f:Nat->Int):Prop:=
 ∃ es:List (Lit×DataW Unit),w.ownsMap P k (plainElem P e) b 8 (.map es)/\es.any (fun p=>MI p.1)=false/\∀ x:Nat,(DataW.map es).atKey (.int .i64 x) (.lit (.int .i64 0))=.lit (.int .i64 (f x))
section
variable {P:Program} {k e t:TypeId} {w w':World} {b:Nat} {f:Nat → Int}
theorem YH (w:World)(P:Program)(k e:TypeId):Hr P k e (w.alloc (.map #[] 0)) w.heap.size fun _=>0:=
 ⟨[],(World.ownsMap_made w P k _).mono (qR _),rfl,fun _=>rfl⟩
theorem Hr.lt (h:Hr P k e w b f):b<w.heap.size:=by
 obtain⟨D,z,-,-⟩:=h;exact z.lt
theorem Hr.but {S:Nat->Prop}(h:Hr P k e w b f)(z:But S w w')(V:¬S b):Hr P k e w' b f:=by
 have E:=h.lt;obtain⟨I,⟨D,K,U,N,J,Q⟩,H,O⟩:=h;exact⟨I,⟨D,K,(z.block b E V).trans U,N,J,Q⟩,H,O⟩
theorem Hr.look (N:Hr P k e w b f)(E:Keyed P k)(O:P.underlying t=some (.map k e))(J:P.underlying e=some (.int .i64))(K:(zeroValue e).run P w=.ok (.int .i64 0) w){x:Nat}(D:keyOf P k (.int .i64 x)=some (.int .i64 x)):(Instr.lookup t (.map (some b)) (.int .i64 x) false).run P w=.ok (.int .i64 (f x)) w:=by
 obtain⟨Q,I,U,H⟩:=N;obtain⟨c,z,h,-⟩:=I.lookup_int E O J K D;rw[H x]at h;injection h with h
 injection h with _ h
 rw[z,h]
theorem Hr.store (V:Hr P k e w b f)(O:Keyed P k)(ap:P.underlying t=some (.map k e))(ao:P.underlying e=some (.int .i64)){x:Nat}(ac:x<8)(Z:keyOf P k (.int .i64 x)=some (.int .i64 x)){v:Int}(al:(Lit.int .i64 v).wf=true):∃ w',(Instr.mapUpdate t (.map (some b)) (.int .i64 x) (.int .i64 v)).run P w=.ok () w'/\Hr P k e w' b (AB f x v)/\w.grownBy w' (some b):=by
 obtain⟨z,ab,ad,an⟩:=V;obtain⟨w',U,E,aj⟩:=ab.update O ap (by decide) Z (plainElem_int ao al);have Q:(DataW.map z).put (.int .i64 x) (.lit (.int .i64 v))=.map (DataW.insert (.int .i64 x,.lit (.int .i64 v)) (z.filter fun p=>!p.1.sameKey (.int .i64 x))):=rfl;have N:(DataW.insert (.int .i64 x,.lit (.int .i64 v)) (z.filter fun p=>!p.1.sameKey (.int .i64 x))).any (fun p=>MI p.1)=false:=by
  rw[Maps.any_insert,Xb ac,Bool.false_or];exact List.any_eq_false.2 fun p D=>List.any_eq_false.1 ad p (List.mem_filter.1 D).1
 have K:=E.tidy O;rw[Q]at E K;refine⟨w',U,⟨_,?_,N,fun y=>?_⟩,aj⟩
 ·
  obtain⟨aq,I,D⟩:=K;injection I with I
  rw[<- I]at D;have J:=fA D N;obtain⟨Y,ai,am,W,ar,h⟩:=E;refine⟨Y,ai,am,W,?_,h⟩;injection h with h
  rw[h,length_sorted]at J;simpa using J
 rw[<- Q];by_cases H:y=x
 · subst H;rw[AJ];exact Maps.atKey_put_same (k:=.int .i64 y) ⟨z,rfl⟩ trivial _ _
 rw[Au _ _ H,Maps.atKey_put_other (fun e=>H (by injection e with _ e;omega))];exact an y
theorem Hr.cleared (H:Hr P k e w b f)(I:P.underlying t=some (.map k e))(E:TypeId):∃ w',(Builtin.clear_ #[t] E #[.map (some b)]).run P w=.ok (.tuple #[]) w'/\Hr P k e w' b (fun _=>0)/\w.grownBy w' (some b):=by
 obtain⟨N,⟨J,z,h,Q,O,V⟩,K,U⟩:=H;refine⟨ChangeMaps.setBlock w b (.map #[] z),?_,⟨[],⟨#[],z,ChangeMaps.heap_setBlock_same h _,⟨by simp,MapKept.stamped_empty _,by simp⟩,qR _,rfl⟩,rfl,fun _=>rfl⟩,⟨rfl,rfl,rfl,by simp[ChangeMaps.setBlock],fun i _ D=>ChangeMaps.heap_setBlock_other h _ (fun e=>D (by rw[e]))⟩⟩;simp[Builtin.clear_,yX I,MapKept.run_getObj_map h,MapKept.run_setObj_map _ h,Result.andThen,ChangeMaps.setBlock]
end
end Go.Proofs.YtejlihcdfffafaaGreatDoor
