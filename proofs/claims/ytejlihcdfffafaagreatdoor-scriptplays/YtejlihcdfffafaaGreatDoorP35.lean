import Derived.Test.YtejlihcdfffafaaGreatDoorP34
import Derived.Test.YtejlihcdfffafaaGreatDoorP18
set_option maxHeartbeats 4000000
set_option maxRecDepth 100000
namespace Go.Proofs.YtejlihcdfffafaaGreatDoor
open Go.RowKit
theorem TM (a:oA)(cap:Nat)(ps:List Pk)(per:Int)(D:oA)(E:Nat)(ws:List Int)(w:World)(K:Aw w a ps)(H:AR w D ws)(I:Al ps)(V:1<=per)(Q:per<=1000)(J:Gd ws):Calls Tryz.prog 168 #[.slice a ps.length cap,.int .i64 per,.slice D ws.length E] w fun e w'=>e=.returned .nilIface/\zW w w':=by
 have U:=qX (Dq a cap ps per w K I V Q);have O:Hid (∀ h,zW w h->Calls Tryz.prog 165 #[.slice D ws.length E,.func (.func 201) #[] #[]] h fun e w'=>e=.returned .nilIface/\w'=h):=fun h z=>OW D E ws h (H.below z) J
 clear K H I J;generalize ps.length=n at *;generalize ws.length=m at *;go_in
 go_wp2_with fail;refine U.o.mono ?_
 rintro e Y ⟨rfl,z⟩;have N:=qX z;clear z;go_wp2_with fail;refine(O.o _ N.o).mono ?_
 rintro e W ⟨rfl,rfl⟩;go_wp2
 go_ret;exact⟨rfl,N.o⟩
theorem QO {R:TypeId->Value->World->Prop}(a:oA)(n cap:Nat)(per:Int)(I:oA)(m J:Nat)(w:World)(D:Calls Tryz.prog 158 #[.slice a n cap,.int .i64 per] w fun e w'=>∃ h v,e=.returned (.iface h v)/\R h v w'):Calls Tryz.prog 168 #[.slice a n cap,.int .i64 per,.slice I m J] w fun e w'=>∃ h v,e=.returned (.iface h v)/\R h v w':=by
 have E:=qX D;clear D;go_in
 go_wp2_with fail;refine E.o.mono ?_
 rintro e K ⟨h,v,rfl,z⟩;have H:=qX z;clear z;go_wp2
 go_ret;exact⟨h,v,rfl,H.o⟩
theorem PU {R:TypeId->Value->World->Prop}(a:oA)(n cap:Nat)(per:Int)(D:oA)(m I:Nat)(w:World)(K:Calls Tryz.prog 158 #[.slice a n cap,.int .i64 per] w fun e w'=>e=.returned .nilIface/\zW w w')
  (E:∀ H,zW w H->Calls Tryz.prog 165 #[.slice D m I,.func (.func 201) #[] #[]] H fun e w'=>∃ h v,e=.returned (.iface h v)/\R h v w') :
  Calls Tryz.prog 168 #[.slice a n cap,.int .i64 per,.slice D m I] w fun e w'=>∃ h v,e=.returned (.iface h v)/\R h v w':=by
 have N:=qX K;have U:=qX E;clear K E;go_in
 go_wp2_with fail;refine N.o.mono ?_
 rintro e W ⟨rfl,z⟩;have O:=qX z;clear z;go_wp2_with fail;refine(U.o _ O.o).mono ?_
 rintro e V ⟨h,v,rfl,J⟩;have Q:=qX J;clear J;go_wp2
 go_ret;exact⟨h,v,rfl,Q.o⟩
theorem RI (a:oA)(cap:Nat)(ps:List Pk)(per:Int)(E:oA)(K:Nat)(ws:List Int)(w:World)(ac:Aw w a ps)(aq:AR w E ws)(am:Al ps)(al:1<=per)(an:per<=1000)(Q:Gd ws)(h D I:World)(g H O:Nat)(J:Nat->Prop)(z:zW w h)(aj:BJ h.heap.size h g H O ps.length (.slice a ps.length cap) (.slice E ws.length K) D J EK)(Z:zW h D)(Y:zW D I):Calls Tryz.prog 159 #[.slice a ps.length cap,.int .i64 per,.iface 256 (JF g)] I fun e w'=>∃ v,e=.returned v/\IC per ps ws w.heap.size g H w v w':=by
 have W:=ac.below z;have N:=aq.below z;have ao:=Z.size;refine(VE a cap ps per E K ws h.heap.size h g H O J I ⟨W,N,W.at_lt,fun aw V=>?_,am,Q⟩ al an (aj.later Y)).mono ?_
 ·
  obtain⟨b,aB,e,av,-⟩:=N.place (by rw[Q.len];omega);rw[e]at V;cases V
  exact av
 rintro e w' ⟨v,rfl,l,f,ai,ap,ar,ad,ab⟩;have U:=(z.tr Z).trans (Y.mono (qI z.size ao));exact⟨v,rfl,l,f,Bb ai U.size,ap,U.trans (ar.mono z.size),ad,ab⟩
theorem XR (a:oA)(cap:Nat)(ps:List Pk)(per:Int)(E:oA)(I:Nat)(ws:List Int)(w:World)(U:Aw w a ps)(Y:AR w E ws)(O:Al ps)(ab:1<=per)(ad:per<=1000)(W:Gd ws):Calls Tryz.prog 136 #[.slice a ps.length cap,.int .i64 per,.slice E ws.length I] w fun e w'=>∃ v,e=.returned (.tuple #[v,.nilIface])/\∃ g z,IC per ps ws w.heap.size g z w v w':=by
 have av:=qX (TM a cap ps per E I ws w U Y O ab ad W);have am:Hid (∀ h,Calls Tryz.prog 169 #[.slice a ps.length cap,.slice E ws.length I] h fun e w'=>∃ g z H,e=.returned (.pointer (some ⟨g,0,none⟩))/\BJ h.heap.size h g z H ps.length (.slice a ps.length cap) (.slice E ws.length I) w' (Fg g z H (.slice none 0 0)) EK/\zW h w'):=fun h=>Vn a ps.length cap E ws.length I h (by have:=O.few;omega)
 have ap:Hid (∀ h K D g z H V,zW w h -> BJ h.heap.size h g z H ps.length (.slice a ps.length cap) (.slice E ws.length I) K V EK -> zW h K -> zW K D ->
   Calls Tryz.prog 159 #[.slice a ps.length cap,.int .i64 per,.iface 256 (JF g)] D fun e w'=>∃ v,e=.returned v /\ IC per ps ws w.heap.size g z w v w'):=fun h K D g z H V N an Q J=>RI a cap ps per E I ws w U Y O ab ad W h K D g z H V N an Q J
 clear U Y O W;generalize aB:ps.length=n at *;generalize aN:ws.length=m at *;clear aB aN;go_in
 go_wp2_with fail;refine av.o.mono ?_
 rintro e ar ⟨rfl,N⟩;have aq:=qX N;clear N;go_wp2_with fail;refine(am.o _).mono ?_
 rintro e ai ⟨g,z,H,rfl,aj,Q⟩;have aw:Hid (∀ D,zW ai D->Calls Tryz.prog 159 #[.slice a n cap,.int .i64 per,.iface 256 (JF g)] D fun e w'=>∃ v,e=.returned v/\IC per ps ws w.heap.size g z w v w'):=fun D J=>ap.o ar ai D g z H _ aq.o aj Q J
 clear aj Q;go_wp2_with fail;refine(RO g _).mono ?_
 rintro e ao ⟨rfl,J⟩;have ac:=aw.o ao J;have aE:=qX ac;clear ac J;go_wp2_with fail;refine aE.o.mono ?_
 rintro e aS ⟨v,rfl,Z⟩;have al:=qX Z;clear Z;go_wp2
 go_ret2;exact⟨v,rfl,g,z,al.o⟩
theorem Ow {R:TypeId->Value->World->Prop}(a:oA)(n cap:Nat)(per:Int)(z:oA)(m D:Nat)(w:World)(H:Calls Tryz.prog 168 #[.slice a n cap,.int .i64 per,.slice z m D] w fun e w'=>∃ h v,e=.returned (.iface h v)/\R h v w'):Calls Tryz.prog 136 #[.slice a n cap,.int .i64 per,.slice z m D] w fun e w'=>∃ h v,e=.returned (.tuple #[.slice none 0 0,.iface h v])/\R h v w':=by
 have I:=qX H;clear H;go_in
 go_wp2_with fail;refine I.o.mono ?_
 rintro e K ⟨h,v,rfl,E⟩;have J:=qX E;clear E;go_wp2
 go_ret2;exact⟨h,v,rfl,J.o⟩
theorem UK (a:oA)(cap:Nat)(ps:List Pk)(per:Int)(E:oA)(W H:Nat)(w:World)(D:Nat->Addr)(V:A8 w D)(O:Aw w a ps)(Q:ps.length<=cap)(I:cap<=maxLen)(c p:Int)(Y:EG ps per c p)(K:0<c):Calls Tryz.prog 133 #[.slice a ps.length cap,.int .i64 per,.slice E W H] w fun e w'=>∃ h v,e=.returned (.tuple #[.slice none 0 0,.iface h v])/\(Ba w' (.iface h v) c p/\zW w w'):=by
 refine TV (R:=fun h v w'=>Ba w' (.iface h v) c p/\zW w w') a _ cap per E _ H w (fun U z=>(Gp a cap ps per c p U D (V.below z.below) (O.below z.below) Q I Y K).mono ?_);rintro e w' ⟨h,v,rfl,N,J⟩;exact⟨h,v,rfl,N,z.below.tr J⟩
theorem Vx (a:oA)(cap:Nat)(ps:List Pk)(per:Int)(D:oA)(H:Nat)(ns:List Int)(w:World)(I:Nat->Addr)(K:A8 w I)(W:Aw w a ps)(Q:AR w D ns)(U:Al ps)(Z:1<=per)(Y:per<=1000)(c:Nat)(O:Bt 0 100 ns c)(J:0<c):Calls Tryz.prog 133 #[.slice a ps.length cap,.int .i64 per,.slice D ns.length H] w fun e w'=>∃ h v,e=.returned (.tuple #[.slice none 0 0,.iface h v])/\(Ba w' (.iface h v) c (-1)/\zW w w'):=by
 refine Uc (R:=fun h v w'=>Ba w' (.iface h v) c (-1)/\zW w w') a _ cap per D _ H w (fun E z=>Dq a cap ps per E (W.below z.below) U Z Y) (fun E z=>(LX D H ns 100 E I (K.below z.below).nums (Q.below z.below) c O J).mono ?_);rintro e w' ⟨rfl,V⟩;have N:=z.below.tr V;obtain⟨h,v,ac,ab⟩:=PE (K.below N) O J;exact⟨h,v,by rw[ac],ab,N⟩
theorem Vz (a:oA)(cap:Nat)(ps:List Pk)(per:Int)(E:oA)(W H:Nat)(w:World)(D:Nat->Addr)(V:A8 w D)(O:Aw w a ps)(Q:ps.length<=cap)(I:cap<=maxLen)(c p:Int)(Y:EG ps per c p)(K:0<c):Calls Tryz.prog 134 #[.slice a ps.length cap,.int .i64 per,.slice E W H] w fun e w'=>∃ h v,e=.returned (.tuple #[.slice none 0 0,.iface h v])/\(Ba w' (.iface h v) c p/\zW w w'):=by
 refine Tv (R:=fun h v w'=>Ba w' (.iface h v) c p/\zW w w') a _ cap per E _ H w (fun U z=>(Gp a cap ps per c p U D (V.below z.below) (O.below z.below) Q I Y K).mono ?_);rintro e w' ⟨h,v,rfl,N,J⟩;exact⟨h,v,rfl,N,z.below.tr J⟩
theorem Wn (a:oA)(cap:Nat)(ps:List Pk)(per:Int)(D:oA)(H:Nat)(ns:List Int)(w:World)(I:Nat->Addr)(K:A8 w I)(W:Aw w a ps)(Q:AR w D ns)(U:Al ps)(Z:1<=per)(Y:per<=1000)(c:Nat)(O:Bt 0 1099511627776 ns c)(J:0<c):Calls Tryz.prog 134 #[.slice a ps.length cap,.int .i64 per,.slice D ns.length H] w fun e w'=>∃ h v,e=.returned (.tuple #[.slice none 0 0,.iface h v])/\(Ba w' (.iface h v) c (-1)/\zW w w'):=by
 refine TA (R:=fun h v w'=>Ba w' (.iface h v) c (-1)/\zW w w') a _ cap per D _ H w (fun E z=>Dq a cap ps per E (W.below z.below) U Z Y) (fun E z=>(LX D H ns 1099511627776 E I (K.below z.below).nums (Q.below z.below) c O J).mono ?_);rintro e w' ⟨rfl,V⟩;have N:=z.below.tr V;obtain⟨h,v,ac,ab⟩:=PE (K.below N) O J;exact⟨h,v,by rw[ac],ab,N⟩
theorem Uf (a:oA)(cap:Nat)(ps:List Pk)(per:Int)(D:oA)(O E:Nat)(w:World)(z:Nat->Addr)(N:A8 w z)(J:Aw w a ps)(K:ps.length<=cap)(H:cap<=maxLen)(c p:Int)(Q:EG ps per c p)(I:0<c):Calls Tryz.prog 135 #[.slice a ps.length cap,.int .i64 per,.slice D O E] w fun e w'=>∃ h v,e=.returned (.tuple #[.slice none 0 0,.iface h v])/\(Ba w' (.iface h v) c p/\zW w w'):=
 Rq (R:=fun h v w'=>Ba w' (.iface h v) c p/\zW w w') a _ cap per D _ E w (Gp a cap ps per c p w z N J K H Q I)
theorem Tc (a:oA)(cap:Nat)(ps:List Pk)(per:Int)(D:oA)(E:Nat)(ns:List Int)(w:World)(H:Nat->Addr)(J:A8 w H)(Q:Aw w a ps)(N:AR w D ns)(O:Al ps)(Y:1<=per)(U:per<=1000)(c:Nat)(K:Bt 1 3000 ns c)(I:0<c):Calls Tryz.prog 135 #[.slice a ps.length cap,.int .i64 per,.slice D ns.length E] w fun e w'=>∃ h v,e=.returned (.tuple #[.slice none 0 0,.iface h v])/\(Ba w' (.iface h v) c (-1)/\zW w w'):=by
 refine Ra (R:=fun h v w'=>Ba w' (.iface h v) c (-1)/\zW w w') a _ cap per D _ E w (Dq a cap ps per w Q O Y U) (fun V z=>(O3 D E ns V H (J.below z).nums (N.below z) c K I).mono ?_);rintro e w' ⟨rfl,rfl⟩;obtain⟨h,v,Z,W⟩:=Wx (J.below z) K I;exact⟨h,v,by rw[Z],W,z⟩
theorem bu {w:World}{h:Nat->Addr}(z:A8 w h){ns:List Int}{c:Nat}(E:Ee ns c)(H:0<c):∃ D v,Fy h c=.iface D v/\Ba w (.iface D v) c (-1):=by
 rcases E with⟨rfl,-⟩|⟨rfl,-⟩|⟨rfl,-⟩
 · exact⟨_,_,rfl,Bo z 2 (by decide)⟩
 · exact⟨_,_,rfl,Bo z 1 (by decide)⟩
 omega
theorem Rf (a:oA)(cap:Nat)(ps:List Pk)(per:Int)(D:oA)(O E:Nat)(w:World)(z:Nat->Addr)(N:A8 w z)(J:Aw w a ps)(K:ps.length<=cap)(H:cap<=maxLen)(c p:Int)(Q:EG ps per c p)(I:0<c):Calls Tryz.prog 168 #[.slice a ps.length cap,.int .i64 per,.slice D O E] w fun e w'=>∃ h v,e=.returned (.iface h v)/\(Ba w' (.iface h v) c p/\zW w w'):=
 QO (R:=fun h v w'=>Ba w' (.iface h v) c p/\zW w w') a _ cap per D _ E w (Gp a cap ps per c p w z N J K H Q I)
theorem RJ (a:oA)(cap:Nat)(ps:List Pk)(per:Int)(D:oA)(E:Nat)(ns:List Int)(w:World)(H:Nat->Addr)(J:A8 w H)(Q:Aw w a ps)(N:AR w D ns)(O:Al ps)(Y:1<=per)(U:per<=1000)(c:Nat)(K:Ee ns c)(I:0<c):Calls Tryz.prog 168 #[.slice a ps.length cap,.int .i64 per,.slice D ns.length E] w fun e w'=>∃ h v,e=.returned (.iface h v)/\(Ba w' (.iface h v) c (-1)/\zW w w'):=by
 refine PU (R:=fun h v w'=>Ba w' (.iface h v) c (-1)/\zW w w') a _ cap per D _ E w (Dq a cap ps per w Q O Y U) (fun V z=>(NN D E ns V H (J.below z).nums (N.below z) c K I).mono ?_);rintro e w' ⟨rfl,rfl⟩;obtain⟨h,v,Z,W⟩:=bu (J.below z) K I;exact⟨h,v,by rw[Z],W,z⟩
def Ir (k:Nat)(per:Int)(ns:List Int)(c:Int):Prop:=(¬(1<=per/\per<=1000)/\c=2)\/(1<=per/\per<=1000/\∃ d:Nat,DL k ns d/\c=d)
def GQ (k:Nat)(per:Int)(ns:List Int)(ps:List Pk)(c:Int)(w:World)(e:Ending)(w':World):Prop:=∃ D n z h,e=.returned (.tuple #[.slice D n z,h])/\Ba w' h c (-1)/\zW w w'/\(c=0->∃ l,n=l.length/\Ji w' D z l/\Cn k per ps ns l)
theorem DY {k:Nat}{per:Int}{ns:List Int}{ps:List Pk}{c:Int}{w:World}(H:0<c){e:Ending}{w':World}(E:∃ h v,e=.returned (.tuple #[.slice none 0 0,.iface h v])/\(Ba w' (.iface h v) c (-1)/\zW w w')):GQ k per ns ps c w e w':=by
 obtain⟨h,v,rfl,D,z⟩:=E;exact⟨none,0,0,_,rfl,D,z,fun I=>by omega⟩
theorem IW {k:Nat}{per:Int}{ns:List Int}{ps:List Pk}{w w':World}{v:Value}{l:List Sn}(h:DX w' w.heap.size v l)(D:Cn k per ps ns l)(z:zW w w'):GQ k per ns ps 0 w (.returned (.tuple #[v,.nilIface])) w':=by
 obtain⟨a,cap,rfl,J,E,I,-,H⟩:=h.open;exact⟨a,l.length,cap,.nilIface,rfl,DK w',z,fun _=>⟨l,rfl,⟨I,J,E,H⟩,D⟩⟩
section
variable (pa:Option Addr) (pcap:Nat) (ps:List Pk) (per:Int) (na:Option Addr) (ncap:Nat) (ns:List Int) (w:World) (ad:Nat → Addr)
theorem Na {per:Int}{ps:List Pk}(h:Al ps)(z:¬(1<=per/\per<=1000)):EG ps per 2 (-1):=.inr (.inl ⟨h,by omega,rfl,rfl⟩)
theorem eZ (J:A8 w ad)(z:CU w pa pcap ps)(H:AR w na ns)(E:Al ps)(c:Int)(O:Ir 2 per ns c):Calls Tryz.prog 133 #[.slice pa ps.length pcap,.int .i64 per,.slice na ns.length ncap] w fun e w'=>GQ 2 per ns ps c w e w':=by
 rcases O with⟨h,rfl⟩|⟨K,I,d,D,rfl⟩
 · exact(UK pa pcap ps per na ns.length ncap w ad J z.pks z.cap z.max 2 (-1) (Na E h) (by omega)).mono fun _ _ h=>DY (by omega) h
 rcases D with⟨h,-⟩|⟨-,D⟩|⟨h,-⟩|⟨h,-⟩|⟨h,-⟩
 · omega
 ·
  rcases xP d with rfl|N
  ·
   refine(YM pa pcap ps per na ncap ns w z.pks H E K I D.ok).mono ?_
   rintro e w' ⟨v,rfl,l,W,U,Q,V⟩;exact IW W (.inr (.inl ⟨rfl,U,Q⟩)) V
  exact(Vx pa pcap ps per na ncap ns w ad J z.pks H E K I d D N).mono fun _ _ h=>DY (by omega) h
 all_goals omega
theorem je (J:A8 w ad)(z:CU w pa pcap ps)(H:AR w na ns)(E:Al ps)(c:Int)(O:Ir 3 per ns c):Calls Tryz.prog 134 #[.slice pa ps.length pcap,.int .i64 per,.slice na ns.length ncap] w fun e w'=>GQ 3 per ns ps c w e w':=by
 rcases O with⟨h,rfl⟩|⟨K,I,d,D,rfl⟩
 · exact(Vz pa pcap ps per na ns.length ncap w ad J z.pks z.cap z.max 2 (-1) (Na E h) (by omega)).mono fun _ _ h=>DY (by omega) h
 rcases D with⟨h,-⟩|⟨h,-⟩|⟨-,D⟩|⟨h,-⟩|⟨h,-⟩
 · omega
 · omega
 ·
  rcases xP d with rfl|N
  ·
   refine(YI pa pcap ps per na ncap ns w z.pks H E K I D.ok).mono ?_
   rintro e w' ⟨v,rfl,l,W,U,Q,V⟩;exact IW W (.inr (.inr (.inl ⟨rfl,U,Q⟩))) V
  exact(Wn pa pcap ps per na ncap ns w ad J z.pks H E K I d D N).mono fun _ _ h=>DY (by omega) h
 all_goals omega
theorem ax (J:A8 w ad)(z:CU w pa pcap ps)(H:AR w na ns)(E:Al ps)(c:Int)(O:Ir 4 per ns c):Calls Tryz.prog 135 #[.slice pa ps.length pcap,.int .i64 per,.slice na ns.length ncap] w fun e w'=>GQ 4 per ns ps c w e w':=by
 rcases O with⟨h,rfl⟩|⟨K,I,d,D,rfl⟩
 · exact(Uf pa pcap ps per na ns.length ncap w ad J z.pks z.cap z.max 2 (-1) (Na E h) (by omega)).mono fun _ _ h=>DY (by omega) h
 rcases D with⟨h,-⟩|⟨h,-⟩|⟨h,-⟩|⟨-,D⟩|⟨h,-⟩
 · omega
 · omega
 · omega
 ·
  rcases xP d with rfl|N
  ·
   refine(UQ pa pcap ps per na ncap ns w z.pks H E K I D.ok).mono ?_
   rintro e w' ⟨v,rfl,l,V,Q,U⟩;exact IW V (.inr (.inr (.inr (.inl ⟨rfl,Q⟩)))) U
  exact(Tc pa pcap ps per na ncap ns w ad J z.pks H E K I d D N).mono fun _ _ h=>DY (by omega) h
 all_goals omega
theorem fC (K:A8 w ad)(z:CU w pa pcap ps)(I:AR w na ns)(E:Al ps)(c:Int)(Q:Ir 5 per ns c):Calls Tryz.prog 136 #[.slice pa ps.length pcap,.int .i64 per,.slice na ns.length ncap] w fun e w'=>GQ 5 per ns ps c w e w':=by
 rcases Q with⟨h,rfl⟩|⟨N,J,d,D,rfl⟩
 · exact(Ow (R:=fun H v w'=>Ba w' (.iface H v) 2 (-1)/\zW w w') pa _ pcap per na _ ncap w (Rf pa pcap ps per na ns.length ncap w ad K z.pks z.cap z.max 2 (-1) (Na E h) (by omega))).mono fun _ _ h=>DY (by omega) h
 rcases D with⟨h,-⟩|⟨h,-⟩|⟨h,-⟩|⟨h,-⟩|⟨-,D⟩
 · omega
 · omega
 · omega
 · omega
 rcases xP d with rfl|O
 ·
  refine(XR pa pcap ps per na ncap ns w z.pks I E N J D.ok).mono ?_
  rintro e w' ⟨v,rfl,g,Y,l,f,W,U,V,-⟩;exact IW W (.inr (.inr (.inr (.inr ⟨rfl,_,U⟩)))) V
 exact(Ow (R:=fun H v w'=>Ba w' (.iface H v) d (-1)/\zW w w') pa _ pcap per na _ ncap w (RJ pa pcap ps per na ncap ns w ad K z.pks I E N J d D O)).mono fun _ _ h=>DY (by omega) h
theorem Tryz.callFifo (args:Array Value)(h:World):Sem.run Tryz.prog (callFunc 132 args) h=.ok (.enter 132 args) h:=by kernel_rfl
theorem gJ (X:Nat)(O:A8 w ad)(aq:w.cell? ⟨X,0,none⟩=some (.func (.func 132) #[] #[]))(E:CU w pa pcap ps)(I:Al ps)(c:Int)(H:Ir 1 per ns c):Calls Tryz.prog 157 #[.slice pa ps.length pcap,.int .i64 per,.slice na ns.length ncap,.pointer (some ⟨X,0,none⟩)] w fun e w'=>GQ 1 per ns ps c w e w':=by
 have ap:=Tryz.callFifo;have U:=qX O;have ar:=qX I;rcases H with⟨D,rfl⟩|⟨al,an,d,J,rfl⟩
 ·
  have N:=qX (X6 pa pcap ps per 2 (-1) w ad O E.pks E.cap E.max (Na I D) (by omega));clear O E I D;go_in
  go_wp2_with fail;refine N.o.mono ?_
  rintro e V ⟨ab,v,rfl,z,h⟩;have am:=qY z h;clear z h;go_wp2
  go_ret2;exact DY (by omega) ⟨ab,v,rfl,am.o⟩
 have N:=qX (WM pa pcap ps per w E.pks I al an);have aj:(d=3/\ns≠[])\/(d=0/\ns=[]):=by
  rcases J with⟨-,J⟩|⟨D,-⟩|⟨D,-⟩|⟨D,-⟩|⟨D,-⟩
  · exact J
  all_goals omega
 obtain⟨r,H⟩:=ex ns.length;have Z:=qX H;rw[H];clear O E I J H;rcases aj with⟨rfl,Y⟩|⟨rfl,Q⟩
 ·
  have ac:(0:Int)<(r:Int):=by have:=yH.2 Y;have:=Z.o;omega
  clear Y;go_in
  go_wp2_with fail;refine N.o.mono ?_
  rintro e V ⟨v,rfl,z,h⟩;have K:=qX h;have av:=(U.o.below h).c2;clear z h;go_wp2
  go_quiet (fail);go_wp2
  go_ret2;have W:=qL K.o nq;exact⟨none,0,0,_,rfl,Bo (U.o.below W) 2 (by omega),W,fun ai=>absurd ai (by decide)⟩
 have ac:¬(0:Int)<(r:Int):=by have:=Z.o;rw[Q]at this;simp at this;omega
 have ao:=qX Q;clear Q;go_in
 go_wp2_with fail;refine N.o.mono ?_
 rintro e V ⟨v,rfl,z,h⟩;have K:=qY z h;clear z h;go_wp2
 go_ret2;exact IW K.o.1 (.inl ⟨rfl,rfl⟩) K.o.2
end
structure P8 (w:World)(k:Nat)(F:Nat)(bd:Array Value):Prop where
 call:∀ args W,Sem.run Tryz.prog (callFunc F args) W=.ok (.enter F args) W
 send:∀(pa:oA)(pcap:Nat)(ps:List Pk)(per:Int)(na:oA)(ncap:Nat)(ns:List Int)(W:World)(ad:Nat->Addr)(c:Int),zW w W->A8 W ad->CU W pa pcap ps->AR W na ns->Al ps->Ir k per ns c->Calls Tryz.prog F (#[.slice pa ps.length pcap,.int .i64 per,.slice na ns.length ncap]++bd) W fun e w'=>GQ k per ns ps c W e w'
theorem Zz {w:World}{M X:Nat}(W:Nb w M X){k:Nat}(Z:1<=k)(Y:k<=5):∃ F U,Eu X k=.func (.func F) #[] U/\P8 w k F U:=by
 rcases(show k=1\/k=2\/k=3\/k=4\/k=5 by omega)with rfl|rfl|rfl|rfl|rfl
 · exact⟨_,_,rfl,fun args h=>by kernel_rfl,fun E O ps per I K ns h D c V N J _ z H=>gJ E O ps per I K ns h D X N (j7 V W.box) J z c H⟩
 · exact⟨_,_,rfl,fun args h=>by kernel_rfl,fun E O ps per I K ns h D c _ N J Q z H=>eZ E O ps per I K ns h D N J Q z c H⟩
 · exact⟨_,_,rfl,fun args h=>by kernel_rfl,fun E O ps per I K ns h D c _ N J Q z H=>je E O ps per I K ns h D N J Q z c H⟩
 · exact⟨_,_,rfl,fun args h=>by kernel_rfl,fun E O ps per I K ns h D c _ N J Q z H=>ax E O ps per I K ns h D N J Q z c H⟩
 exact⟨_,_,rfl,fun args h=>by kernel_rfl,fun E O ps per I K ns h D c _ N J Q z H=>fC E O ps per I K ns h D N J Q z c H⟩
def Mi (kb:ByteArray)(k:Nat)(b:Bool)(w:World)(e:Ending)(w':World):Prop:=∃ M h,e=.returned (.map (some M))/\zW w w'/\(Instr.lookup 155 (.map (some M)) (.string kb) true).run Tryz.prog w'=.ok (.tuple #[h,.bool b]) w'/\(Instr.lookup 155 (.map (some M)) (.string kb) false).run Tryz.prog w'=.ok h w'/\(1<=k->∃ F z,h=.func (.func F) #[] z/\P8 w' k F z)
theorem QB (kb:ByteArray)(k:Nat)(z:kindOf kb.toList=k)(b:Bool)(D:decide (k≠0)=b)(w:World):Calls Tryz.prog 106 #[] w fun e w'=>Mi kb k b w e w':=by
 subst D;refine(YR w).mono ?_
 rintro e w' ⟨M,X,rfl,h,D⟩;exact⟨M,Eu X k,rfl,D,h.look kb z true,h.look kb z false,fun E=>Zz h E (by rw[<- z];exact Ew _)⟩
section
variable (ca:Option Addr) (m ccap:Nat) (kb:ByteArray) (per:Int) (na:Option Addr) (r ncap:Nat) (w:World)
theorem JD (c p:Int)(O:0<c)(I:∀ z,zW w z->Calls Tryz.prog 107 #[.slice ca m ccap] z fun e w'=>∃ h,e=.returned h/\Ba w' h c p/\zW z w'):Calls Tryz.prog 79 #[.agg #[.slice ca m ccap,.string kb,.int .i64 per,.slice na r ncap]] w fun e w'=>∃ h,e=.returned h/\Ba w' h c p/\zW w w':=by
 have E:zW w (w.alloc (.cells #[.slice ca m ccap,.string kb,.int .i64 per,.slice na r ncap] 78)):=ba;have J:=(show Hid (Calls Tryz.prog 107 #[.slice ca m ccap] (w.alloc (.cells #[.slice ca m ccap,.string kb,.int .i64 per,.slice na r ncap] 78)) fun e w'=>∃ h,e=.returned h/\Ba w' h c p/\Below (w.alloc (.cells #[.slice ca m ccap,.string kb,.int .i64 per,.slice na r ncap] 78)).heap.size (w.alloc (.cells #[.slice ca m ccap,.string kb,.int .i64 per,.slice na r ncap] 78)) w')from I _ E)
 have K:=qX E;clear I E;go_in
 go_wp2_with fail;refine J.o.mono ?_
 rintro e Q ⟨h,rfl,D,H⟩;obtain⟨U,v,rfl⟩:=D.some_ (by omega);have N:=qY D (K.o.tr H);clear D H;go_wp2
 go_ret;exact⟨_,rfl,N.o⟩
theorem QR (ns:List Int)(al:ns.length=r)(aj:Nat->Addr)(aB:A8 w aj)(ar:AR w na ns)(k:Nat)(ao:kindOf kb.toList=k)(c:Int)(Z:(k=0/\c=9)\/(1<=k/\Ir k per ns c))(z:∀ h,zW w h->Calls Tryz.prog 107 #[.slice ca m ccap] h fun e w'=>e=.returned .nilIface/\zW h w'):Calls Tryz.prog 79 #[.agg #[.slice ca m ccap,.string kb,.int .i64 per,.slice na r ncap]] w fun e w'=>∃ O,e=.returned O/\Ba w' O c (-1)/\zW w w':=by
 have W:zW w (w.alloc (.cells #[.slice ca m ccap,.string kb,.int .i64 per,.slice na r ncap] 78)):=ba;have am:=Dk w (.slice ca m ccap) kb per (.slice na r ncap) 78;have bb:=(show Hid (qW 107 #[.slice ca m ccap] (w.alloc (.cells #[.slice ca m ccap,.string kb,.int .i64 per,.slice na r ncap] 78)) .nilIface)from z _ W)
 have a4:=qX am;have a5:=qX W;have Q:=qX aB;have a':=qX ar;have an:=qX Z;have bd:=qX al;obtain⟨b,N⟩:=ex (decide (k≠0));have a7:Hid (∀ h,Calls Tryz.prog 106 #[] h fun e w'=>Mi kb k b h e w'):=fun h=>QB kb k ao b N h
 have Y:=qX N;clear z W am aB ar Z al ao N;go_in
 go_wp2_with fail;refine bb.o.mono ?_
 rintro e J ⟨rfl,U⟩;have aS:=qX (a5.o.tr U);have H:=qX (a4.o.later U);have a2:=H.o.c1;have aw:Hid (∀ h,zW J h->h.cell? ⟨w.heap.size,1,none⟩=some (.string kb)):=fun h bc=>j7 bc H.o.c1
 have ap:Hid (zW J J.drew):=qL br 1;clear U;go_wp2_with fail;go_region_held3 (fun w'=>w'.cell? ⟨w.heap.size,1,none⟩=some (.string kb))
  (first | exact av | exact aw.o _ ap.o)
  (first
  | (go_at_call 106;refine (a7.o _).mono ?_;rintro e D ⟨M,aN,rfl,ad,a8,a1,aq⟩;have K:Hid (zW J D):=(by exact ap.o.tr ad);have av:=aw.o D K.o;have a9:Hid (1 <= k -> ∃ F I,aN=.func (.func F) #[] I /\ P8 D k F I):=aq;clear ad aq a1))
 all_goals
  have E:=qX (aS.o.tr K.o);clear a8 av a2;cases b with
  | false=>
   have be:k=0:=by have:=Y.o;simpa using this
   have a0:c=9:=by
    rcases an.o with⟨-,z⟩|⟨z,-⟩
    · exact z
    omega
   have bj:=(Q.o.below E.o).c8;clear be;go_wp2
   go_ret;rw[a0];exact⟨_,rfl,Bo (Q.o.below E.o) 8 (by omega),E.o⟩
  | true=>
   have ac:1<=k:=by have:=Y.o;simp at this;omega
   obtain⟨F,I,rfl,V⟩:=a9.o ac;have ai:Ir k per ns c:=by
    rcases an.o with⟨z,-⟩|⟨-,z⟩
    · omega
    exact z
   have bg:=V.call;have bk:=j7 K.o H.o.c2;have bm:=j7 K.o H.o.c3;have a6:Hid (Calls Tryz.prog F (#[.slice none 0 0,.int .i64 per,.slice na r ncap]++I) D fun e w'=>GQ k per ns [] c D e w'):=by
    have:=V.send none 0 [] per na ncap ns D aj c br (Q.o.below E.o) ⟨.inl rfl,lr,by simp[maxLen],fun _=>⟨rfl,rfl⟩⟩ (a'.o.below E.o) FD ai;rwa[bd.o]at this
   clear V ai ac;go_wp2_with fail;refine a6.o.mono ?_
   rintro e bl ⟨bp,n,bh,O,rfl,ab,aE,-⟩;have a3:=qY ab (E.o.tr aE);clear ab aE;go_wp2
   go_ret;exact⟨_,rfl,a3.o⟩
theorem EY (z:oA)(h:Nat)(cs:List lI)(kb:ByteArray)(per:Int)(E:oA)(I:Nat)(ns:List Int)(w:World)(J:Nat->Addr)(c p:Int)(N:A8 w J)(V:DT w z h cs E I ns)(Q:Ea cs (kindOf kb.toList) per ns c p):Calls Tryz.prog 79 #[.agg #[.slice z cs.length h,.string kb,.int .i64 per,.slice E ns.length I]] w fun e w'=>∃ O,e=.returned O/\Ba w' O c p/\zW w w':=by
 rcases Q with⟨K,rfl,rfl⟩|⟨K,i,Y,rfl,W⟩|⟨K,W,rfl,aj⟩
 · exact JD z _ h kb per E _ I w 3 (-1) (by omega) fun H D=>Nf z cs.length h H J (N.below D) K
 ·
  have ad:i<=8:=by
   obtain⟨ls,p,U,-⟩:=Y;have:=Af U;omega
  have ab:0<c:=by obtain⟨ls,p,-,-,-,ai⟩:=Y;exact ai
  exact JD z _ h kb per E _ I w c i ab fun H D=>Lf z h cs H J (N.below D) (V.curves.below D) K i ad W c i (.inr ⟨Y,rfl⟩)
 refine QR z _ h kb per E _ I w ns rfl J N V.nums (kindOf kb.toList) rfl c ?_ fun H D=>(Lf z h cs H J (N.below D) (V.curves.below D) K 8 lr W 0 (-1) (.inl ⟨rfl,rfl,rfl⟩)).mono ?_
 ·
  rcases aj with Q|⟨U,-,al⟩
  · exact .inl Q
  exact .inr ⟨U,al⟩
 rintro e w' ⟨O,rfl,ac,Z⟩;rw[ac.none_ rfl];exact⟨rfl,Z⟩
end
theorem LK (h:oA)(z:Nat)(ps:List Pk)(w:World)(I:Aw w h ps)(K:ps.length<=1000)(J:h=none->ps=[]/\z=0):Calls Tryz.prog 126 #[.slice h ps.length z] w fun e w'=>∃ v,e=.returned v/\BD w' w.heap.size v ps/\zW w w':=by
 cases h with
 | none=>
  obtain⟨rfl,rfl⟩:=J rfl;have Y:=fun E=>Go.Lib.run_eql_slice_nil (P:=Tryz.prog) E 42 50 none 0 0 0 0 Tryz.underlying42
  go_in
  go_wp2
  go_ret;exact⟨_,rfl,qQ _ _ _ _,br⟩
 | some H=>
  have D:zW w (w.alloc (.cells #[] 50)):=ba;have Q:=qX (I.below D);have U:Hid (BD (w.alloc (.cells #[] 50)) w.heap.size (.slice (some ⟨w.heap.size,0,none⟩) 0 0) []):=World.ownsRow_lit w #[] 0 lr (by simp[maxLen]) (by simp);have N:=qX D;have Y:=fun E=>Go.Lib.run_eql_slice_nil (P:=Tryz.prog) E 42 50 (some H) ps.length z 0 0 Tryz.underlying42
  clear I D J;go_in
  go_wp2_with (at_builtin;refine Bf _ rfl _ _ rfl w.heap.size (.slice (some ⟨w.heap.size,0,none⟩) 0 0) [] ps (some H) ps.length z rfl rfl rfl U.o Q.o (fun W=>by cases W) (by simpa using K) (by simp) ?_;rintro Z ab ⟨O,V⟩)
  go_ret;exact⟨_,rfl,by simpa using O,N.o.trans V⟩
theorem Q8 (b ad n a0:Nat)(xs:Nat->Pk)(ps:List Pk)(f:Nat)(w:World)(Z:F5 w b ad n xs (fun i=>i))(a3:n<=300)(Y:∀ i,i<n->((xs i).flow==(f:Int))=(Ag ps i==f)):Calls Tryz.prog 152 #[.slice (some ⟨b,ad,none⟩) n a0,.int .i64 f] w fun e w'=>∃ v,e=.returned v/\w'.ownsRow w.heap.size 3 1 v (AO ps f n).length (ints (Ai (AO ps f n)))/\zW w w':=by
 have ap:=qX Z;have aE:=qX Y;clear Z Y;go_in
 go_wp2_with fail;go_loopg [5,10] n (fun aB ao an wr=>∃ k:Nat,an=.int .i64 k/\k<=n/\n-k<=aB/\Hid (Both wr w.heap.size (.slice none 0 0) ao [] (Ai (AO ps f k))/\zW w wr))
 case atStart=>exact⟨0,rfl,qR _,lr,Vd _ _,br⟩
 case round=>
  obtain⟨k,rfl,a1,a2,z⟩:=hrel;by_cases K:k<n
  ·
   have aq:(k:Int)<(n:Int):=by omega
   have O:=ap.o.later z.o.2;have av:=O.c0 k K;have al:=O.c1 k K;have aS:=O.c2 k K;have N:=aE.o k K;obtain⟨h,aj⟩:=ex ((xs k).flow);obtain⟨D,W⟩:=ex ((xs k).size);obtain⟨E,ai⟩:=ex ((xs k).tick);rw[aj]at av N;rw[W]at al;rw[ai]at aS;have aN:Hid ((AO ps f k).length<=k):=by show(AO ps f k).length<=k;unfold AO;exact qI (List.length_filter_le _ _) (by simp)
   clear O aj W ai;by_cases J:Ag ps k=f
   ·
    have ar:(h==(f:Int))=true:=by rw[N];simpa using J
    have U:Hid (AO ps f (k+1)=AO ps f k++[k]):=by show _=_;rw[Kb,if_pos J]
    clear N J;have H:zW wr (wr.alloc (.cells #[.int .i64 h,.int .i64 D,.int .i64 E] 50)):=ba;have Q:zW wr ((wr.alloc (.cells #[.int .i64 h,.int .i64 D,.int .i64 E] 50)).alloc (.cells #[.int .i64 k] 3)):=H.alloc H.size _;have I:Hid (Both ((wr.alloc (.cells #[.int .i64 h,.int .i64 D,.int .i64 E] 50)).alloc (.cells #[.int .i64 k] 3)) w.heap.size (.slice none 0 0) u5 [] (Ai (AO ps f k))/\zW w ((wr.alloc (.cells #[.int .i64 h,.int .i64 D,.int .i64 E] 50)).alloc (.cells #[.int .i64 k] 3))/\((wr.alloc (.cells #[.int .i64 h,.int .i64 D,.int .i64 E] 50)).alloc (.cells #[.int .i64 k] 3)).cell? ⟨wr.heap.size+1,0,none⟩=some (.int .i64 k)):=⟨z.o.1.later Q,z.o.2.tr Q,by simp⟩
    clear H Q z;go_wp2_with (at_builtin;refine KI _ rfl _ _ rfl w.heap.size (.slice none 0 0) u5 [] (Ai (AO ps f k)) (k:Int) ⟨wr.heap.size+1,0,none⟩ rfl rfl I.o.1 I.o.2.2 (by have:=aN.o;simp[Ai];omega) I.o.2.1.size ?_;rintro aw ab ⟨V,ac⟩;have am:Hid (Both ab w.heap.size (.slice none 0 0) aw [] (Ai (AO ps f (k+1)))/\zW w ab):=⟨by rw[U.o,Oj];exact V,I.o.2.1.trans ac⟩;clear V ac)
    go_roundg (n-(k+1))
    case measure=>omega
    case rel=>exact⟨k+1,by go_num,K,lr,am⟩
   have ar:(h==(f:Int))=false:=by rw[N];simpa using J
   have U:Hid (AO ps f (k+1)=AO ps f k):=by show _=_;rw[Kb,if_neg J]
   have H:zW wr (wr.alloc (.cells #[.int .i64 h,.int .i64 D,.int .i64 E] 50)):=ba;have I:Hid (Both (wr.alloc (.cells #[.int .i64 h,.int .i64 D,.int .i64 E] 50)) w.heap.size (.slice none 0 0) u5 [] (Ai (AO ps f (k+1)))/\zW w (wr.alloc (.cells #[.int .i64 h,.int .i64 D,.int .i64 E] 50))):=by
    refine⟨?_,z.o.2.tr H⟩;rw[U.o];exact z.o.1.later H
   clear N J H z;go_wp2
   go_roundg (n-(k+1))
   case measure=>omega
   case rel=>exact⟨k+1,by go_num,K,lr,I⟩
  have aq:¬(k:Int)<(n:Int):=by omega
  obtain rfl:k=n:=by omega
  go_wp2
  go_ret;refine⟨_,rfl,?_,z.o.2⟩;have:=z.o.1.nums;rwa[show(Ai (AO ps f k)).length=(AO ps f k).length by simp[Ai]]at this
end Go.Proofs.YtejlihcdfffafaaGreatDoor
