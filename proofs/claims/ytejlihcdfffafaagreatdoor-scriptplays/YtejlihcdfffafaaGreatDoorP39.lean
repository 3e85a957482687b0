import Derived.Test.YtejlihcdfffafaaGreatDoorP38
set_option maxHeartbeats 4000000
set_option maxRecDepth 100000
namespace Go.Proofs.YtejlihcdfffafaaGreatDoor
open Go.RowKit
theorem L6 (qs:List Pk)(l:List Sn):(BH qs l).length=l.length:=by simp[BH]
theorem Z9 (qs:List Pk)(l:List Sn)(z:1<=l.length):Go.Lib.maxOf (BH qs l)=Fu qs l:=by
 unfold Fu;cases e:BH qs l with
 | nil=>have:=L6 qs l;rw[e]at this;simp at this;omega
 | cons h zs=>show List.foldl max (max h h) zs=List.foldl max h zs;rw[Int.max_self]
section
variable (w0:World) (ad:Nat → Addr) (N g cb:Nat) (hS:Site w0 ad N g cb) (s:Scr) (w:World) (hw:Below w0.heap.size w0 w) (hp:AU w N g cb s) (ho:Bq s)
theorem Uu (w0:World)(aE:Nat->Addr)(ar g W:Nat)(Z:Site w0 aE ar g W)(s:Scr)(w:World)(a1:zW w0 w)(b8:AU w ar g W s)(J:Bq s)(c n:Int)(av:Tf s c n):Calls Tryz.prog 59 #[.pointer (some ⟨g,0,none⟩)] w fun e w'=>Dz c n w e w':=by
 obtain⟨p,a9,bd⟩:=av;obtain⟨qs,l,aq,bk⟩:∃ qs l,(c=0->Cy (Ae s.cs) (kindOf s.kb) s.per s.ns s.ps qs l)/\(c=0->n=Fu qs l):=by
  by_cases z:c=0
  · obtain⟨qs,l,H,b6⟩:=bd z;exact⟨qs,l,fun _=>H,fun _=>b6⟩
  exact⟨[],[],fun H=>absurd H z,fun H=>absurd H z⟩
 obtain⟨an,ap,ao,V⟩:=b8;have al:Hid (∀ h,zW w h->Calls Tryz.prog 78 #[.agg #[.slice (some ⟨W,0,none⟩) 8 8,Ad s.kb,.int .i64 s.per,.slice an s.ns.length ap],ao] h fun e w'=>UF c qs l h e w'):=fun h D=>Ol w0 aE ar g W Z s h (a1.tr D) J an ap ao (V.below D) c p qs l a9 aq
 have b4:Hid (c=0->∀ h Q N U O,zW w h->CU h Q N qs->Ji h U O l->l.length<=300/\Calls Tryz.prog 81 #[.slice Q qs.length N,.slice U l.length O] h fun e w'=>∃ E,e=.returned (.tuple #[.slice (some ⟨E,0,none⟩) l.length l.length,.nilIface])/\(∀(i:Nat) Y,(BH qs l)[i]? = some Y->w'.cell? ⟨E,i,none⟩=some (.int .i64 Y))/\zW h w'):=fun z h Q N U O D b2 b5=>by
  obtain⟨bm,bx,b3⟩:=(aq z).ok J.pks J.gate.curves.ok;obtain⟨b7,-,a7⟩:=b3.may J.gate.nums bm J.gate.per.1;refine⟨by rw[a7,bx];exact J.pks.few,(WP Q N qs s.per U O l h aE (Z.env.below (a1.tr D)).errs b2.pks b5.sent bm J.gate.per.1 J.gate.per.2 b7 a7).mono ?_⟩;rintro e w' ⟨E,rfl,am,ac⟩;refine⟨E,rfl,fun i Y aw=>?_,ac⟩;unfold BH at aw;rw[xM]at aw;obtain⟨x,bT,rfl⟩:=xD.1 aw;exact am i x bT
 have bg:=V.c0;have a8:=V.c1;have be:=V.c2;have bp:=V.c3;have a':=V.c4;have ab:Hid (∀ h,zW w h->h.cell? ⟨g,0,none⟩=some (.slice (some ⟨W,0,none⟩) 8 8)/\h.cell? ⟨g,1,none⟩=some (Ad s.kb)/\h.cell? ⟨g,2,none⟩=some (.int .i64 s.per)/\h.cell? ⟨g,3,none⟩=some (.slice an s.ns.length ap)/\h.cell? ⟨g,4,none⟩=some ao):=fun h D=>⟨j7 D bg,j7 D a8,j7 D be,j7 D bp,j7 D a'⟩
 have bl:=qX bk;obtain⟨kb,bj⟩:=ex s.kb;obtain⟨per,bb⟩:=ex s.per;obtain⟨r,a5⟩:=ex s.ns.length;rw[bj]at ab al;rw[bb]at ab al;rw[a5]at ab al;have ad:Hid (zW w w.drew):=qL br 1;have Z:=ab.o _ ad.o;clear a9 bd aq bk V bg a8 be bp a' bj bb a5 a1 J;go_in
 go_wp2_with fail;go_region_held3 (fun w'=>w'.cell? ⟨g,0,none⟩=some (.slice (some ⟨W,0,none⟩) 8 8)/\w'.cell? ⟨g,1,none⟩=some (Ad kb)/\w'.cell? ⟨g,2,none⟩=some (.int .i64 per)/\w'.cell? ⟨g,3,none⟩=some (.slice an r ap)/\w'.cell? ⟨g,4,none⟩=some ao)
  (first | exact Z)
  (first
  | (go_at_call 78;refine (al.o _ ad.o).mono ?_;rintro e K ⟨Q,bq,N,U,m,O,bs,q,rfl,bh,a6,a3⟩;have I:Hid (Ba K bs c q /\ (c=0 -> bq=qs.length /\ m=l.length /\ CU K Q N qs /\ Ji K U O l) /\ zW w K):=⟨bh,a6,ad.o.tr a3⟩;have Z:=ab.o K (ad.o.tr a3);clear bh a6 a3))
 all_goals
  clear Z ab al ad;by_cases z:c=0
  ·
   obtain rfl:=I.o.1.none_ z;obtain⟨a4,aj,a0,aS⟩:=I.o.2.1 z;rcases xP m with a2|a2
   ·
    have ai:Hid (Dz c n w (.returned (.tuple #[.int .i64 0,.nilIface])) K):=by
     refine⟨0,.nilIface,q,rfl,I.o.1,fun H=>?_,I.o.2.2⟩;rw[bl.o H,qN.1 (aj.symm.trans a2)];rfl
    subst a2;clear a4 aj a0 aS z;go_wp2
    go_ret2;exact ai.o
   obtain⟨bN,aB⟩:=b4.o z K Q N U O I.o.2.2 a0 aS;rw[<- a4,<- aj]at aB;have b1:=qX aB;have bv:Hid (∀ h E,(∀(i:Nat) Y,(BH qs l)[i]? = some Y->h.cell? ⟨E,i,none⟩=some (.int .i64 Y))->zW w h->Calls Tryz.prog 82 #[.slice (some ⟨E,0,none⟩) m m] h fun e w'=>e=.returned (.int .i64 n)/\w'=h):=fun h E av D=>by
    have bt:(BH qs l).length=m:=by rw[L6,aj]
    have:=jw E (BH qs l) h (by omega) (by omega) av;rw[bt,Z9 qs l (by omega),<- bl.o z]at this;exact this
   have ai:Hid (∀ h,zW w h->Dz c n w (.returned (.tuple #[.int .i64 n,.nilIface])) h):=fun h D=>⟨n,.nilIface,-1,rfl,by rw[z];exact DK _,fun _=>rfl,D⟩
   have b':((m:Int)==0)=false:=by simp;omega
   clear a4 aj a0 aS z bN aB;go_wp2_with fail;refine b1.o.mono ?_
   rintro e aN ⟨E,rfl,am,bc⟩;have ac:=I.o.2.2.tr bc;have b9:=qX (bv.o aN E am ac);have b0:=(show Hid (Dz c n w (.returned (.tuple #[.int .i64 n,.nilIface])) aN)from ai.o aN ac)
   clear am bc ac;go_wp2_with fail;refine b9.o.mono ?_
   rintro e ca ⟨rfl,rfl⟩;go_wp2
   go_ret2;exact b0.o
  obtain⟨bw,v,rfl⟩:=I.o.1.some_ z;have ai:Hid (Dz c n w (.returned (.tuple #[.int .i64 0,.iface bw v])) K):=⟨0,_,q,rfl,I.o.1,fun H=>absurd H z,I.o.2.2⟩
  clear z;go_wp2
  go_ret2;exact ai.o
end
def A9 (h g z:Nat)(s s1:Scr)(c:Int)(o:List UInt8)(w:World)(e:Ending)(w':World):Prop:=
 ∃ x D p,e=.returned (.tuple #[Ad x,D])/\Ba w' D c p/\(c=0->x=o)/\But (NZ h g z) w w'/\((c=0/\AU w' h g z s1)\/(c≠0/\AU w' h g z s))
theorem D5 {D g I:Nat}{s:Scr}{c:Int}{o:List UInt8}{w w':World}{x:List UInt8}{z:Value}{p:Int}(E:AU w D g I s)(J:Ba w' z c p)(K:c=0->x=o)(h:zW w w'):A9 D g I s s c o w (.returned (.tuple #[Ad x,z])) w':=by
 refine⟨x,z,p,rfl,J,K,.ofBelow h,?_⟩;by_cases H:c=0
 · exact .inl ⟨H,E.below h⟩
 exact .inr ⟨H,E.below h⟩
structure jI (ks:ByteArray)(lit:List UInt8)(b:Bool):Prop where
 t:(ks.toList==lit)=b
 u:(ks.toList==ByteArray.toList ⟨lit.toArray⟩)=b
theorem Ao (name h:List UInt8)(z:ByteArray)(E:⟨name.toArray⟩=z)(b:Bool)(D:decide (name=h)=b):jI z h b:=by
 have key:((⟨name.toArray⟩:ByteArray).toList==h)=b:=by
  rw[ByteArray.toList_mk,<- D];by_cases e:name=h
  · rw[qM e,e];simp
  rw[qF e];simpa using e
 subst E;exact⟨key,by rw[ByteArray.toList_mk (l:=h)];exact key⟩
section
variable (w0:World) (ad:Nat → Addr) (N g cb:Nat) (hS:Site w0 ad N g cb) (s:Scr) (w:World) (hw:Below w0.heap.size w0 w) (hp:AU w N g cb s) (ho:Bq s)
theorem PZ (w0:World)(ac:Nat->Addr)(h g z:Nat)(ap:Site w0 ac h g z)(s:Scr)(w:World)(am:zW w0 w)(ar:AU w h g z s)(aj:Bq s)(name:List UInt8)(I:Nat)(ws:List (List UInt8))(Y:CO w (some ⟨I,0,none⟩) ws)(ab:Fb ws)(ad:1<=ws.length)(c:Int)(o:List UInt8)(s1:Scr)(al:name=BF)(W:Nj s ws c s1)(an:c=0->o=AP):Calls Tryz.prog 52 #[.pointer (some ⟨g,0,none⟩),Ad name,.slice (some ⟨I,0,none⟩) ws.length ws.length] w fun e w'=>A9 h g z s s1 c o w e w':=by
 have aq:=qX (Vk w0 ac h g z ap s w am ar aj I ws Y ab ad c s1 W);have aB:=qX an;obtain⟨Q,V⟩:∃ Q:ByteArray,⟨name.toArray⟩=Q:=⟨_,rfl⟩
 have ai:name=[99,117,114,118,101]:=al;have av:=Ao name [99,117,114,118,101] Q V true (by rw[ai];decide);obtain⟨aN,u0⟩:=av;show Calls Tryz.prog 52 #[.pointer (some ⟨g,0,none⟩),.string ⟨name.toArray⟩,.slice (some ⟨I,0,none⟩) ws.length ws.length] w fun e w'=>A9 h g z s s1 c o w e w'
 rw[V];obtain⟨m,ao⟩:=ex ws.length;rw[ao]at aq ⊢;clear ap am ar aj Y ab W an al ai V ao ad;go_in
 go_wp2_with fail;refine aq.o.mono ?_
 rintro e J ⟨aE,p,rfl,D,H,K⟩;by_cases E:c=0
 ·
  obtain rfl:=D.none_ E;have O:Hid (A9 h g z s s1 c o w (.returned (.tuple #[Ad AP,.nilIface])) J):=⟨AP,_,p,rfl,D,fun N=>(aB.o N).symm,H,K⟩
  have U:=qX (Hq J);clear D H K E;go_wp2_with fail;refine U.o.mono ?_
  rintro e aw ⟨rfl,rfl⟩;go_wp2
  go_ret2;exact O.o
 obtain⟨Z,v,rfl⟩:=D.some_ E;have O:Hid (A9 h g z s s1 c o w (.returned (.tuple #[Ad [],.iface Z v])) J):=⟨[],_,p,rfl,D,fun N=>absurd N E,H,K⟩
 have U:=qX (Je Z v J);clear D H K E;go_wp2_with fail;refine U.o.mono ?_
 rintro e aw ⟨rfl,rfl⟩;go_wp2
 go_ret2;exact O.o
theorem RA (w0:World)(ad:Nat->Addr)(h g z:Nat)(ao:Site w0 ad h g z)(s:Scr)(w:World)(al:zW w0 w)(aq:AU w h g z s)(ai:Bq s)(name:List UInt8)(J:Nat)(ws:List (List UInt8))(Z:CO w (some ⟨J,0,none⟩) ws)(ac:Fb ws)(c:Int)(o:List UInt8)(s1:Scr)(aj:name=Cu)(Y:QL s ws c s1)(am:c=0->o=AP):Calls Tryz.prog 52 #[.pointer (some ⟨g,0,none⟩),Ad name,.slice (some ⟨J,0,none⟩) ws.length ws.length] w fun e w'=>A9 h g z s s1 c o w e w':=by
 have ap:=qX (YJ w0 ad h g z ao s w al aq ai J ws Z ac c s1 Y);have aw:=qX am;obtain⟨I,O⟩:∃ I:ByteArray,⟨name.toArray⟩=I:=⟨_,rfl⟩
 have V:name=[108,105,110,107]:=aj;have ar:=Ao name [99,117,114,118,101] I O false (by rw[V];decide);have n1:=Ao name [108,105,110,107] I O true (by rw[V];decide);obtain⟨aN,u0⟩:=ar;obtain⟨aE,u1⟩:=n1;show Calls Tryz.prog 52 #[.pointer (some ⟨g,0,none⟩),.string ⟨name.toArray⟩,.slice (some ⟨J,0,none⟩) ws.length ws.length] w fun e w'=>A9 h g z s s1 c o w e w'
 rw[O];obtain⟨m,an⟩:=ex ws.length;rw[an]at ap ⊢;clear ao al aq ai Z ac Y am aj V O an;go_in
 go_wp2_with fail;refine ap.o.mono ?_
 rintro e K ⟨aB,p,rfl,D,H,N⟩;by_cases E:c=0
 ·
  obtain rfl:=D.none_ E;have U:Hid (A9 h g z s s1 c o w (.returned (.tuple #[Ad AP,.nilIface])) K):=⟨AP,_,p,rfl,D,fun Q=>(aw.o Q).symm,H,N⟩
  have W:=qX (Hq K);clear D H N E;go_wp2_with fail;refine W.o.mono ?_
  rintro e av ⟨rfl,rfl⟩;go_wp2
  go_ret2;exact U.o
 obtain⟨ab,v,rfl⟩:=D.some_ E;have U:Hid (A9 h g z s s1 c o w (.returned (.tuple #[Ad [],.iface ab v])) K):=⟨[],_,p,rfl,D,fun Q=>absurd Q E,H,N⟩
 have W:=qX (Je ab v K);clear D H N E;go_wp2_with fail;refine W.o.mono ?_
 rintro e av ⟨rfl,rfl⟩;go_wp2
 go_ret2;exact U.o
theorem NM (w0:World)(ad:Nat->Addr)(h g z:Nat)(ao:Site w0 ad h g z)(s:Scr)(w:World)(al:zW w0 w)(aq:AU w h g z s)(ai:Bq s)(name:List UInt8)(N:Nat)(ws:List (List UInt8))(Z:CO w (some ⟨N,0,none⟩) ws)(ac:Fb ws)(c:Int)(o:List UInt8)(s1:Scr)(aj:name=Br)(Y:JL s ws c s1)(am:c=0->o=AP):Calls Tryz.prog 52 #[.pointer (some ⟨g,0,none⟩),Ad name,.slice (some ⟨N,0,none⟩) ws.length ws.length] w fun e w'=>A9 h g z s s1 c o w e w':=by
 have ap:=qX (Rn w0 ad h g z ao s w al aq ai N ws Z ac c s1 Y);have aw:=qX am;obtain⟨H,I⟩:∃ H:ByteArray,⟨name.toArray⟩=H:=⟨_,rfl⟩
 have K:name=[110,117,109,98,101,114,115]:=aj;have ar:=Ao name [99,117,114,118,101] H I false (by rw[K];decide);have n1:=Ao name [108,105,110,107] H I false (by rw[K];decide);have n2:=Ao name [110,117,109,98,101,114,115] H I true (by rw[K];decide);obtain⟨aS,u0⟩:=ar;obtain⟨aE,u1⟩:=n1;obtain⟨aN,u2⟩:=n2;show Calls Tryz.prog 52 #[.pointer (some ⟨g,0,none⟩),.string ⟨name.toArray⟩,.slice (some ⟨N,0,none⟩) ws.length ws.length] w fun e w'=>A9 h g z s s1 c o w e w'
 rw[I];obtain⟨m,an⟩:=ex ws.length;rw[an]at ap ⊢;clear ao al aq ai Z ac Y am aj K I an;go_in
 go_wp2_with fail;refine ap.o.mono ?_
 rintro e O ⟨aB,p,rfl,D,J,Q⟩;by_cases E:c=0
 ·
  obtain rfl:=D.none_ E;have V:Hid (A9 h g z s s1 c o w (.returned (.tuple #[Ad AP,.nilIface])) O):=⟨AP,_,p,rfl,D,fun U=>(aw.o U).symm,J,Q⟩
  have W:=qX (Hq O);clear D J Q E;go_wp2_with fail;refine W.o.mono ?_
  rintro e av ⟨rfl,rfl⟩;go_wp2
  go_ret2;exact V.o
 obtain⟨ab,v,rfl⟩:=D.some_ E;have V:Hid (A9 h g z s s1 c o w (.returned (.tuple #[Ad [],.iface ab v])) O):=⟨[],_,p,rfl,D,fun U=>absurd U E,J,Q⟩
 have W:=qX (Je ab v O);clear D J Q E;go_wp2_with fail;refine W.o.mono ?_
 rintro e av ⟨rfl,rfl⟩;go_wp2
 go_ret2;exact V.o
theorem OZ (w0:World)(ad:Nat->Addr)(h g z:Nat)(ao:Site w0 ad h g z)(s:Scr)(w:World)(al:zW w0 w)(aq:AU w h g z s)(ai:Bq s)(name:List UInt8)(N:Nat)(ws:List (List UInt8))(Z:CO w (some ⟨N,0,none⟩) ws)(ac:Fb ws)(c:Int)(o:List UInt8)(s1:Scr)(aj:name=Bd)(Y:Lp s ws c s1)(am:c=0->o=AP):Calls Tryz.prog 52 #[.pointer (some ⟨g,0,none⟩),Ad name,.slice (some ⟨N,0,none⟩) ws.length ws.length] w fun e w'=>A9 h g z s s1 c o w e w':=by
 have ap:=qX (Uj w0 ad h g z ao s w al aq ai N ws Z ac c s1 Y);have aw:=qX am;obtain⟨E,H⟩:∃ E:ByteArray,⟨name.toArray⟩=E:=⟨_,rfl⟩
 have J:name=[112,97,99,107,101,116]:=aj;have ar:=Ao name [99,117,114,118,101] E H false (by rw[J];decide);have n1:=Ao name [108,105,110,107] E H false (by rw[J];decide);have n2:=Ao name [110,117,109,98,101,114,115] E H false (by rw[J];decide);have n3:=Ao name [112,97,99,107,101,116] E H true (by rw[J];decide);obtain⟨a0,u0⟩:=ar;obtain⟨aN,u1⟩:=n1;obtain⟨aS,u2⟩:=n2;obtain⟨aB,u3⟩:=n3;show Calls Tryz.prog 52 #[.pointer (some ⟨g,0,none⟩),.string ⟨name.toArray⟩,.slice (some ⟨N,0,none⟩) ws.length ws.length] w fun e w'=>A9 h g z s s1 c o w e w'
 rw[H];obtain⟨m,an⟩:=ex ws.length;rw[an]at ap ⊢;clear ao al aq ai Z ac Y am aj J H an;go_in
 go_wp2_with fail;refine ap.o.mono ?_
 rintro e O ⟨aE,p,rfl,D,K,Q⟩;by_cases I:c=0
 ·
  obtain rfl:=D.none_ I;have V:Hid (A9 h g z s s1 c o w (.returned (.tuple #[Ad AP,.nilIface])) O):=⟨AP,_,p,rfl,D,fun U=>(aw.o U).symm,K,Q⟩
  have W:=qX (Hq O);clear D K Q I;go_wp2_with fail;refine W.o.mono ?_
  rintro e av ⟨rfl,rfl⟩;go_wp2
  go_ret2;exact V.o
 obtain⟨ab,v,rfl⟩:=D.some_ I;have V:Hid (A9 h g z s s1 c o w (.returned (.tuple #[Ad [],.iface ab v])) O):=⟨[],_,p,rfl,D,fun U=>absurd U I,K,Q⟩
 have W:=qX (Je ab v O);clear D K Q I;go_wp2_with fail;refine W.o.mono ?_
 rintro e av ⟨rfl,rfl⟩;go_wp2
 go_ret2;exact V.o
theorem Wo (w0:World)(ap:Nat->Addr)(z g D:Nat)(ad:Site w0 ap z g D)(s:Scr)(w:World)(ac:zW w0 w)(ai:AU w z g D s)(aq:Bq s)(name:List UInt8)(W:Nat)(ws:List (List UInt8))(al:CO w (some ⟨W,0,none⟩) ws)(ao:Fb ws)(c n:Int)(o:List UInt8)(ar:name=atW)(aj:ZW s ws c n)(aB:c=0 -> -9223372036854775808<=n/\n<=9223372036854775807)(aw:c=0->o=Go.Lib.itoa n):Calls Tryz.prog 52 #[.pointer (some ⟨g,0,none⟩),Ad name,.slice (some ⟨W,0,none⟩) ws.length ws.length] w fun e w'=>A9 z g D s s c o w e w':=by
 have aN:=qX (aL w0 ap z g D ad s w ac ai aq W ws al ao c n aj);have a5:=qX aw;have aS:=qX aB;have av:=qX ai;have a3:=qX (ad.env.below ac);obtain⟨E,H⟩:∃ E:ByteArray,⟨name.toArray⟩=E:=⟨_,rfl⟩
 have J:name=[97,116]:=ar;have a1:=Ao name [99,117,114,118,101] E H false (by rw[J];decide);have n1:=Ao name [108,105,110,107] E H false (by rw[J];decide);have n2:=Ao name [110,117,109,98,101,114,115] E H false (by rw[J];decide);have n3:=Ao name [112,97,99,107,101,116] E H false (by rw[J];decide);have a4:=Ao name [97,116] E H true (by rw[J];decide);obtain⟨bb,u0⟩:=a1;obtain⟨a9,u1⟩:=n1;obtain⟨a',u2⟩:=n2;obtain⟨a7,u3⟩:=n3;obtain⟨a6,u4⟩:=a4;show Calls Tryz.prog 52 #[.pointer (some ⟨g,0,none⟩),.string ⟨name.toArray⟩,.slice (some ⟨W,0,none⟩) ws.length ws.length] w fun e w'=>A9 z g D s s c o w e w'
 rw[H];obtain⟨m,aE⟩:=ex ws.length;rw[aE]at aN ⊢;clear ad ac ai aq al ao aj aw aB ar J H aE;go_in
 go_wp2_with fail;refine aN.o.mono ?_
 rintro e Q ⟨K,a8,p,rfl,I,O,N⟩;by_cases h:c=0
 ·
  obtain rfl:=I.none_ h;have ab:Hid (qW 57 #[.int .i64 K,.nilIface] Q (.tuple #[Ad (Go.Lib.itoa K),.nilIface])):=Jo K Q (a3.o.below N).itoa (by rw[O h];exact(aS.o h).1) (by rw[O h];exact(aS.o h).2);have V:Hid (∀ Y,zW Q Y->A9 z g D s s c o w (.returned (.tuple #[Ad (Go.Lib.itoa K),.nilIface])) Y):=fun Y a0=>D5 av.o (p:=p) (I.below a0) (fun U=>by rw[a5.o U,O U]) (N.tr a0)
  clear I N O h;go_wp2_with fail;refine ab.o.mono ?_
  rintro e Z ⟨rfl,an⟩;have a2:=(show Hid (A9 z g D s s c o w (.returned (.tuple #[Ad (Go.Lib.itoa K),.nilIface])) Z)from V.o Z an)
  clear an V;go_wp2
  go_ret2;exact a2.o
 obtain⟨am,v,rfl⟩:=I.some_ h;have ab:=qX (Jl K am v Q);have V:Hid (A9 z g D s s c o w (.returned (.tuple #[Ad [],.iface am v])) Q):=D5 av.o I (fun U=>absurd U h) N;clear I N O h;go_wp2_with fail;refine ab.o.mono ?_
 rintro e Z ⟨rfl,rfl⟩;go_wp2
 go_ret2;exact V.o
theorem RG (w0:World)(N:Nat->Addr)(E g H:Nat)(U:Site w0 N E g H)(s:Scr)(w:World)(Q:zW w0 w)(V:AU w E g H s)(name:List UInt8)(O m:Nat)(c:Int)(o:List UInt8)(s1:Scr)(h:name≠BF/\name≠Cu/\name≠Br/\name≠Bd/\name≠atW)(K:c=1):Calls Tryz.prog 52 #[.pointer (some ⟨g,0,none⟩),Ad name,.slice (some ⟨O,0,none⟩) m m] w fun e w'=>A9 E g H s s1 c o w e w':=by
 have J:=U.env.below Q;have Y:Hid (∀ q,A9 E g H s s1 c o w (.returned (.tuple #[Ad [],.iface 308 (.pointer (some (N 0)))])) (w.drewN q)):=fun q=>by
  subst K;have I:=qL (y6 w.heap.size w) q;exact⟨[],_,-1,rfl,Bo (J.below I).errs 0 (by decide),(fun h=>by cases h),.ofBelow I,.inr ⟨by decide,V.below I⟩⟩
 have ai:=J.errs.c0;obtain⟨z,D⟩:∃ z:ByteArray,⟨name.toArray⟩=z:=⟨_,rfl⟩
 have W:=Ao name [99,117,114,118,101] z D false (qF h.1);have n1:=Ao name [108,105,110,107] z D false (qF h.2.1);have n2:=Ao name [110,117,109,98,101,114,115] z D false (qF h.2.2.1);have n3:=Ao name [112,97,99,107,101,116] z D false (qF h.2.2.2.1);have Z:=Ao name [97,116] z D false (qF h.2.2.2.2);obtain⟨al,u0⟩:=W;obtain⟨ad,u1⟩:=n1;obtain⟨aj,u2⟩:=n2;obtain⟨ac,u3⟩:=n3;obtain⟨ab,u4⟩:=Z;show Calls Tryz.prog 52 #[.pointer (some ⟨g,0,none⟩),.string ⟨name.toArray⟩,.slice (some ⟨O,0,none⟩) m m] w fun e w'=>A9 E g H s s1 c o w e w'
 rw[D];clear U Q V h K D J;go_in
 go_wp2
 go_quiet (fail);go_wp2
 go_ret2;exact Y.o nq
end
theorem Vq {s:Scr}(z:Bq s){k:Nat}{o E:Option Int}(Y:Df Cb Ct Dl s.cs k s.per o)(K:Df Cb Ct Dl s.cs k s.per E):o=E:=by
 have I:=z.gate.curves.ok;rcases Y with⟨Q,rfl⟩|⟨L,O,D⟩
 · exact(Ul JX I K Q).symm
 have h:=Vf JX I K O;have N:Ak L:=by
  obtain⟨V,q,-,U,W,-⟩:=O;exact IQ JX I V q L U W
 rcases D with⟨H,D⟩|⟨H,D⟩
 ·
  rcases h with⟨-,h⟩|⟨J,-⟩
  · exact FB.delay1 s.per L o E N z.gate.per.1 z.gate.per.2 D h
  exact absurd H J
 rcases h with⟨J,-⟩|⟨-,h⟩
 · exact absurd J H
 exact FB.busy1 s.per L o E N z.gate.per.1 z.gate.per.2 D h
section
variable (w0:World) (ad:Nat → Addr) (N g cb:Nat) (hS:Site w0 ad N g cb) (s:Scr) (w:World) (hw:Below w0.heap.size w0 w) (hp:AU w N g cb s) (ho:Bq s)
theorem Rm (w0:World)(Q:Nat->Addr)(K g E:Nat)(aj:Site w0 Q K g E)(s:Scr)(w:World)(ad:zW w0 w)(z:Bq s)(I:oA)(J:Nat)(Z:Value)(am:CF w K g E I J Z s)(c n:Int)(V:CL s c n):Calls Tryz.prog 58 #[.agg #[.slice (some ⟨E,0,none⟩) 8 8,Ad s.kb,.int .i64 s.per,.slice I s.ns.length J]] w fun e w'=>Dz c n w e w':=by
 have an:=aj.env.below ad;have ab:=am.gate z.gate.len (Il z (ns:=s.ns) (by rcases z.gate.nums.len with D|D;rw[D.2];decide;omega));have:=FB.good (some ⟨E,0,none⟩) 8 s.cs ⟨s.kb.toArray⟩ s.per I J s.ns w Q an.errs ab (by rw[ByteArray.toList_mk];exact z.gate);rw[z.gate.len]at this;refine this.mono ?_
 rintro e w' ⟨o,N,O,al⟩;rw[ByteArray.toList_mk]at N;obtain⟨ao,ac,U⟩:=V;have ai:=Vq z N ac;subst ai;rcases al with⟨H,Y,rfl,W⟩|⟨m,H,rfl⟩
 ·
  rcases U with⟨-,rfl⟩|⟨h,-⟩
  · exact⟨0,Y,-1,rfl,W,(fun D=>by cases D),O⟩
  rw[H]at h;cases h
 rcases U with⟨h,-⟩|⟨h,rfl⟩
 · rw[H]at h;cases h
 rw[H]at h;obtain rfl:=Option.some.inj h;exact⟨_,_,-1,rfl,DK _,fun _=>rfl,O⟩
theorem cutAt (w0:World)(E:Nat->Addr)(h g D:Nat)(J:Site w0 E h g D)(s:Scr)(w:World)(H:zW w0 w)(K:AU w h g D s)(x:List UInt8)(I:x.length<=1000)(nm rest:List UInt8)(b:Bool)(N:Go.Lib.cut x [32]=(nm,rest,b)):Calls Tryz.prog 51 #[Ad x,.string ⟨#[32]⟩] w fun e w'=>e=.returned (.tuple #[Ad nm,Ad rest,.bool b])/\zW w w'/\AU w' h g D s/\zW w0 w':=by
 refine(jO x w E (J.env.below H) I).mono ?_
 rintro e w' ⟨rfl,n,rfl⟩;rw[N];have z:=qL (y6 w.heap.size w) n;exact⟨rfl,z,K.below z,H.tr z⟩
theorem YN (w0:World)(J:Nat->Addr)(z g D:Nat)(N:Site w0 J z g D)(s:Scr)(w:World)(ad:zW w0 w)(al:AU w z g D s)(x:List UInt8)(W:x.length<=1000)(nm rest:List UInt8)(V:Go.Lib.cut x [32]=(nm,rest,true))(Z:rest.length<=1000)(c:Int)(o:List UInt8)(s1:Scr)
  (aj:∀ h ab,zW w h->CO h (some ⟨ab,0,none⟩) (Go.Lib.split rest [32])->Calls Tryz.prog 52 #[.pointer (some ⟨g,0,none⟩),Ad nm,.slice (some ⟨ab,0,none⟩) (Go.Lib.split rest [32]).length (Go.Lib.split rest [32]).length] h fun e w'=>A9 z g D s s1 c o h e w') :
  Calls Tryz.prog 32 #[.pointer (some ⟨g,0,none⟩),Ad x] w fun e w'=>A9 z g D s s1 c o w e w':=by
 have aS:=qX (cutAt w0 J z g D N s w ad al x W nm rest true V);have Q:Hid (∀ h,zW w0 h->Calls Tryz.prog 53 #[Ad rest,.string ⟨#[32]⟩] h fun e w'=>e=.returned (.slice (some ⟨h.heap.size,0,none⟩) (Go.Lib.split rest [32]).length (Go.Lib.split rest [32]).length)/\CO w' (some ⟨h.heap.size,0,none⟩) (Go.Lib.split rest [32])/\zW h w'):=fun h ap=>gB rest h J (N.env.below ap) Z
 have an:=qX aj;obtain⟨m,ai⟩:=ex ((Go.Lib.split rest [32]).length);rw[ai]at Q an;clear N ad al W V Z aj ai;go_in
 go_wp2_with fail;refine aS.o.mono ?_
 rintro e K ⟨rfl,am,a0,ac⟩;have aB:=qX am;have aw:=qX (Q.o K ac);clear am a0 ac;go_wp2_with fail;refine aw.o.mono ?_
 rintro e Y ⟨rfl,O,U⟩;have I:=aB.o.tr U;have aN:Hid (Calls Tryz.prog 52 #[.pointer (some ⟨g,0,none⟩),Ad nm,.slice (some ⟨K.heap.size,0,none⟩) m m] Y fun e w'=>A9 z g D s s1 c o w e w'):=(an.o Y K.heap.size I O).mono fun e w' ⟨x,E,p,ar,H,a1,av,ao⟩=>⟨x,E,p,ar,H,a1,(But.ofBelow I).trans av,ao⟩
 clear O U I;go_wp2_with fail;refine aN.o.mono ?_
 rintro e aE ⟨x,E,p,rfl,H⟩;have aq:Hid (A9 z g D s s1 c o w (.returned (.tuple #[Ad x,E])) aE):=⟨x,E,p,rfl,H⟩
 clear H;go_wp2
 go_ret2;exact aq.o
theorem Xe (w0:World)(O:Nat->Addr)(h g z:Nat)(ac:Site w0 O h g z)(s:Scr)(w:World)(Y:zW w0 w)(aj:AU w h g z s)(x:List UInt8)(N:x.length<=1000)(name rest:List UInt8)(J:Go.Lib.cut x [32]=(name,rest,false))(c:Int)(o:List UInt8)(s1:Scr)(W:name=CQ)(Q:c=0)(ab:o=AP)(U:s1={ s with ps:=[] }):Calls Tryz.prog 32 #[.pointer (some ⟨g,0,none⟩),Ad x] w fun e w'=>A9 h g z s s1 c o w e w':=by
 have V:name=[99,108,101,97,114]:=W;have ad:=qX (cutAt w0 O h g z ac s w Y aj x N name rest false J);obtain⟨E,I⟩:∃ E:ByteArray,⟨name.toArray⟩=E:=⟨_,rfl⟩
 have an:=Ao name [99,108,101,97,114] E I true (by rw[V];decide);obtain⟨a4,u0⟩:=an;have Z:∀ r:List UInt8,(Value.tuple #[Ad name,Ad r,.bool false])=.tuple #[.string E,Ad r,.bool false]:=fun r=>by rw[<- I]
 rw[Z]at ad;have aE:=qZ Q ab U;clear ac Y aj N J I Z W V Q ab U;go_in
 go_wp2_with fail;refine ad.o.mono ?_
 rintro e D ⟨rfl,al,aN,aw⟩;obtain⟨am,aq,a1,H⟩:=aN;obtain⟨ai,K⟩:=H.setPks (pv':=.slice none 0 0) (ps:=[]) (But.refl _ D) (qQ _ _ _ _) (fun k ar=>by cases ar) (w':=D.setCell ⟨g,4,none⟩ (.slice none 0 0)) rfl;have ap:Hid (A9 h g z s s1 c o w (.returned (.tuple #[Ad AP,.nilIface])) (D.setCell ⟨g,4,none⟩ (.slice none 0 0))):=by
  obtain⟨aS,aB,ao⟩:=aE.o;rw[aS,aB,ao];exact⟨AP,.nilIface,-1,rfl,DK _,fun _=>rfl,(But.ofBelow al).trans K,.inl ⟨rfl,am,aq,_,ai⟩⟩
 have av:Hid (Calls Tryz.prog 54 #[.nilIface] (D.setCell ⟨g,4,none⟩ (.slice none 0 0)) fun e w'=>e=.returned (.tuple #[Ad AP,.nilIface])/\w'=D.setCell ⟨g,4,none⟩ (.slice none 0 0)):=Hq _;have a2:=H.c4;have a0:=H.fg 4;clear al aw H ai K;go_wp2_with fail;refine av.o.mono ?_
 rintro e a3 ⟨rfl,rfl⟩;go_wp2
 go_ret2;exact ap.o
theorem d9 (w0:World)(ac:Nat->Addr)(z g D:Nat)(Q:Site w0 ac z g D)(s:Scr)(w:World)(aj:zW w0 w)(an:AU w z g D s)(aw:Bq s)(x:List UInt8)(aq:x.length<=1000)(name rest:List UInt8)(ar:Go.Lib.cut x [32]=(name,rest,false))(c:Int)(o:List UInt8)(aB:name=Ms)(l:List Sn)(ao:dO s c l)(av:c=0->I4 l/\l.length<=1000)(a1:c=0->o=DW l):Calls Tryz.prog 32 #[.pointer (some ⟨g,0,none⟩),Ad x] w fun e w'=>A9 z g D s s c o w e w':=by
 have ad:name=[114,117,110]:=aB;have a2:=qX (cutAt w0 ac z g D Q s w aj an x aq name rest false ar);obtain⟨K,U⟩:∃ K:ByteArray,⟨name.toArray⟩=K:=⟨_,rfl⟩
 have a9:=Ao name [99,108,101,97,114] K U false (by rw[ad];decide);have n1:=Ao name [114,117,110] K U true (by rw[ad];decide);obtain⟨bl,u0⟩:=a9;obtain⟨bk,u1⟩:=n1;have a0:∀ r:List UInt8,(Value.tuple #[Ad name,Ad r,.bool false])=.tuple #[.string K,Ad r,.bool false]:=fun r=>by rw[<- U]
 rw[a0]at a2;have am:=qY a1 av;have bc:=qX (Q.env.below aj);have aN:=qX an;have a7:Hid (∀ h,zW w0 h->AU h z g D s->Calls Tryz.prog 56 #[.pointer (some ⟨g,0,none⟩)] h fun e w'=>Pd c l h e w'):=fun h bb be=>Yp w0 ac z g D Q s h bb be aw c l ao
 clear Q aj an aw aq ar U a0 aB ad a1 av ao;go_in
 go_wp2_with fail;refine a2.o.mono ?_
 rintro e bh ⟨rfl,a6,a4,aS⟩;have bd:=qX (a7.o bh aS a4);have bg:=qX a6;clear a6 a4 aS a7;go_wp2_with fail;refine bd.o.mono ?_
 rintro e I ⟨V,n,O,bj,p,rfl,H,W,Z⟩;have J:=bg.o.tr Z;by_cases E:c=0
 ·
  obtain rfl:=H.none_ E;obtain⟨a8,aE⟩:=W E;have N:Hid (∀ h,zW I h->A9 z g D s s c o w (.returned (.tuple #[Ad (DW l),.nilIface])) h):=fun h a3=>D5 aN.o (p:=p) (H.below a3) (fun ab=>(am.o.1 ab).symm) (J.tr a3)
  have ai:Hid (qW 55 #[.slice V n O,.nilIface] I (.tuple #[Ad (DW l),.nilIface])):=by
   rw[a8];unfold DW;by_cases Y:l=[]
   ·
    subst Y;refine(Tm V O I).mono ?_
    rintro e w' ⟨rfl,rfl⟩;exact⟨rfl,br⟩
   rw[if_neg Y];have:=yH.2 Y;exact WW V O l I aE.sent (by omega) (am.o.2 E).2 (bc.o.below J).itoa (am.o.2 E).1
  clear H W Z J E a8 aE;go_wp2_with fail;refine ai.o.mono ?_
  rintro e al ⟨rfl,a5⟩;have a':=(show Hid (A9 z g D s s c o w (.returned (.tuple #[Ad (DW l),.nilIface])) al)from N.o al a5)
  clear a5 N;go_wp2
  go_ret2;exact a'.o
 obtain⟨ap,v,rfl⟩:=H.some_ E;have N:Hid (A9 z g D s s c o w (.returned (.tuple #[Ad [],.iface ap v])) I):=D5 aN.o H (fun ab=>absurd ab E) J;have ai:=qX (Vs V n O ap v I);clear H W Z J E;go_wp2_with fail;refine ai.o.mono ?_
 rintro e al ⟨rfl,rfl⟩;go_wp2
 go_ret2;exact N.o
theorem XA (w0:World)(Z:Nat->Addr)(z g D:Nat)(Y:Site w0 Z z g D)(s:Scr)(w:World)(ac:zW w0 w)(ai:AU w z g D s)(ap:Bq s)(x:List UInt8)(an:x.length<=1000)(name rest:List UInt8)(ao:Go.Lib.cut x [32]=(name,rest,false))(c n:Int)(o:List UInt8)(aq:name=EA)(aj:Tf s c n)(aB:c=0 -> -9223372036854775808<=n/\n<=9223372036854775807)(aE:c=0->o=Go.Lib.itoa n):Calls Tryz.prog 32 #[.pointer (some ⟨g,0,none⟩),Ad x] w fun e w'=>A9 z g D s s c o w e w':=by
 have U:name=[119,111,114,115,116]:=aq;have aN:=qX (cutAt w0 Z z g D Y s w ac ai x an name rest false ao);obtain⟨H,K⟩:∃ H:ByteArray,⟨name.toArray⟩=H:=⟨_,rfl⟩
 have a5:=Ao name [99,108,101,97,114] H K false (by rw[U];decide);have n1:=Ao name [114,117,110] H K false (by rw[U];decide);have n2:=Ao name [98,111,117,110,100] H K false (by rw[U];decide);have n3:=Ao name [119,111,114,115,116] H K true (by rw[U];decide);obtain⟨bk,u0⟩:=a5;obtain⟨bh,u1⟩:=n1;obtain⟨bj,u2⟩:=n2;obtain⟨be,u3⟩:=n3;have aw:∀ r:List UInt8,(Value.tuple #[Ad name,Ad r,.bool false])=.tuple #[.string H,Ad r,.bool false]:=fun r=>by rw[<- K]
 rw[aw]at aN;have bd:=qX aE;have aS:=qX aB;have a8:=qX (Y.env.below ac);have ar:=qX ai;have a4:Hid (∀ h,zW w0 h->AU h z g D s->Calls Tryz.prog 59 #[.pointer (some ⟨g,0,none⟩)] h fun e w'=>Dz c n h e w'):=fun h a7 a'=>Uu w0 Z z g D Y s h a7 a' ap c n aj
 clear Y ac ai ap an ao K aw aq U aE aB aj;go_in
 go_wp2_with fail;refine aN.o.mono ?_
 rintro e bc ⟨rfl,a3,a1,av⟩;have a9:=qX (a4.o bc av a1);have bb:=qX a3;clear a3 a1 av a4;go_wp2_with fail;refine a9.o.mono ?_
 rintro e Q ⟨J,bg,p,rfl,I,O,am⟩;have N:=bb.o.tr am;clear am;by_cases E:c=0
 ·
  obtain rfl:=I.none_ E;have ab:Hid (qW 57 #[.int .i64 J,.nilIface] Q (.tuple #[Ad (Go.Lib.itoa J),.nilIface])):=Jo J Q (a8.o.below N).itoa (by rw[O E];exact(aS.o E).1) (by rw[O E];exact(aS.o E).2);have W:Hid (∀ h,zW Q h->A9 z g D s s c o w (.returned (.tuple #[Ad (Go.Lib.itoa J),.nilIface])) h):=fun h a0=>D5 ar.o (p:=p) (I.below a0) (fun V=>by rw[bd.o V,O V]) (N.tr a0)
  clear I N O E;go_wp2_with fail;refine ab.o.mono ?_
  rintro e ad ⟨rfl,a2⟩;have a6:=(show Hid (A9 z g D s s c o w (.returned (.tuple #[Ad (Go.Lib.itoa J),.nilIface])) ad)from W.o ad a2)
  clear a2 W;go_wp2
  go_ret2;exact a6.o
 obtain⟨al,v,rfl⟩:=I.some_ E;have ab:=qX (Jl J al v Q);have W:Hid (A9 z g D s s c o w (.returned (.tuple #[Ad [],.iface al v])) Q):=D5 ar.o I (fun V=>absurd V E) N;clear I N O E;go_wp2_with fail;refine ab.o.mono ?_
 rintro e ad ⟨rfl,rfl⟩;go_wp2
 go_ret2;exact W.o
theorem XE (w0:World)(ad:Nat->Addr)(E g z:Nat)(ab:Site w0 ad E g z)(s:Scr)(w:World)(aj:zW w0 w)(an:AU w E g z s)(aS:Bq s)(x:List UInt8)(aw:x.length<=1000)(name rest:List UInt8)(aB:Go.Lib.cut x [32]=(name,rest,false))(c n:Int)(o:List UInt8)(a0:name=Cv)(ao:CL s c n)(a6:c=0 -> -9223372036854775808<=n/\n<=9223372036854775807)(a4:c=0->o=Go.Lib.itoa n):Calls Tryz.prog 32 #[.pointer (some ⟨g,0,none⟩),Ad x] w fun e w'=>A9 E g z s s c o w e w':=by
 have Z:name=[98,111,117,110,100]:=a0;have a8:=qX (cutAt w0 ad E g z ab s w aj an x aw name rest false aB);obtain⟨I,U⟩:∃ I:ByteArray,⟨name.toArray⟩=I:=⟨_,rfl⟩
 have bc:=Ao name [99,108,101,97,114] I U false (by rw[Z];decide);have n1:=Ao name [114,117,110] I U false (by rw[Z];decide);have n2:=Ao name [98,111,117,110,100] I U true (by rw[Z];decide);obtain⟨b0,u0⟩:=bc;obtain⟨bx,u1⟩:=n1;obtain⟨bT,u2⟩:=n2;have a5:∀ r:List UInt8,(Value.tuple #[Ad name,Ad r,.bool false])=.tuple #[.string I,Ad r,.bool false]:=fun r=>by rw[<- U]
 rw[a5]at a8;have bv:=qX a4;have a7:=qX a6;have bj:=qX (ab.env.below aj);have a1:=qX an;obtain⟨ap,aE,bd,am⟩:=an;have bb:Hid (∀ h,zW w0 h->zW w h->Calls Tryz.prog 58 #[.agg #[.slice (some ⟨z,0,none⟩) 8 8,Ad s.kb,.int .i64 s.per,.slice ap s.ns.length aE]] h fun e w'=>Dz c n h e w'):=fun h bh bp=>Rm w0 ad E g z ab s h bh aS ap aE bd (am.below bp) c n ao
 have bl:=qX am;clear ab aj aS aw aB U a5 a0 Z a4 a6 ao am;go_in
 go_wp2_with fail;refine a8.o.mono ?_
 rintro e bq ⟨rfl,ac,bs,a2⟩;have Y:=qX (bb.o bq a2 ac);have bm:=qX ac;have Q:=bl.o.below ac;have bN:=Q.c0;have be:=Q.c1;have bk:=Q.c2;have bt:=Q.c3;obtain⟨kb,a3⟩:=ex s.kb;obtain⟨per,aN⟩:=ex s.per;obtain⟨r,av⟩:=ex s.ns.length;rw[a3]at be Y;rw[aN]at bk Y;rw[av]at bt Y;clear ac bs a2 bb Q a3 aN av;go_wp2_with fail;refine Y.o.mono ?_
 rintro e O ⟨J,bw,p,rfl,H,N,ar⟩;have K:=bm.o.tr ar;clear ar;by_cases D:c=0
 ·
  obtain rfl:=H.none_ D;have ai:Hid (qW 57 #[.int .i64 J,.nilIface] O (.tuple #[Ad (Go.Lib.itoa J),.nilIface])):=Jo J O (bj.o.below K).itoa (by rw[N D];exact(a7.o D).1) (by rw[N D];exact(a7.o D).2);have W:Hid (∀ h,zW O h->A9 E g z s s c o w (.returned (.tuple #[Ad (Go.Lib.itoa J),.nilIface])) h):=fun h a9=>D5 a1.o (p:=p) (H.below a9) (fun V=>by rw[bv.o V,N V]) (K.tr a9)
  clear H K N D;go_wp2_with fail;refine ai.o.mono ?_
  rintro e al ⟨rfl,a'⟩;have bg:=(show Hid (A9 E g z s s c o w (.returned (.tuple #[Ad (Go.Lib.itoa J),.nilIface])) al)from W.o al a')
  clear a' W;go_wp2
  go_ret2;exact bg.o
 obtain⟨aq,v,rfl⟩:=H.some_ D;have ai:=qX (Jl J aq v O);have W:Hid (A9 E g z s s c o w (.returned (.tuple #[Ad [],.iface aq v])) O):=D5 a1.o H (fun V=>absurd V D) K;clear H K N D;go_wp2_with fail;refine ai.o.mono ?_
 rintro e al ⟨rfl,rfl⟩;go_wp2
 go_ret2;exact W.o
theorem bG (w0:World)(K:Nat->Addr)(E g H:Nat)(O:Site w0 K E g H)(s:Scr)(w:World)(N:zW w0 w)(Q:AU w E g H s)(x:List UInt8)(W:x.length<=1000)(name rest:List UInt8)(Y:Go.Lib.cut x [32]=(name,rest,false))(c:Int)(o:List UInt8)(s1:Scr)(h:name≠CQ/\name≠Ms/\name≠Cv/\name≠EA)(V:c=1):Calls Tryz.prog 32 #[.pointer (some ⟨g,0,none⟩),Ad x] w fun e w'=>A9 E g H s s1 c o w e w':=by
 have ab:=qX (cutAt w0 K E g H O s w N Q x W name rest false Y);obtain⟨z,D⟩:∃ z:ByteArray,⟨name.toArray⟩=z:=⟨_,rfl⟩
 have ac:=Ao name [99,108,101,97,114] z D false (qF h.1);have n1:=Ao name [114,117,110] z D false (qF h.2.1);have n2:=Ao name [98,111,117,110,100] z D false (qF h.2.2.1);have n3:=Ao name [119,111,114,115,116] z D false (qF h.2.2.2);obtain⟨aq,u0⟩:=ac;obtain⟨an,u1⟩:=n1;obtain⟨ap,u2⟩:=n2;obtain⟨am,u3⟩:=n3;have Z:∀ r:List UInt8,(Value.tuple #[Ad name,Ad r,.bool false])=.tuple #[.string z,Ad r,.bool false]:=fun r=>by rw[<- D]
 rw[Z]at ab;have I:=qZ (O.env.below N) Q V;clear O N Q W Y D Z h V;go_in
 go_wp2_with fail;refine ab.o.mono ?_
 rintro e ai ⟨rfl,U,al,aj⟩;have ad:Hid (∀ q,A9 E g H s s1 c o w (.returned (.tuple #[Ad [],.iface 308 (.pointer (some (K 0)))])) (ai.drewN q)):=fun q=>by
  have J:=qL U q;rw[I.o.2.2];exact⟨[],_,-1,rfl,Bo (I.o.1.below J).errs 0 (by decide),(fun h=>by cases h),.ofBelow J,.inr ⟨by decide,I.o.2.1.below J⟩⟩
 have ao:=(I.o.1.below U).errs.c0;clear U al aj;go_wp2
 go_quiet (fail);go_wp2
 go_ret2;exact ad.o nq
end
end Go.Proofs.YtejlihcdfffafaaGreatDoor
