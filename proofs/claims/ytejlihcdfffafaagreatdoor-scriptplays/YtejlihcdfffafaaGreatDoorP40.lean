import Derived.Test.YtejlihcdfffafaaGreatDoorP39
set_option maxHeartbeats 4000000
set_option maxRecDepth 100000
namespace Go.Proofs.YtejlihcdfffafaaGreatDoor
open Go.RowKit
theorem Ii {s:Scr}(z:Bq s){qs:List Pk}{l:List Sn}(V:Cy (Ae s.cs) (kindOf s.kb) s.per s.ns s.ps qs l):I4 l/\l.length<=1000/\∀ E∈BH qs l,0<=E/\E<=1125899906842624:=by
 obtain⟨H,aj,W⟩:=V.ok z.pks z.gate.curves.ok;obtain⟨J,-,ai⟩:=W.may z.gate.nums H z.gate.per.1;have am:=H.few;have O:=Me J;have K:=J.range H z.gate.per;refine⟨fun x I E D=>?_,by omega,fun E D=>?_⟩
 · obtain⟨i,h⟩:=List.getElem?_of_mem I;have Z:=K i x h;have Q:=vM (O i x h);have Y:=Af h;rcases D with rfl|rfl|rfl <;> omega
 unfold BH at D;obtain⟨x,I,rfl⟩:=List.mem_map.1 D;obtain⟨i,h⟩:=List.getElem?_of_mem I;have Z:=K i x h;have Q:=vM (O i x h);have Y:=Af h;obtain⟨q,N,-⟩:=Ab qs x.num.toNat (by omega);have ac:=A7 (H.each _ q N).1;obtain⟨t,b,-,-,U,ab⟩:=J i x h;have ad:Ar qs x.num.toNat<=x.beg:=by rw[ab];simpa using U
 have al:=Av N;omega
theorem KF:∀(zs:List Int)(h:Int),(0<=h/\h<=1125899906842624)->(∀ y∈zs,0<=y/\y<=1125899906842624)->0<=zs.foldl max h/\zs.foldl max h<=1125899906842624
 | [],h,D,_=>D
 | y::zs,h,D,z=>KF zs (max h y) (by have:=z y (by simp);omega) fun x E=>z x (by simp[E])
theorem U6 {qs:List Pk}{l:List Sn}(z:∀ h∈BH qs l,0<=h/\h<=1125899906842624):0<=Fu qs l/\Fu qs l<=1125899906842624:=by
 unfold Fu;cases e:BH qs l with
 | nil=>simp
 | cons h zs=>
  rw[e]at z;exact KF zs h (z h (by simp)) fun y D=>z y (by simp[D])
theorem OI {s:Scr}(I:Bq s){k:Nat}{n:Int}(z:Df Cb Ct Dl s.cs k s.per (some n)):0<=n/\n<=1099511627776:=by
 have D:=I.gate.per;rcases z with⟨-,z⟩|⟨L,W,h⟩
 · cases z
 have J:Ak L:=by
  obtain⟨O,q,-,K,Q,-⟩:=W;exact IQ JX I.gate.curves.ok O q L K Q
 rcases h with⟨-,⟨d,e,h,-⟩|⟨e,-⟩⟩|⟨-,⟨m,e,E⟩|⟨e,-⟩⟩
 · obtain rfl:=Option.some.inj e;obtain⟨q,V,U,ab,N,-⟩:=h.at_;obtain⟨Z,-⟩:=gK L q J U;have ac:=h.upper 0 (q8 _);have H:=(Kt 0 L J (q8 _) (by decide)).1;have Y:1*1<=s.per*Bu 0 L:=yD D.1 H (by decide) (by omega);have ad:s.per*q<=1000*20019999:=yD D.2 N (by omega) (by decide);unfold Eb at V;omega
 · cases e
 · obtain rfl:=Option.some.inj e;have H:1*1<=s.per*m:=yD D.1 E.one (by decide) (by omega);exact⟨by omega,E.most⟩
 cases e
section
variable (w0:World) (ad:Nat → Addr) (N g cb:Nat) (hS:Site w0 ad N g cb) (s:Scr) (w:World) (hw:Below w0.heap.size w0 w) (hp:AU w N g cb s) (ho:Bq s)
theorem iQ (w0:World)(I:Nat->Addr)(E g H:Nat)(J:Site w0 I E g H)(s:Scr)(w:World)(U:zW w0 w)(V:AU w E g H s)(K:Bq s)(x:List UInt8)(a3:x.length<=900)(c:Int)(o:List UInt8)(s1:Scr)(N:Ju s x c o s1):Calls Tryz.prog 32 #[.pointer (some ⟨g,0,none⟩),Ad x] w fun e w'=>A9 E g H s s1 c o w e w':=by
 have al:=WY x;unfold Ju at N;rw[FV]at N;have Q:=FV x;obtain⟨nm,rest,b,aw⟩:∃ nm rest b,Gu x=(nm,rest,b):=⟨_,_,_,rfl⟩
 rw[aw]at Q al N;rcases N with⟨ac,N⟩|⟨ac,N⟩
 ·
  have ao:b=true:=ac;subst ao;have aq:=Qv rest;have aj:Fb (Go.Lib.split rest [32]):=by
   rw[Hz];exact⟨by have:=al.2;simp at this;omega,fun y aE=>by have:=M0 rest y aE;have:=al.2;simp at this;omega⟩
  have am:1<=(Go.Lib.split rest [32]).length:=by rw[Hz];exact aq.1
  refine YN w0 I E g H J s w U V x (by omega) nm rest Q (by have:=al.2;simp at this;omega) c o s1 fun Y Z ap ai=>?_
  have W:=U.tr ap;have ab:=V.below ap;rcases N with⟨D,h,z⟩|⟨D,h,z⟩|⟨D,h,z⟩|⟨D,h,z⟩|⟨D,rfl,n,h,z⟩|⟨n1,n2,n3,an,aN,h,-⟩
  · exact PZ w0 I E g H J s Y W ab K nm Z _ ai aj am c o s1 D h z
  · exact RA w0 I E g H J s Y W ab K nm Z _ ai aj c o s1 D h z
  · exact NM w0 I E g H J s Y W ab K nm Z _ ai aj c o s1 D h z
  · exact OZ w0 I E g H J s Y W ab K nm Z _ ai aj c o s1 D h z
  ·
   refine Wo w0 I E g H J s1 Y W ab K nm Z _ ai aj c n o D h (fun O=>?_) z;obtain⟨-,e⟩|⟨a6,a2,-,⟨-,e⟩|⟨f,a4,⟨-,e⟩|⟨t,p,a1,aB,e⟩⟩⟩:=h
   · omega
   · omega
   · omega
   have av:=Qt a1;subst O;rw[e rfl];have:=Kt t _ aB.ok.1 av.1 (by omega);omega
  exact RG w0 I E g H J s Y W ab nm Z _ c o s1 ⟨n1,n2,n3,an,aN⟩ h
 have ao:b=false:=ac;subst ao;rcases N with⟨D,O,z,am⟩|⟨D,rfl,l,h,z⟩|⟨D,rfl,n,h,z⟩|⟨D,rfl,n,h,z⟩|⟨n1,n2,n3,an,h,-⟩
 · exact Xe w0 I E g H J s w U V x (by omega) nm rest Q c o s1 D O z am
 · refine d9 w0 I E g H J s1 w U V K x (by omega) nm rest Q c o D l h (fun O=>?_) z;obtain⟨p,-,ad⟩:=h;obtain⟨qs,ad⟩:=ad O;obtain⟨aS,ar,-⟩:=Ii K ad;exact⟨aS,ar⟩
 ·
  refine XE w0 I E g H J s1 w U V K x (by omega) nm rest Q c n o D h (fun O=>?_) z;obtain⟨a5,ac,⟨-,e⟩|⟨rfl,-⟩⟩:=h
  · omega
  have:=OI K ac;omega
 · refine XA w0 I E g H J s1 w U V K x (by omega) nm rest Q c n o D h (fun O=>?_) z;obtain⟨p,-,ad⟩:=h;obtain⟨qs,l,a0,rfl⟩:=ad O;have:=U6 (Ii K a0).2.2;omega
 exact bG w0 I E g H J s w U V x (by omega) nm rest Q c o s1 ⟨n1,n2,n3,an⟩ h
theorem IL {ps:List Pk}{c p:Int}(h:EF ps c p):c=0\/known c:=by
 unfold known;rcases h with⟨-,h,-⟩|⟨-,j,q,k,-,-,D,h,-⟩|⟨-,h,-⟩
 · omega
 · rcases D with⟨-,z⟩|⟨-,-,z⟩ <;> omega
 omega
theorem I7 {cs:List lI}{k:Nat}{per:Int}{ns:List Int}{ps:List Pk}{c p:Int}(h:KG cs k per ns ps c p):c=0\/known c:=by
 rcases h with⟨h,-⟩|⟨-,h,-⟩|⟨-,-,i,-,-,h,-⟩|⟨-,-,-,h,-⟩
 · exact Io h
 · exact IL h
 · exact .inr (by unfold known;omega)
 exact .inl h
theorem Oz (s:Scr){x:List UInt8}{c:Int}{o:List UInt8}{s1:Scr}(h:Ju s x c o s1):c=0\/known c:=by
 have one:c=1->c=0\/known c:=fun h=>.inr (by unfold known;omega)
 rcases h with⟨-,h⟩|⟨-,h⟩
 ·
  rcases h with⟨-,h,-⟩|⟨-,h,-⟩|⟨-,h,-⟩|⟨-,h,-⟩|⟨-,-,n,h,-⟩|⟨-,-,-,-,-,h,-⟩
  ·
   rcases h with⟨-,h,-⟩|⟨f,-,⟨-,h,-⟩|⟨l,-,-,⟨-,h⟩|⟨-,p,h⟩⟩⟩
   · exact one h
   · exact one h
   · exact .inl h
   have:=Jh h;unfold known;omega
  ·
   rcases h with⟨-,h,-⟩|⟨k,n,-,⟨-,h,-⟩|⟨per,-,-,d,p,z,⟨-,h⟩|⟨-,h⟩⟩⟩
   · exact one h
   · exact one h
   · exact one h
   rw[h];exact Io z
  ·
   rcases h with⟨-,h,-⟩|⟨-,⟨-,h,-⟩|⟨ns,p,-,-,h⟩⟩
   · exact one h
   · exact one h
   exact Io h
  ·
   rcases h with⟨-,h,-⟩|⟨a,b,d,-,⟨-,h,-⟩|⟨f,-,⟨-,h,-⟩|⟨H,D,p,-,-,h⟩⟩⟩
   · exact one h
   · exact one h
   · exact one h
   exact IL h
  ·
   rcases h with⟨-,h⟩|⟨a,b,-,⟨-,h⟩|⟨f,-,⟨-,h⟩|⟨t,p,-,h,-⟩⟩⟩
   · exact one h
   · exact one h
   · exact one h
   have:=Jh h;unfold known;omega
  exact one h
 rcases h with⟨-,h,-⟩|⟨-,-,l,⟨p,h,-⟩,-⟩|⟨-,-,n,⟨E,-,⟨-,h⟩|⟨-,h⟩⟩,-⟩|⟨-,-,n,⟨p,h,-⟩,-⟩|⟨-,-,-,-,h,-⟩
 · exact .inl h
 · exact I7 h
 · exact .inr (by unfold known;omega)
 · exact .inl h
 · exact I7 h
 exact one h
theorem aJ (w0:World)(ad:Nat->Addr)(z g D:Nat)(an:Site w0 ad z g D)(s:Scr)(w:World)(am:zW w0 w)(ao:AU w z g D s)(al:Bq s)(x:List UInt8)(ai:x.length<=900)(out:List UInt8)(s':Scr)(h:Says s x out s'):Calls Tryz.prog 21 #[.pointer (some ⟨g,0,none⟩),Ad x] w fun e w'=>e=.returned (Ad out)/\But (NZ z g D) w w'/\AU w' z g D s':=by
 obtain⟨c,o,s1,U,ac⟩:=h;have ar:=qX (iQ w0 ad z g D an s w am ao al x ai c o s1 U);have Z:=qY (Oz s U) ac;have av:=Tryz.errMethE;have aB:=Tryz.errMethF;clear an am ao al U ac ai;go_in
 go_wp2_with fail;refine ar.o.mono ?_
 rintro e H ⟨y,aw,p,rfl,J,Q,I,N⟩;by_cases E:c=0
 ·
  obtain rfl:=J.none_ E;have O:Hid (Ending.returned (Ad y)=.returned (Ad out)/\But (NZ z g D) w H/\AU H z g D s'):=by
   rcases Z.o.2 with⟨-,ab,Y⟩|⟨h,-⟩
   ·
    rcases N with⟨-,h⟩|⟨h,-⟩
    · rw[Q E,ab,Y];exact⟨rfl,I,h⟩
    exact absurd E h
   omega
  clear J Q I N E;go_wp2
  go_ret;exact O.o
 have O:Hid (Ending.returned (Ad (AV c))=.returned (Ad out)/\But (NZ z g D) w H/\AU H z g D s'):=by
  rcases Z.o.2 with⟨h,-⟩|⟨-,ab,Y⟩
  · exact absurd h E
  rcases N with⟨h,-⟩|⟨-,h⟩
  · exact absurd h E
  rw[ab,Y];exact⟨rfl,I,h⟩
 have V:known c:=by
  rcases Z.o.1 with h|h
  · exact absurd h E
  exact h
 rcases Yg J V with⟨a,rfl,K⟩|⟨ap,a,rfl,aj,K⟩
 ·
  have W:=qX (Le a _ H K);clear J Q I N E V K;go_wp2_with fail;refine W.o.mono ?_
  rintro e aq ⟨rfl,rfl⟩;go_wp2
  go_ret;exact O.o
 have W:=qX (XX ap a _ H aj K);clear J Q I N E V K aj;go_wp2_with fail;refine W.o.mono ?_
 rintro e aq ⟨rfl,rfl⟩;go_wp2
 go_ret;exact O.o
end
theorem Om {s:Scr}(h:Bq s){f:Nat}{l:lI}(E:l=[]\/Ak l):Bq { s with cs:=s.cs.set f l }:=by
 refine⟨⟨by simpa using h.gate.len,fun i ls D H=>?_,h.gate.kind,h.gate.per,h.gate.nums⟩,h.pks⟩;have z:(s.cs.set f l)[i]? = some ls:=H;by_cases e:f=i
 · subst e;rw[zB (by rw[h.gate.len];exact D)]at z;obtain rfl:=Option.some.inj z;exact E
 rw[List.getElem?_set_ne e]at z;exact h.gate.curves i ls D z
theorem N9 {cs:List lI}{k:Nat}{per:Int}{ns:List Int}{p:Int}(h:Ea cs k per ns 0 p):GA cs k per ns:=by
 rcases h.num with⟨-,-,h⟩|⟨h,-⟩
 · exact h
 omega
theorem Y0 {s s':Scr}{x out:List UInt8}(z:Bq s)(h:Says s x out s'):Bq s':=by
 obtain⟨c,o,s1,D,⟨rfl,-,rfl⟩|⟨-,-,rfl⟩⟩:=h
 ·
  have no:¬(0:Int)=1:=by decide
  rcases D with⟨-,h⟩|⟨-,h⟩
  ·
   rcases h with⟨-,h,-⟩|⟨-,h,-⟩|⟨-,h,-⟩|⟨-,h,-⟩|⟨-,rfl,-⟩|⟨-,-,-,-,-,h,-⟩
   ·
    rcases h with⟨-,h,-⟩|⟨f,-,⟨-,h,-⟩|⟨l,-,rfl,⟨h,-⟩|⟨-,p,h⟩⟩⟩
    · exact absurd h no
    · exact absurd h no
    · exact Om z (.inl h)
    exact Om z (.inr h.ok.1)
   ·
    rcases h with⟨-,h,-⟩|⟨k,n,-,⟨-,h,-⟩|⟨per,-,rfl,d,p,E,⟨-,h⟩|⟨-,h⟩⟩⟩
    · exact absurd h no
    · exact absurd h no
    · exact absurd h no
    subst h;exact⟨N9 E,z.pks⟩
   ·
    rcases h with⟨-,h,-⟩|⟨-,⟨-,h,-⟩|⟨ns,p,-,rfl,h⟩⟩
    · exact absurd h no
    · exact absurd h no
    exact⟨N9 h,z.pks⟩
   ·
    rcases h with⟨-,h,-⟩|⟨a,b,d,-,⟨-,h,-⟩|⟨f,-,⟨-,h,-⟩|⟨I,H,p,-,rfl,h⟩⟩⟩
    · exact absurd h no
    · exact absurd h no
    · exact absurd h no
    refine⟨z.gate,?_⟩;rcases h.num with⟨-,-,h⟩|h
    · exact h
    omega
   · exact z
   exact absurd h no
  rcases h with⟨-,-,-,rfl⟩|⟨-,rfl,-⟩|⟨-,rfl,-⟩|⟨-,rfl,-⟩|⟨-,-,-,-,h,-⟩
  · exact⟨z.gate,FD⟩
  · exact z
  · exact z
  · exact z
  exact absurd h no
 exact z
section
variable (w0:World) (ad:Nat → Addr) (N g cb:Nat) (hS:Site w0 ad N g cb) (s:Scr) (w:World) (hw:Below w0.heap.size w0 w) (hp:AU w N g cb s) (ho:Bq s)
theorem U4 (w0:World)(I:Nat->Addr)(H g z:Nat)(ac:Site w0 I H g z)(s:Scr)(w:World)(ab:zW w0 w)(ai:AU w H g z s)(E:Bq s):∃ c p,KG s.cs (kindOf s.kb) s.per s.ns s.ps c p/\0<=c/\(c=0->∃ qs l,Cy (Ae s.cs) (kindOf s.kb) s.per s.ns s.ps qs l):=by
 obtain⟨c,p,D⟩:=Vm s.cs (Ew s.kb) s.per s.ns s.ps;refine⟨c,p,D,by rcases I7 D with h|h|h <;> omega,fun Q=>?_⟩;subst Q;obtain⟨ad,O,W⟩:=Q5 D;obtain⟨N,U,am,K⟩:=ai;have Y:=K.gate E.gate.len (Il E (ns:=s.ns) (by rcases E.gate.nums.len with h|h;rw[h.2];decide;omega));obtain⟨V,aj,-,Z⟩:=BD.value K.pks;have:=Lv.good (some ⟨z,0,none⟩) 8 s.cs ⟨s.kb.toArray⟩ s.per N U s.ns V aj s.ps w I (ac.env.below ab).errs Y Z (by rw[ByteArray.toList_mk];exact ad) O W;obtain⟨e,w',aq,⟨ao,al,ap,an,qs,l,-,-,-,J,-⟩,-⟩:=this [];rw[ByteArray.toList_mk]at J;exact⟨qs,l,J⟩
theorem XL (w0:World)(H:Nat->Addr)(E g D:Nat)(J:Site w0 H E g D)(s:Scr)(w:World)(U:zW w0 w)(Q:AU w E g D s)(h:Bq s):∃ c n,CL s c n/\0<=c:=by
 obtain⟨N,K,W,O⟩:=Q;have V:=O.gate h.gate.len (Il h (ns:=s.ns) (by rcases h.gate.nums.len with I|I;rw[I.2];decide;omega));have:=FB.good (some ⟨D,0,none⟩) 8 s.cs ⟨s.kb.toArray⟩ s.per N K s.ns w H (J.env.below U).errs V (by rw[ByteArray.toList_mk];exact h.gate);obtain⟨e,w',Y,⟨o,z,-⟩,-⟩:=this [];rw[ByteArray.toList_mk]at z;cases o with
 | none=>exact⟨4,0,⟨none,z,.inl ⟨rfl,rfl⟩⟩,by decide⟩
 | some n=>exact⟨0,n,⟨some n,z,.inr ⟨rfl,rfl⟩⟩,by decide⟩
theorem iU (w0:World)(U:Nat->Addr)(J g K:Nat)(al:Site w0 U J g K)(s:Scr)(w:World)(aj:zW w0 w)(am:AU w J g K s)(ad:Bq s)(x:List UInt8):∃ out s',Says s x out s':=by
 have aB:∀ {c o s1},Ju s x c o s1->(c=0\/known c)->∃ out s',Says s x out s':=fun {c o s1} h aw=>by
  rcases aw with z|z
  · exact⟨o,s1,c,o,s1,h,.inl ⟨z,rfl,rfl⟩⟩
  exact⟨AV c,s,c,o,s1,h,.inr ⟨by rcases z with h|h <;> omega,rfl,rfl⟩⟩
 have ap:∀ {c o s1},Ju s x c o s1->∃ out s',Says s x out s':=fun h=>aB h (Oz s h)
 cases an:(Go.Lib.cut x [32]).2.2 with
 | true=>
  obtain⟨nm,ai⟩:=ex ((Go.Lib.cut x [32]).1);obtain⟨ws,ar⟩:=ex (Go.Lib.split (Go.Lib.cut x [32]).2.1 [32]);have go:∀ {c o s1},Bp s nm ws c o s1->∃ out s',Says s x out s':=fun h=>ap (.inl ⟨an,by rw[ai,ar];exact h⟩)
  by_cases n1:nm=BF
  ·
   cases E:Em (ws.headD [])with
   | none=>exact go (c:=1) (o:=AP) (s1:=s) (.inl ⟨n1,.inl ⟨E,rfl,rfl⟩,fun h=>by cases h⟩)
   | some f=>
    cases W:Er ws.tail with
    | none=>exact go (c:=1) (o:=AP) (s1:=s) (.inl ⟨n1,.inr ⟨f,E,.inl ⟨W,rfl,rfl⟩⟩,fun h=>by cases h⟩)
    | some l=>
     by_cases z:l=[]
     · exact go (c:=0) (o:=AP) (.inl ⟨n1,.inr ⟨f,E,.inr ⟨l,W,rfl,.inl ⟨z,rfl⟩⟩⟩,fun _=>rfl⟩)
     obtain⟨c,p,ac⟩:=KS l;exact go (c:=c) (o:=AP) (.inl ⟨n1,.inr ⟨f,E,.inr ⟨l,W,rfl,.inr ⟨z,p,ac⟩⟩⟩,fun _=>rfl⟩)
  by_cases n2:nm=Cu
  ·
   by_cases O:ws.length=2
   ·
    obtain⟨k,y,rfl⟩:∃ k y,ws=[k,y]:=by
     match ws,O with
     | [k,y],_=>exact⟨k,y,rfl⟩
    cases D:Fp y with
    | none=>exact go (c:=1) (o:=AP) (s1:=s) (.inr (.inl ⟨n2,.inr ⟨k,y,rfl,.inl ⟨D,rfl,rfl⟩⟩,fun h=>by cases h⟩))
    | some per=>
     obtain⟨d,p,V⟩:=JM s.cs (Ew k) per (Bh k);by_cases aq:d=9
     · exact go (c:=1) (o:=AP) (.inr (.inl ⟨n2,.inr ⟨k,y,rfl,.inr ⟨per,D,rfl,d,p,V,.inl ⟨aq,rfl⟩⟩⟩,fun h=>by cases h⟩))
     exact go (c:=d) (o:=AP) (.inr (.inl ⟨n2,.inr ⟨k,y,rfl,.inr ⟨per,D,rfl,d,p,V,.inr ⟨aq,rfl⟩⟩⟩,fun _=>rfl⟩))
   exact go (c:=1) (o:=AP) (s1:=s) (.inr (.inl ⟨n2,.inl ⟨O,rfl,rfl⟩,fun h=>by cases h⟩))
  by_cases n3:nm=Br
  ·
   by_cases Y:ws.length=8
   ·
    cases D:Ev ws with
    | none=>exact go (c:=1) (o:=AP) (s1:=s) (.inr (.inr (.inl ⟨n3,.inr ⟨Y,.inl ⟨D,rfl,rfl⟩⟩,fun h=>by cases h⟩)))
    | some ns=>
     obtain⟨d,p,V⟩:=JM s.cs (Ew s.kb) s.per ns;exact go (c:=d) (o:=AP) (.inr (.inr (.inl ⟨n3,.inr ⟨Y,.inr ⟨ns,p,D,rfl,V⟩⟩,fun _=>rfl⟩)))
   exact go (c:=1) (o:=AP) (s1:=s) (.inr (.inr (.inl ⟨n3,.inl ⟨Y,rfl,rfl⟩,fun h=>by cases h⟩)))
  by_cases H:nm=Bd
  ·
   by_cases ao:ws.length=3
   ·
    obtain⟨a,b,d,rfl⟩:∃ a b d,ws=[a,b,d]:=by
     match ws,ao with
     | [a,b,d],_=>exact⟨a,b,d,rfl⟩
    cases E:Gs a with
    | none=>exact go (c:=1) (o:=AP) (s1:=s) (.inr (.inr (.inr (.inl ⟨H,.inr ⟨a,b,d,rfl,.inl ⟨E,rfl,rfl⟩⟩,fun h=>by cases h⟩))))
    | some f=>
     cases D:Ev [b,d]with
     | none=>exact go (c:=1) (o:=AP) (s1:=s) (.inr (.inr (.inr (.inl ⟨H,.inr ⟨a,b,d,rfl,.inr ⟨f,E,.inl ⟨D,rfl,rfl⟩⟩⟩,fun h=>by cases h⟩))))
     | some ns=>
      obtain⟨y,I,rfl⟩:∃ y I,ns=[y,I]:=by
       have:=EZ D
       match ns,this with
       | [y,I],_=>exact⟨y,I,rfl⟩
      obtain⟨c,p,aE⟩:=K7 (s.ps++[⟨f,y,I⟩]);exact go (c:=c) (o:=AP) (.inr (.inr (.inr (.inl ⟨H,.inr ⟨a,b,d,rfl,.inr ⟨f,E,.inr ⟨y,I,p,D,rfl,aE⟩⟩⟩,fun _=>rfl⟩))))
   exact go (c:=1) (o:=AP) (s1:=s) (.inr (.inr (.inr (.inl ⟨H,.inl ⟨ao,rfl,rfl⟩,fun h=>by cases h⟩))))
  by_cases Q:nm=atW
  ·
   by_cases O:ws.length=2
   ·
    obtain⟨a,b,rfl⟩:∃ a b,ws=[a,b]:=by
     match ws,O with
     | [a,b],_=>exact⟨a,b,rfl⟩
    cases E:Em a with
    | none=>exact go (c:=1) (o:=AP) (s1:=s) (.inr (.inr (.inr (.inr (.inl ⟨Q,rfl,0,.inr ⟨a,b,rfl,.inl ⟨E,rfl⟩⟩,fun h=>by cases h⟩)))))
    | some f=>
     cases D:Fp b with
     | none=>exact go (c:=1) (o:=AP) (s1:=s) (.inr (.inr (.inr (.inr (.inl ⟨Q,rfl,0,.inr ⟨a,b,rfl,.inr ⟨f,E,.inl ⟨D,rfl⟩⟩⟩,fun h=>by cases h⟩)))))
     | some t=>
      obtain⟨c,p,ac⟩:=KS (Ae s.cs f.toNat);exact go (c:=c) (s1:=s) (.inr (.inr (.inr (.inr (.inl ⟨Q,rfl,_,.inr ⟨a,b,rfl,.inr ⟨f,E,.inr ⟨t,p,D,ac,fun _=>rfl⟩⟩⟩,fun _=>rfl⟩)))))
   exact go (c:=1) (o:=AP) (s1:=s) (.inr (.inr (.inr (.inr (.inl ⟨Q,rfl,0,.inl ⟨O,rfl⟩,fun h=>by cases h⟩)))))
  exact go (c:=1) (o:=AP) (s1:=s) (.inr (.inr (.inr (.inr (.inr ⟨n1,n2,n3,H,Q,rfl,rfl⟩)))))
 | false=>
  obtain⟨nm,ai⟩:=ex ((Go.Lib.cut x [32]).1);have go:∀ {c o s1},Alone s nm c o s1->∃ out s',Says s x out s':=fun h=>ap (.inr ⟨an,by rw[ai];exact h⟩)
  by_cases n1:nm=CQ
  · exact go (.inl ⟨n1,rfl,rfl,rfl⟩)
  by_cases n2:nm=Ms
  ·
   obtain⟨c,p,N,-,ab⟩:=U4 w0 U J g K al s w aj am ad;by_cases z:c=0
   · obtain⟨qs,l,Z⟩:=ab z;exact go (c:=c) (o:=DW l) (.inr (.inl ⟨n2,rfl,l,⟨p,N,fun _=>⟨qs,Z⟩⟩,fun _=>rfl⟩))
   exact go (c:=c) (o:=[]) (.inr (.inl ⟨n2,rfl,[],⟨p,N,fun h=>absurd h z⟩,fun h=>absurd h z⟩))
  by_cases n3:nm=Cv
  · obtain⟨c,n,av,-⟩:=XL w0 U J g K al s w aj am ad;exact go (c:=c) (.inr (.inr (.inl ⟨n3,rfl,n,av,fun _=>rfl⟩)))
  by_cases H:nm=EA
  ·
   obtain⟨c,p,N,-,ab⟩:=U4 w0 U J g K al s w aj am ad;by_cases z:c=0
   · obtain⟨qs,l,Z⟩:=ab z;exact go (c:=c) (.inr (.inr (.inr (.inl ⟨H,rfl,Fu qs l,⟨p,N,fun _=>⟨qs,l,Z,rfl⟩⟩,fun _=>rfl⟩))))
   exact go (c:=c) (o:=[]) (.inr (.inr (.inr (.inl ⟨H,rfl,0,⟨p,N,fun h=>absurd h z⟩,fun h=>absurd h z⟩))))
  exact go (c:=1) (o:=AP) (s1:=s) (.inr (.inr (.inr (.inr ⟨n1,n2,n3,H,rfl,rfl⟩))))
end
theorem WN (w:World)(O Q:TypeId)(K:Nat)(ab:w.heap.size+1<K)(N:World)(h:Below ((w.alloc (.cells (madeCells #[.slice none 0 0] 8) O)).alloc (.cells #[.slice (some ⟨w.heap.size,0,none⟩) 8 8,.string ⟨#[102,105,102,111]⟩,.int .i64 1,.slice none 0 0,.slice none 0 0] Q)).heap.size ((w.alloc (.cells (madeCells #[.slice none 0 0] 8) O)).alloc (.cells #[.slice (some ⟨w.heap.size,0,none⟩) 8 8,.string ⟨#[102,105,102,111]⟩,.int .i64 1,.slice none 0 0,.slice none 0 0] Q)) N)(W:K<=N.heap.size):CF N K (w.heap.size+1) w.heap.size none 0 (.slice none 0 0) Cr:=by
 obtain⟨z,J⟩:=ex (w.alloc (.cells (madeCells #[.slice none 0 0] 8) O));have hs1:z.heap.size=w.heap.size+1:=by rw[<- J];simp
 have ac:∀ i,i<8->z.cell? ⟨w.heap.size,i,none⟩=some (.slice none 0 0):=fun i H=>by
  rw[<- J,qO _ _ _ _ rfl];exact Gr _ _ _ H
 have Y:∀ i,z.frozen? ⟨w.heap.size,i,none⟩=false:=fun i=>by rw[<- J];exact vQ w _ _ i
 rw[J]at h;obtain⟨I,D⟩:=ex (z.alloc (.cells #[.slice (some ⟨w.heap.size,0,none⟩) 8 8,.string ⟨#[102,105,102,111]⟩,.int .i64 1,.slice none 0 0,.slice none 0 0] Q));have U:zW z I:=by rw[<- D];exact ba
 have E:∀ i,I.cell? ⟨w.heap.size+1,i,none⟩=(#[.slice (some ⟨w.heap.size,0,none⟩) 8 8,.string ⟨#[102,105,102,111]⟩,.int .i64 1,.slice none 0 0,.slice none 0 0]:Array Value)[i]?:=fun i=>by
  rw[<- D,<- hs1,qO _ _ _ _ rfl]
 have ad:∀ i,I.frozen? ⟨w.heap.size+1,i,none⟩=false:=fun i=>by rw[<- D,<- hs1];exact vQ z _ _ i
 have hs2:I.heap.size=w.heap.size+2:=by rw[<- D];simp[hs1]
 rw[D]at h;refine⟨ab,by omega,by omega,W,j7 h (E 0),j7 h (E 1),j7 h (E 2),j7 h (E 3),j7 h (E 4),fun i=>?_,fun i=>?_,.inl rfl,by simp[Cr],by simp[maxLen],fun _=>⟨rfl,rfl⟩,(fun Z e=>by cases e),qQ _ _ _ _,fun i ls H=>?_⟩
 · rw[h.frozen (p:=⟨w.heap.size+1,i,none⟩) (by show w.heap.size+1<_;omega)];exact ad i
 · rw[h.frozen (p:=⟨w.heap.size,i,none⟩) (by show w.heap.size<_;omega),U.frozen (p:=⟨w.heap.size,i,none⟩) (by show w.heap.size<_;omega)];exact Y i
 have V:ls=[]:=x8 (q9 H);subst V;have ai:=Af H;exact⟨none,0,j7 h (j7 U (ac i ai)),.inl rfl,lr,by simp[maxLen],fun _=>⟨rfl,rfl⟩,fun Z e=>by cases e⟩
theorem TD (w:World):Calls Tryz.prog 20 #[] w fun e w'=>e=.returned (.pointer (some ⟨w.heap.size+1,0,none⟩))/\w'=(w.alloc (.cells (madeCells #[.slice none 0 0] 8) 54)).alloc (.cells #[.slice (some ⟨w.heap.size,0,none⟩) 8 8,.string ⟨#[102,105,102,111]⟩,.int .i64 1,.slice none 0 0,.slice none 0 0] 80):=by
 have h:=Ob;go_in
 go_wp2
 go_ret;exact⟨by simp,by simp⟩
def TG (H:Nat->List UInt8->Prop)(E:Nat->Scr->Prop)(h:List (List UInt8))(w:World)(e:Ending)(w':World):Prop:=
 ∃ D z s',e=.returned (.tuple #[.slice (some ⟨D,0,none⟩) h.length h.length,.nilIface])/\CO w' (some ⟨D,0,none⟩) z/\(∀(i:Nat) o,z[i]? = some o->H i o)/\E h.length s'/\G9 Cr h z s'/\zW w w'
theorem Ns (a:oA)(cap:Nat)(h:List (List UInt8))(w:World)(ab:Nat->Addr)(be:Env w ab)(a6:CO w a h)(bp:h.length<=100)(bb:∀ x∈h,x.length<=900)(W:Nat->List UInt8->Prop)(K:Nat->Scr->Prop)(bj:K 0 Cr)
  (a7:∀(i:Nat) x s,h[i]? = some x->K i s->Bq s->(∃ out s',Says s x out s')->∃ out s',Says s x out s'/\W i out/\K (i+1) s') :
  Calls Tryz.prog 8 #[.slice a h.length cap] w fun e w'=>TG W K h w e w':=by
 have b2:Hid (∀(i:Nat) x,h[i]? = some x->∃ b Z,a=some ⟨b,Z,none⟩/\w.cell? ⟨b,Z+i,none⟩=some (Ad x)):=fun i x J=>by
  obtain⟨b,Z,bt,-,b4⟩:=a6.place (by have:=Af J;omega);exact⟨b,Z,bt,b4 i x J⟩
 have b6:=qX bb;have b3:=qX a7;have b5:=qX bj;obtain⟨n,ao⟩:=ex h.length;have al:=qX ao;rw[ao]at bp;obtain⟨B,Q⟩:=ex w.heap.size;have bx:=qX Q;have a1:=(show Hid (Calls Tryz.prog 20 #[] w fun e w'=>e=.returned (.pointer (some ⟨w.heap.size+1,0,none⟩))/\w'=(w.alloc (.cells (madeCells #[.slice none 0 0] 8) 54)).alloc (.cells #[.slice (some ⟨w.heap.size,0,none⟩) 8 8,.string ⟨#[102,105,102,111]⟩,.int .i64 1,.slice none 0 0,.slice none 0 0] 80))from TD w)
 have H:=WN w 54 80;have aE:zW w ((w.alloc (.cells (madeCells #[.slice none 0 0] 8) 54)).alloc (.cells #[.slice (some ⟨w.heap.size,0,none⟩) 8 8,.string ⟨#[102,105,102,111]⟩,.int .i64 1,.slice none 0 0,.slice none 0 0] 80)):=ba.alloc (by simp) _;obtain⟨E,a2⟩:=ex ((w.alloc (.cells (madeCells #[.slice none 0 0] 8) 54)).alloc (.cells #[.slice (some ⟨w.heap.size,0,none⟩) 8 8,.string ⟨#[102,105,102,111]⟩,.int .i64 1,.slice none 0 0,.slice none 0 0] 80));have am:E.heap.size=w.heap.size+2:=by rw[<- a2];simp
 rw[a2]at a1 H aE;have bk:=SS n (by omega);have ac:zW E (E.alloc (.cells (madeCells #[.string ByteArray.empty] n) 9)):=ba;have ar:BN (E.alloc (.cells (madeCells #[.string ByteArray.empty] n) 9)) E.heap.size n (Fa []):=NV E n (.string ByteArray.empty) 9;obtain⟨O,aj⟩:=ex (E.alloc (.cells (madeCells #[.string ByteArray.empty] n) 9));have b1:O.heap.size=w.heap.size+3:=by rw[<- aj];simp[am]
 rw[aj]at ac ar;have ca:(Instr.makeSlice 24 (.int .i64 n) (.int .i64 n)).run Tryz.prog E=.ok (.slice (some ⟨B+2,0,none⟩) n n) O:=by rw[bk E,aj,am,Q]
 rw[am,Q]at ar;have a4:Hid (AU O (B+3) (B+1) B Cr/\zW w O/\BN O (B+2) n (Fa [])):=by
  refine⟨⟨none,0,.slice none 0 0,?_⟩,aE.tr ac,ar⟩;have:=H (B+3) (by omega) O ac (by omega);rw[Q]at this;exact this
 have aS:Hid (Site w ab (B+3) (B+1) B):=⟨be,by omega,by omega,by omega⟩
 rw[Q]at a1;rw[ao];clear be a6 bb a7 bj ao Q H aE a2 am bk ac ar aj b1;go_in
 have cb:decide ((100:Int)<(n:Int))=false:=qF (by omega);go_wp2_with fail;refine a1.o.mono ?_
 rintro e b' ⟨rfl,b7⟩;subst b7;go_wp2_with fail;go_loopw [18] (fun i wr=>∃ k:Nat,∃ z s,k<=n/\i=.int .i64 k/\z.length=k/\AU wr (B+3) (B+1) B s/\Bq s/\zW w wr/\BN wr (B+2) n (Fa z)/\G9 Cr (h.take k) z s/\K k s/\∀(i:Nat) o,z[i]? = some o->W i o) (fun i _=>n-(intOf i).toNat)
 case atStart=>exact⟨0,[],Cr,qR _,rfl,rfl,a4.o.1,OD,a4.o.2.1,a4.o.2.2,⟨rfl,rfl⟩,b5.o,fun i o D=>by simp at D⟩
 case round=>
  obtain⟨k,z,s,b8,rfl,aq,H,N,I,U,V,ai,aw⟩:=hrel;by_cases a3:k<n
  ·
   obtain⟨x,an,a9⟩:=Ab h k (by rw[al.o];exact a3);obtain⟨b,Z,rfl,a5⟩:=b2.o k x an;have b9:=j7 I a5;obtain⟨out,s',ap,bc,bg⟩:=b3.o k x s an ai N (iU w ab (B+3) (B+1) B aS.o s wr I H N x);have bv:=qX (aJ w ab (B+3) (B+1) B aS.o s wr I H N x (b6.o x a9) out s' ap);have a8:h.take (k+1)=h.take k++[x]:=by rw[vF,an];rfl
   have Y:Hid (Bq s'/\zW w wr/\BN wr (B+2) n (Fa z)/\G9 Cr (h.take (k+1)) (z++[out]) s'/\K (k+1) s'/\(∀(i:Nat) o,(z++[out])[i]? = some o->W i o)/\z.length=k):=by
    refine⟨Y0 N ap,I,U,by rw[a8];exact Ku V ap,bg,fun i o J=>?_,aq⟩;rcases DZ J with⟨-,D⟩|⟨rfl,rfl⟩
    · exact aw i o D
    rw[aq];exact bc
   clear aq H N I U V ai aw an a9 a5 ap bc bg a8;go_wp2_with fail;refine bv.o.mono ?_
   rintro e aN ⟨rfl,aB,bd⟩;obtain⟨bq,a',bh,bw,bl,bm,a0⟩:=Y.o;have ad:=bh.but aB (fun D=>by rcases D with D|D|D <;> omega);have cd:=ad.cell k a3;have ce:=ad.frozen k;have av:Hid (AU (aN.setCell ⟨B+2,k,none⟩ (Ad out)) (B+3) (B+1) B s'/\zW w (aN.setCell ⟨B+2,k,none⟩ (Ad out))/\BN (aN.setCell ⟨B+2,k,none⟩ (Ad out)) (B+2) n (Fa (z++[out]))/\(z++[out]).length=k+1):=by
    refine⟨?_,En (aS.o.later a' aB) (by show w.heap.size<=B+2;rw[bx.o];omega) _,?_,by simp[a0]⟩
    · obtain⟨bN,bs,bT,D⟩:=bd;exact⟨bN,bs,bT,D.far (b:=B+2) (by omega) (by omega) (by omega) k (Ad out)⟩
    rw[<- PS,a0];exact ad.put a3 _
   clear bq a' bh bw bl bm a0 ad aB bd;go_wp2
   go_roundw
   case rel=>exact⟨k+1,z++[out],s',by omega,by go_num,av.o.2.2.2,av.o.1,Y.o.1,av.o.2.1,av.o.2.2.1,Y.o.2.2.2.1,Y.o.2.2.2.2.1,Y.o.2.2.2.2.2.1⟩
   case measure=>simp[intOf];omega
  obtain rfl:k=n:=by omega
  have b0:Hid (TG W K h w (.returned (.tuple #[.slice (some ⟨B+2,0,none⟩) k k,.nilIface])) wr):=by
   refine⟨B+2,z,s,by rw[al.o],.inr ⟨B+2,0,rfl,U.lt,fun i o J=>?_⟩,aw,by rw[al.o];exact ai,?_,I⟩
   · have cc:=Af J;rw[vC,U.cell i (by omega)];unfold Fa;rw[List.getD_eq_getElem?_getD,J];rfl
   rw[show h.take k=h by rw[<- al.o,xA]]at V;exact V
  clear aq H N I U V ai aw;go_wp2
  go_ret2;exact b0.o
theorem LY (a b:oA)(W Y:Nat)(xs:List (List UInt8))(w:World)(U:CO w a xs)(V:CO w b xs)(ai:xs.length<=1000):Calls Tryz.prog 9 #[.slice a xs.length W,.slice b xs.length Y] w fun e w'=>e=.returned (.bool true)/\zW w w':=by
 have ab:Hid (∀(i:Nat) x,xs[i]? = some x->∃ h H z E,a=some ⟨h,H,none⟩/\b=some ⟨z,E,none⟩/\w.cell? ⟨h,H+i,none⟩=some (Ad x)/\w.cell? ⟨z,E+i,none⟩=some (Ad x)):=fun i x I=>by
  obtain⟨h,H,aj,-,K⟩:=U.place (by have:=Af I;omega);obtain⟨z,E,ac,-,J⟩:=V.place (by have:=Af I;omega);exact⟨h,H,z,E,aj,ac,K i x I,J i x I⟩
 obtain⟨n,N⟩:=ex xs.length;have ad:=qX N;rw[N]at ai ⊢;clear U V N;go_in
 go_wp2_with fail;go_loopw [5] (fun i wr=>∃ k:Nat,k<=n/\i=.int .i64 k/\∃ q,wr=w.drewN q) (fun i _=>n-(intOf i).toNat)
 case atStart=>exact⟨0,qR _,rfl,0,rfl⟩
 case round=>
  obtain⟨k,al,rfl,q,rfl⟩:=hrel;by_cases Z:k<n
  ·
   obtain⟨x,Q,-⟩:=Ab xs k (by rw[ad.o];exact Z);obtain⟨h,H,z,E,rfl,rfl,K,J⟩:=ab.o k x Q;obtain⟨D,O⟩:∃ D:ByteArray,⟨x.toArray⟩=D:=⟨_,rfl⟩
   have ao:w.cell? ⟨h,H+k,none⟩=some (.string D):=by rw[K,<- O]
   have an:w.cell? ⟨z,E+k,none⟩=some (.string D):=by rw[J,<- O]
   have am:(D.toList==D.toList)=true:=by simp
   clear Q K J O;go_wp2
   go_quiet (fail);go_wp2
   go_roundw
   case rel=>exact⟨k+1,by omega,by go_num,_,rfl⟩
   case measure=>simp[intOf];omega
  obtain rfl:k=n:=by omega
  go_wp2
  go_ret;exact⟨rfl,qL br q⟩
theorem Et (c:Int)(w:World)(D:1<=c/\c<=9):Calls Tryz.prog 16 #[.int .i64 c] w fun e w'=>e=.returned (Ad (AV c))/\zW w w':=by
 have h:∀ o:Obj,zW w (w.alloc o):=fun o=>ba
 have z:=qX h;clear h;rcases(show c=1\/c=2\/c=3\/c=4\/c=5\/c=6\/c=7\/c=8\/c=9 by omega)with rfl|rfl|rfl|rfl|rfl|rfl|rfl|rfl|rfl
 all_goals
  clear D;go_in
  go_wp2
  go_ret;exact⟨rfl,z.o _⟩
def hpk:Pk:=⟨0,3,5⟩
def hs1:Scr:=⟨LQ,Gv,2,[],[]⟩
def hs2:Scr:=⟨LQ,Gv,2,[],[hpk]⟩
def hl0:List UInt8:=[108,105,110,107,32,102,105,102,111,32,50]
def hl1:List UInt8:=[112,97,99,107,101,116,32,48,32,51,32,53]
theorem VU:Cj LQ 8:=fun _ _ _ h=>.inl (x8 (q9 h))
theorem gV:Al [hpk]:=⟨by decide,fun i p h=>by
 match i,h with
 | 0,h=>cases h;exact⟨rfl,by decide⟩
 | i+1,h=>simp at h⟩
theorem kz:Says Cr hl0 AP hs1:=by
 refine⟨0,AP,hs1,.inl ?_,.inl ⟨rfl,rfl,rfl⟩⟩;rw[FV,show Gu hl0=(Cu,[102,105,102,111,32,50],true)by decide];refine⟨rfl,.inr (.inl ⟨rfl,.inr ⟨Gv,[50],by rw[Hz];decide,.inr ⟨2,by decide,by simp[hs1,Cr,Bh],0,-1,?_,.inr ⟨by decide,rfl⟩⟩⟩,fun _=>rfl⟩)⟩;rw[show Bh Gv=[]by simp[Bh]];exact .inr (.inr ⟨rfl,VU,rfl,.inr ⟨by decide,by decide,.inr ⟨by decide,by decide,0,.inl ⟨rfl,.inr ⟨rfl,rfl⟩⟩,rfl⟩⟩⟩)
theorem jW:Says hs1 hl1 AP hs2:=by
 refine⟨0,AP,hs2,.inl ?_,.inl ⟨rfl,rfl,rfl⟩⟩;rw[FV,show Gu hl1=(Bd,[48,32,51,32,53],true)by decide];exact⟨rfl,.inr (.inr (.inr (.inl ⟨rfl,.inr ⟨[48],[51],[53],by rw[Hz];decide,.inr ⟨0,by decide,.inr ⟨3,5,-1,by decide,rfl,.inr (.inr ⟨gV,rfl,rfl⟩)⟩⟩⟩,fun _=>rfl⟩)))⟩
theorem SG {c p:Int}(h:KG hs2.cs (kindOf hs2.kb) hs2.per hs2.ns hs2.ps c p):c=0:=by
 have K:kindOf hs2.kb=1:=rfl;rw[K]at h;rcases h with⟨h,H⟩|⟨-,h,H⟩|⟨-,-,i,h,-⟩|⟨-,-,-,h,-⟩
 ·
  rcases h with⟨h,-⟩|⟨-,i,⟨ls,q,E,J,-⟩,-⟩|⟨-,-,-,⟨h,-⟩|⟨-,-,⟨h,-⟩|⟨-,-,d,I,N⟩⟩⟩
  · exact absurd rfl h
  · exact absurd (x8 (q9 E)) J
  · cases h
  · exact absurd (by decide) h
  rcases I with⟨-,⟨-,h⟩|⟨h,-⟩⟩|⟨h,-⟩|⟨h,-⟩|⟨h,-⟩|⟨h,-⟩
  · exact absurd rfl h
  · omega
  · cases h
  · cases h
  · cases h
  cases h
 ·
  rcases h with⟨h,-⟩|⟨-,j,q,k,E,-,D,-⟩|⟨-,h,-⟩
  · exact absurd h (by decide)
  ·
   have z:([hpk]:List Pk)[j]? = some q:=E
   match j,z,D with
   | 0,z,D=>
    cases z
    rcases D with⟨h,-⟩|⟨-,h,-⟩
    · exact absurd h (by decide)
    exact absurd h (by decide)
   | j+1,z,_=>simp at z
  exact h
 · exact absurd h (Ye [hpk] i)
 exact h
theorem R9 {qs:List Pk}{l:List Sn}(z:Cy (Ae hs2.cs) (kindOf hs2.kb) hs2.per hs2.ns hs2.ps qs l):qs=[hpk]/\l=[⟨0,5,11⟩]:=by
 have D:Cy (Ae LQ) 1 2 [] [hpk] qs l:=z;obtain⟨rfl,h⟩:=dZ gV D;refine⟨rfl,?_⟩;rcases h with⟨-,rfl⟩|⟨e,-⟩|⟨e,-⟩|⟨e,-⟩|⟨e,-⟩
 · rfl
 · cases e
 · cases e
 · cases e
 cases e
theorem jT:Go.Lib.itoa 0=[48]:=by unfold Go.Lib.itoa;rw[if_neg (by decide),Go.Lib.decDigits,dif_pos (by decide)];rfl
theorem jE:Go.Lib.itoa 5=[53]:=by unfold Go.Lib.itoa;rw[if_neg (by decide),Go.Lib.decDigits,dif_pos (by decide)];rfl
theorem jA:Go.Lib.itoa 6=[54]:=by unfold Go.Lib.itoa;rw[if_neg (by decide),Go.Lib.decDigits,dif_pos (by decide)];rfl
theorem jc:Go.Lib.itoa 11=[49,49]:=by
 unfold Go.Lib.itoa;rw[if_neg (by decide),Go.Lib.decDigits,dif_neg (by decide),Go.Lib.decDigits,dif_pos (by decide)];rfl
theorem jY {out:List UInt8}{s':Scr}(h:Says hs2 Ms out s'):out=[48,58,53,45,49,49]/\s'=hs2:=by
 obtain⟨c,o,s1,z,H⟩:=h;unfold Ju at z;rw[FV,show Gu Ms=(Ms,[],false)by decide]at z;rcases z with⟨h,-⟩|⟨-,h⟩
 · cases h
 rcases h with⟨h,-⟩|⟨-,rfl,l,⟨p,I,D⟩,J⟩|⟨h,-⟩|⟨h,-⟩|⟨-,h,-⟩
 · exact absurd h (by decide)
 ·
  have E:=SG I;obtain⟨qs,D⟩:=D E;obtain⟨-,rfl⟩:=R9 D;rcases H with⟨-,rfl,rfl⟩|⟨h,-⟩
  · rw[J E];refine⟨?_,rfl⟩;simp[DW,Go.Lib.join_one,Dv,jT,jE,jc]
  omega
 · exact absurd h (by decide)
 · exact absurd h (by decide)
 exact absurd rfl h
theorem kw {out:List UInt8}{s':Scr}(h:Says hs2 EA out s'):out=[54]/\s'=hs2:=by
 obtain⟨c,o,s1,z,E⟩:=h;unfold Ju at z;rw[FV,show Gu EA=(EA,[],false)by decide]at z;rcases z with⟨h,-⟩|⟨-,h⟩
 · cases h
 rcases h with⟨h,-⟩|⟨h,-⟩|⟨h,-⟩|⟨-,rfl,n,⟨p,H,J⟩,K⟩|⟨-,-,-,h,-⟩
 · exact absurd h (by decide)
 · exact absurd h (by decide)
 · exact absurd h (by decide)
 ·
  have D:=SG H;obtain⟨qs,l,I,rfl⟩:=J D;obtain⟨rfl,rfl⟩:=R9 I;rcases E with⟨-,rfl,rfl⟩|⟨h,-⟩
  · rw[K D];exact⟨jA,rfl⟩
  omega
 exact absurd rfl h
theorem jV {out:List UInt8}{s':Scr}(h:Says hs2 Cv out s'):out=AV 4/\s'=hs2:=by
 obtain⟨c,o,s1,z,J⟩:=h;unfold Ju at z;rw[FV,show Gu Cv=(Cv,[],false)by decide]at z;rcases z with⟨h,-⟩|⟨-,h⟩
 · cases h
 rcases h with⟨h,-⟩|⟨h,-⟩|⟨-,rfl,n,⟨O,I,E⟩,U⟩|⟨h,-⟩|⟨-,-,h,-⟩
 · exact absurd h (by decide)
 · exact absurd h (by decide)
 ·
  have D:O=none:=by
   rcases I with⟨-,h⟩|⟨L,H,-⟩
   · exact h
   exact absurd rfl H.1
  subst D;rcases E with⟨-,Q⟩|⟨h,-⟩
  ·
   subst Q;rcases J with⟨h,-⟩|⟨-,N,K⟩
   · cases h
   exact⟨N,K⟩
  cases h
 · exact absurd h (by decide)
 exact absurd rfl h
def Kl:List (List UInt8):=[hl0,hl1,Ms,EA,Cv]
def LP:List (List UInt8):=[AP,AP,[48,58,53,45,49,49],[54],AV 4]
def jU:Nat->Scr
 | 0=>Cr
 | 1=>hs1
 | _=>hs2
theorem R7 (w:World)(xs:List (List UInt8))(t:TypeId):CO (w.alloc (.cells ((xs.map Ad).toArray) t)) (some ⟨w.heap.size,0,none⟩) xs:=by
 refine .inr ⟨w.heap.size,0,rfl,by simp,fun i x h=>?_⟩;rw[qO _ _ _ _ rfl,vC,List.getElem?_toArray,xM,h];rfl
theorem bC (w:World)(I:Nat->Addr)(W:Env w I)(a:oA)(Q:CO w a Kl):Calls Tryz.prog 8 #[.slice a 5 5] w fun e w'=>∃ E,e=.returned (.tuple #[.slice (some ⟨E,0,none⟩) 5 5,.nilIface])/\CO w' (some ⟨E,0,none⟩) LP/\zW w w':=by
 have:=Ns a 5 Kl w I W Q (by decide) (by decide) (fun i o=>LP[i]? = some o) (fun i s=>s=jU i) rfl (fun i x s h O H D=>by
  subst O
  match i,h,D with
  | 0,h,_=>cases h;exact⟨_,_,kz,rfl,rfl⟩
  | 1,h,_=>cases h;exact⟨_,_,jW,rfl,rfl⟩
  | 2,h,D=>
   cases h
   obtain⟨out,s',z⟩:=D;obtain⟨rfl,rfl⟩:=jY z;exact⟨_,_,z,rfl,rfl⟩
  | 3,h,D=>
   cases h
   obtain⟨out,s',z⟩:=D;obtain⟨rfl,rfl⟩:=kw z;exact⟨_,_,z,rfl,rfl⟩
  | 4,h,D=>
   cases h
   obtain⟨out,s',z⟩:=D;obtain⟨rfl,rfl⟩:=jV z;exact⟨_,_,z,rfl,rfl⟩
  | i+5,h,_=>simp [Kl] at h)
 refine this.mono ?_
 rintro e w' ⟨E,J,s',rfl,Y,U,-,Z,V⟩;have K:=IE Z;have N:J=LP:=by
  apply List.ext_getElem?;intro i;rcases qC i 5 with h|h
  · obtain⟨o,H,-⟩:=Ab J i (by rw[K];exact h);rw[H];exact(U i o H).symm
  rw[qH (by rw[K];exact h),qH (by exact h)]
 subst N;exact⟨E,rfl,Y,V⟩
theorem eD (w:World)(E:Nat->Addr)(O:Env w E):Calls Tryz.prog 4 #[] w fun e w'=>e=.returned (.bool true)/\zW w w':=by
 have z:zW w (w.alloc (.cells ((Kl.map Ad).toArray) 9)):=ba;have Q:=qX (bC _ E (O.below z) _ (R7 w Kl 9));have H:=qX z;clear O z;go_in
 go_wp2_with fail;refine Q.o.mono ?_
 rintro e h ⟨N,rfl,K,I⟩;have D:=H.o.tr I;have V:Hid (Calls Tryz.prog 9 #[.slice (some ⟨N,0,none⟩) 5 5,.slice (some ⟨h.heap.size,0,none⟩) 5 5] (h.alloc (.cells ((LP.map Ad).toArray) 9)) fun e w'=>e=.returned (.bool true)/\Below (h.alloc (.cells ((LP.map Ad).toArray) 9)).heap.size (h.alloc (.cells ((LP.map Ad).toArray) 9)) w'):=LY (some ⟨N,0,none⟩) (some ⟨h.heap.size,0,none⟩) 5 5 LP _ (K.below ba) (R7 h LP 9) (by decide);have W:Hid (zW w (h.alloc (.cells ((LP.map Ad).toArray) 9))):=D.alloc D.size _;clear K I D Q H;go_wp2_with fail;refine V.o.mono ?_
 rintro e Y ⟨rfl,J⟩;have U:=qX (W.o.tr J);clear J;go_wp2
 go_ret;exact⟨rfl,U.o⟩
def Kc (w:World)(B:Nat)(v:Value)(xs:List (List UInt8)):Prop:=w.ownsRow B 9 1 v xs.length (xs.map Ad)
theorem Wd (w:World)(B:Nat):Kc w B (.slice none 0 0) []:=qQ _ _ _ _
theorem Kc.value {w:World}{B:Nat}{v:Value}{xs:List (List UInt8)}(E:Kc w B v xs):∃ a cap,v=.slice a xs.length cap/\CO w a xs/\xs.length<=cap:=by
 have h:=E;obtain⟨-,⟨rfl,z⟩|⟨b,cap,O,rfl,Q,D,I,K,U,N⟩⟩:=h
 · exact⟨none,0,by rw[z],.inl (qN.1 z),by omega⟩
 refine⟨_,cap,rfl,.inr ⟨b,0,rfl,?_,fun i x H=>?_⟩,I⟩
 ·
  rcases qC b w.heap.size with h|h
  · exact h
  rw[vX h]at D;cases D
 have J:=Af H;rw[vC,World.ownsRow.cellAt E i (by omega),xM,H];rfl
theorem Kc.below {w w':World}{B:Nat}{v:Value}{xs:List (List UInt8)}(h:Kc w B v xs)(z:zW w w'):Kc w' B v xs:=Ah h fun g _ D=>z.block g D
theorem Kc.but {S:Nat->Prop}{w w':World}{B:Nat}{v:Value}{xs:List (List UInt8)}(h:Kc w B v xs)(z:But S w w')(D:∀ k,v.ownBlock=some k->¬S k):Kc w' B v xs:=C9 h z D
def Lh (w:World)(B:Nat)(v:Value)(xs:List (List UInt8))(x:List UInt8)(g cap:Nat)(w':World):Prop:=
 Kc w' B (.slice (some ⟨g,0,none⟩) (xs.length+1) cap) (xs++[x])/\But (fun k=>v.ownBlock=some k) w w'/\(v.ownBlock=some g\/w.heap.size<=g)/\g<w'.heap.size
theorem UL (w:World)(B:Nat)(v:Value)(xs:List (List UInt8))(x:List UInt8)(O:Kc w B v xs)(K:B<=w.heap.size)(ai:xs.length<=1000)(h:Addr)(c:Nat)(W:w.cell? h=some (Ad x)):∃ g cap w',(Builtin.append_ #[24,24] 24 #[v,.slice (some h) 1 c]).run Tryz.prog w=.ok (.slice (some ⟨g,0,none⟩) (xs.length+1) cap) w'/\Lh w B v xs x g cap w':=by
 obtain⟨J,U,Z,I,ad⟩:=vL Tryz.infoStr;obtain ⟨g,cap,w',H,V,z,D,ac⟩:=run_append_lies (P:=Tryz.prog) w 24 24 B 9 J _ 1 16 Tryz.underlying24 U Z I ad rfl (by decide) v xs.length (xs.map Ad) O h 1 c [Ad x] rfl (fun j u E=>by
  have Y:=Af E;obtain rfl:j=0:=by simpa using Y
  obtain rfl:u=Ad x:=by simpa using E.symm
  have N:h.add 0=h:=by cases h;simp[Addr.add]
  rw [N,W]) (by simp [Value.oneCell']) (by decide) (by unfold maxLen;omega) (by omega) K _ rfl
 refine⟨g,cap,w',H,?_,⟨z.os,z.tape,z.output,z.size,fun k ab Q=>z.block k ab (fun e=>Q e.symm)⟩,?_,ac⟩
 · unfold Kc;rw[qJ,List.map_append];exact V
 rcases D with D|D
 · exact .inl D
 exact .inr (by rw[D];exact lr)
theorem wpList_append_text (w:World){z:Array Oper}{rest:List Oper}{o:Oper}{a:Act}{D:Exit->Act->World->Prop}(K:o.guard=none)(J:o.type=24)(s x:Operand)
  (E:o.op=.call { callee:=.builtin .append,args:=#[s,x],argTypes:=#[24,24] })
  (B:Nat) (v:Value) (xs:List (List UInt8)) (y:List UInt8) (hs:a.eval s=v) (h:Kc w B v xs) (hB:B<=w.heap.size) (hn:xs.length<=1000) (ad:Addr) (c:Nat) (hx:a.eval x=.slice (some ad) 1 c) (hy:w.cell? ad=some (Ad y))
  (hK:∀ g cap w',Lh w B v xs y g cap w'->wpList Tryz.prog z D rest (a.put o.dst (.slice (some ⟨g,0,none⟩) (xs.length+1) cap)) w'):wpList Tryz.prog z D (o::rest) a w:=by
 refine wpList_plain K fun O I=>?_
 obtain⟨g,cap,w',H,N⟩:=UL w B v xs y h hB hn ad c hy;unfold Oper.wp;simp[execOp,E,J,resolve,invoke,builtin,hs,hx,H,Result.andThen]
 exact I _ _ (hK g cap w' N)
end Go.Proofs.YtejlihcdfffafaaGreatDoor
