import Derived.Test.YtejlihcdfffafaaGreatDoorP22
import Derived.Test.YtejlihcdfffafaaGreatDoorP12
set_option maxHeartbeats 4000000
set_option maxRecDepth 100000
namespace Go.Proofs.YtejlihcdfffafaaGreatDoor
open Go.RowKit Go.Extern.Stop Go.Stop Go.Extern
theorem Tryz.errMethE (v:Value) (w:World):(Go.method 438 308 v "Error").run Tryz.prog w=.ok (283,v) w:=by kernel_rfl
theorem Tryz.errMethF (v:Value) (w:World):(Go.method 438 135 v "Error").run Tryz.prog w=.ok (263,v) w:=by kernel_rfl
theorem Le (a:Addr)(s:ByteArray)(w:World)(h:w.cell? a=some (.string s)):Calls Tryz.prog 283 #[.pointer (some a)] w fun e w'=>e=.returned (.string s)/\w'=w:=by
 obtain⟨b,o,z⟩:=a;have D:z=none:=by simpa using World.cell?_spot h
 subst D;go_in
 go_wp2
 go_ret;exact⟨rfl,rfl⟩
theorem XX (h:Nat)(a:Addr)(s:ByteArray)(w:World)(I:w.cell? ⟨h,1,none⟩=some (.iface 308 (.pointer (some a))))(z:w.cell? a=some (.string s)):Calls Tryz.prog 263 #[.pointer (some ⟨h,0,none⟩)] w fun e w'=>e=.returned (.string s)/\w'=w:=by
 have E:=Tryz.errMethE;have D:=qX (Le a s w z);clear z;go_in
 go_wp2_with fail;refine D.o.mono ?_
 rintro e H ⟨rfl,rfl⟩;go_wp2
 go_ret;exact⟨rfl,rfl⟩
def known (c:Int):Prop:=(1<=c/\c<=5)\/c=9
theorem Yg {w:World}{D:Value}{c p:Int}(h:Ba w D c p)(H:known c):(∃ a,D=.iface 308 (.pointer (some a))/\w.cell? a=some (Ad (AV c))) \/
  (∃ z a,D=.iface 135 (.pointer (some ⟨z,0,none⟩))/\w.cell? ⟨z,1,none⟩=some (.iface 308 (.pointer (some a)))/\w.cell? a=some (Ad (AV c))):=by
 have N:c≠0:=by rcases H with h|h <;> omega
 rcases h.code with⟨-,I,-⟩|⟨V,O,k,W,U,J⟩
 · exact absurd I N
 subst U;obtain⟨s,E,K⟩:=O.txt k (by unfold six;rcases H with h|h <;> omega);have e:Value.string s=Ad (AV ((k:Int)+1)):=by
  show _=Value.string ⟨_⟩
  rw[<- K]
 rw[e]at E;rcases J with⟨rfl,-⟩|⟨z,rfl,-,Q⟩
 · exact .inl ⟨_,rfl,E⟩
 exact .inr ⟨z,_,rfl,Q,E⟩
theorem Hq (w:World):Calls Tryz.prog 54 #[.nilIface] w fun e w'=>e=.returned (.tuple #[Ad AP,.nilIface])/\w'=w:=by
 go_in
 go_wp2
 go_ret2;exact⟨rfl,rfl⟩
theorem Je (h:TypeId)(v:Value)(w:World):Calls Tryz.prog 54 #[.iface h v] w fun e w'=>e=.returned (.tuple #[Ad [],.iface h v])/\w'=w:=by
 go_in
 go_wp2
 go_ret2;exact⟨rfl,rfl⟩
theorem Jo (n:Int)(w:World)(z:Q3 w)(D : -9223372036854775808<=n)(I:n<=9223372036854775807):Calls Tryz.prog 57 #[.int .i64 n,.nilIface] w fun e w'=>e=.returned (.tuple #[Ad (Go.Lib.itoa n),.nilIface])/\zW w w':=by
 have E:Hid (qW 76 #[.int .i64 n] w (.string ⟨(Go.Lib.itoa n).toArray⟩)):=z w br n D I;clear z;go_in
 go_wp2_with fail;refine E.o.mono ?_
 rintro e J ⟨rfl,h⟩;have H:=qX h;clear h;go_wp2
 go_ret2;exact⟨rfl,H.o⟩
theorem Jl (n:Int)(h:TypeId)(v:Value)(w:World):Calls Tryz.prog 57 #[.int .i64 n,.iface h v] w fun e w'=>e=.returned (.tuple #[Ad [],.iface h v])/\w'=w:=by
 go_in
 go_wp2
 go_ret2;exact⟨rfl,rfl⟩
theorem Yb (ps:List Pk)(out:List Sn)(f:Nat)(D:Int)(n:Nat):Eg ps out f D (n+1)=Eg ps out f D n++if Ag ps n=f/\Ay out n=false/\Ar ps n<=D then [n]else []:=by
 unfold Eg;rw[List.range_succ,zA]
 congr 1
 by_cases h:Ag ps n=f/\Ay out n=false/\Ar ps n<=D
 · rw[if_pos h];simp[h.1,h.2.1,h.2.2]
 rw[if_neg h];simp only[yF,List.filter_nil];rw[if_neg];intro z;rw[Bool.and_eq_true,Bool.and_eq_true,yZ,Bool.not_eq_true',decide_eq_true_eq]at z;exact h ⟨z.1.1,z.1.2,z.2⟩
theorem fw (ps:List Pk)(out:List Sn)(f:Nat)(h:Int)(n:Nat):(Eg ps out f h n).length<=n:=by
 have:=List.length_filter_le (fun i=>Ag ps i==f&&!Ay out i&&decide (Ar ps i<=h)) (List.range n);rwa[List.length_range]at this
def JR (w:World)(B:Nat)(v:Value)(xs:List Nat):Prop:=w.ownsRow B 3 1 v xs.length (ints (Ai xs))
theorem V5 (ao:oA)(bd:Nat)(ps:List Pk)(a1:Nat)(out:List Sn)(f:Nat)(h:Int)(w:World)(aS:Aw w ao ps)(U:Al ps)(ac:ES w a1 ps.length out):Calls Tryz.prog 68 #[.slice ao ps.length bd,.slice (some ⟨a1,0,none⟩) ps.length ps.length,.int .i64 f,.int .i64 h] w fun e w'=>∃ v,e=.returned v/\JR w' w.heap.size v (Eg ps out f h ps.length)/\zW w w':=by
 obtain⟨a5,a7,bb,a4,bk⟩:=vL Tryz.infoInt;have aB:=qY aS U;have av:=qX ac;have bl:=U.few;clear aS U ac;obtain⟨n,Z⟩:=ex ps.length;have a0:=qX Z;rw[Z]at bl av ⊢;clear Z;go_in
 go_wp2_with fail;go_loopg [9,10] n (fun bh v a6 wr=>∃ k:Nat,bh=n-k/\k<=n/\a6=.int .i64 k/\JR wr w.heap.size v (Eg ps out f h k)/\zW w wr)
 case atStart=>exact⟨0,rfl,qR _,rfl,qQ _ _ _ _,br⟩
 case round=>
  obtain⟨k,rfl,bt,rfl,ad,ab⟩:=hrel;have H:=qY ad ab;have be:=fw ps out f h k;obtain⟨q,J⟩:=ex (Eg ps out f h k);rw[J]at be;have bp:=qX J;have z:Hid (JR wr w.heap.size u9 q/\zW w wr):=by rw[<- J];exact H.o
  clear ad ab J;by_cases an:k<n
  ·
   obtain⟨p,hpk,-⟩:=Ab ps k (by rw[a0.o];exact an);obtain⟨fl,bq,ap,aq⟩:=LH aB.o.2 hpk;obtain⟨al,aN,rfl,-,W⟩:=aB.o.1.place (by rw[a0.o];omega);obtain⟨Y,Q⟩:=ex p.tick;have bv:wr.cell? ⟨al,aN+k*3,none⟩=some (.int .i64 fl):=by rw[<- ap];exact j7 H.o.2 (W k _ hpk).1
   have bs:wr.cell? ⟨al,aN+k*3+2,none⟩=some (.int .i64 Y):=by rw[<- Q];exact j7 H.o.2 (W k _ hpk).2.2
   have d1:=j7 H.o.2 (av.o.cell k an);obtain⟨ai,N⟩:=ex (Ay out k);rw[N]at d1;have D:Hid (Eg ps out f h (k+1)=q++if fl=f/\ai=false/\Y<=h then [k]else []):=by
    show _=_
    rw[Yb,bp.o,aq,N,Av hpk,Q]
   clear W hpk ap aq Q N;by_cases V:fl=f
   ·
    have bg:((fl:Int)==(f:Int))=true:=by simp;omega
    cases ai with
    | true=>
     have E:Hid (Eg ps out f h (k+1)=q):=by
      show _=_
      rw[D.o,if_neg (fun I=>by cases I.2.1),x6]
     clear D;go_wp2
     go_roundg (n-(k+1))
     case measure=>omega
     case rel=>exact⟨k+1,rfl,by omega,by go_num,by rw[E.o];exact z.o.1,z.o.2⟩
    | false=>
     by_cases aj:Y<=h
     ·
      have E:Hid (Eg ps out f h (k+1)=q++[k]):=by
       show _=_
       rw[D.o,if_pos ⟨V,rfl,aj⟩]
      have K:zW wr (wr.alloc (.cells #[.int .i64 k] 3)):=ba;have a2:=qX (Ah z.o.1 (fun g' _ bm=>K.block g' bm));have a8:Hid (∀ j u,(ints [(k:Int)])[j]? = some u->(wr.alloc (.cells #[.int .i64 k] 3)).cell? (Addr.add ⟨wr.heap.size,0,none⟩ j)=some u):=World.news_of_block (cs:=#[.int .i64 k]) (t:=3) (vZ wr _);have O:Hid (w.heap.size<=(wr.alloc (.cells #[.int .i64 k] 3)).heap.size/\zW w (wr.alloc (.cells #[.int .i64 k] 3))):=⟨qI z.o.2.size K.size,z.o.2.tr K⟩
      clear D V K;go_wp2_with (at_builtin;go_must (refine wpList_append_lies _ rfl _ _ 27 rfl w.heap.size 3 a5 (.int .i64 0) 1 8 Tryz.underlying27 a7 bb a4 bk rfl (by decide) u9 q.length (ints (Ai q)) rfl a2.o ⟨wr.heap.size,0,none⟩ 1 1 (ints [(k:Int)]) rfl rfl a8.o (D7 _) (by decide) (by unfold maxLen;omega) (by omega) O.o.1 _ rfl ?_;intro a3 bc aE am ar a9 bj;have aw:Hid (JR aE w.heap.size (.slice (some ⟨a3,0,none⟩) (q.length+1) bc) (q++[k])/\zW w aE):=⟨(by unfold JR;rw[qJ,DU];exact am),O.o.2.grown ar O.o.2.size (fun j a'=>(Aq a2.o a').1)⟩;clear am ar a9 bj))
      go_roundg (n-(k+1))
      case measure=>omega
      case rel=>exact⟨k+1,rfl,by omega,by go_num,by rw[E.o];exact aw.o.1,aw.o.2⟩
     have E:Hid (Eg ps out f h (k+1)=q):=by
      show _=_
      rw[D.o,if_neg (fun I=>aj I.2.2),x6]
     clear D;go_wp2
     go_roundg (n-(k+1))
     case measure=>omega
     case rel=>exact⟨k+1,rfl,by omega,by go_num,by rw[E.o];exact z.o.1,z.o.2⟩
   have bg:((fl:Int)==(f:Int))=false:=by simp;omega
   have E:Hid (Eg ps out f h (k+1)=q):=by
    show _=_
    rw[D.o,if_neg (fun I=>V I.1),x6]
   clear D;go_wp2
   go_roundg (n-(k+1))
   case measure=>omega
   case rel=>exact⟨k+1,rfl,by omega,by go_num,by rw[E.o];exact z.o.1,z.o.2⟩
  obtain rfl:k=n:=by omega
  go_wp2
  go_ret;exact⟨u9,rfl,H.o.1,H.o.2⟩
def FE:Option Nat->Int
 | some f=>f
 | none=>-1
structure BU (w:World)(g:Nat)(pv qv:Value)(vq:Nat->Value)(cr:Nat->Int)(rv:Value)(sv:Int)(n:Nat):Prop where
 c0:w.cell? ⟨g,0,none⟩=some pv
 c1:w.cell? ⟨g,1,none⟩=some qv
 cq:∀ f,f<8->w.cell? ⟨g,2+f,none⟩=some (vq f)
 cc:∀ f,f<8->w.cell? ⟨g,10+f,none⟩=some (.int .i64 (cr f))
 cr_:w.cell? ⟨g,18,none⟩=some rv
 cs:w.cell? ⟨g,19,none⟩=some (.int .i64 sv)
 cn:w.cell? ⟨g,20,none⟩=some (.int .i64 n)
 free:∀ i,w.frozen? ⟨g,i,none⟩=false
section
variable {w w':World} {g:Nat} {pv qv:Value} {vq:Nat → Value} {cr:Nat → Int} {rv:Value} {sv:Int} {n:Nat}
theorem BU.lt (h:BU w g pv qv vq cr rv sv n):g<w.heap.size:=Cg h.c0
theorem BU.but {S:Nat->Prop}(h:BU w g pv qv vq cr rv sv n)(D:But S w w')(E:¬S g):BU w' g pv qv vq cr rv sv n:=by
 have e:∀ i,w'.cell? ⟨g,i,none⟩=w.cell? ⟨g,i,none⟩:=fun i=>D.cell (p:=⟨g,i,none⟩) h.lt E
 exact⟨by rw[e];exact h.c0,by rw[e];exact h.c1,fun f z=>by rw[e];exact h.cq f z,fun f z=>by rw[e];exact h.cc f z,by rw[e];exact h.cr_,by rw[e];exact h.cs,by rw[e];exact h.cn,fun i=>by rw[D.frozen (p:=⟨g,i,none⟩) h.lt E];exact h.free i⟩
theorem far (w:World)(g i j:Nat)(v:Value)(h:i≠j):(w.setCell ⟨g,i,none⟩ v).cell? ⟨g,j,none⟩=w.cell? ⟨g,j,none⟩:=
 j9 _ _ _ _ (fun e=>h (by injection e))
theorem BU.setQ (h:BU w g pv qv vq cr rv sv n){f:Nat}(D:f<8)(v:Value):BU (w.setCell ⟨g,2+f,none⟩ v) g pv qv (AB vq f v) cr rv sv n:=by
 refine⟨by rw[far _ _ _ _ _ (by omega)];exact h.c0,by rw[far _ _ _ _ _ (by omega)];exact h.c1,fun j z=>?_,fun j z=>by rw[far _ _ _ _ _ (by omega)];exact h.cc j z,by rw[far _ _ _ _ _ (by omega)];exact h.cr_,by rw[far _ _ _ _ _ (by omega)];exact h.cs,by rw[far _ _ _ _ _ (by omega)];exact h.cn,fun i=>by rw[qK];exact h.free i⟩;by_cases e:j=f
 · subst e;rw[AJ];exact vD _ _ _ (h.cq j z)
 rw[Au _ _ e,far _ _ _ _ _ (by omega)];exact h.cq j z
theorem BU.setC (h:BU w g pv qv vq cr rv sv n){f:Nat}(D:f<8)(x:Int):BU (w.setCell ⟨g,10+f,none⟩ (.int .i64 x)) g pv qv vq (AB cr f x) rv sv n:=by
 refine⟨by rw[far _ _ _ _ _ (by omega)];exact h.c0,by rw[far _ _ _ _ _ (by omega)];exact h.c1,fun j z=>by rw[far _ _ _ _ _ (by omega)];exact h.cq j z,fun j z=>?_,by rw[far _ _ _ _ _ (by omega)];exact h.cr_,by rw[far _ _ _ _ _ (by omega)];exact h.cs,by rw[far _ _ _ _ _ (by omega)];exact h.cn,fun i=>by rw[qK];exact h.free i⟩;by_cases e:j=f
 · subst e;rw[AJ];exact vD _ _ _ (h.cc j z)
 rw[Au _ _ e,far _ _ _ _ _ (by omega)];exact h.cc j z
theorem BU.setR (h:BU w g pv qv vq cr rv sv n)(v:Value):BU (w.setCell ⟨g,18,none⟩ v) g pv qv vq cr v sv n:=
 ⟨by rw[far _ _ _ _ _ (by omega)];exact h.c0,by rw[far _ _ _ _ _ (by omega)];exact h.c1,fun j z=>by rw[far _ _ _ _ _ (by omega)];exact h.cq j z,fun j z=>by rw[far _ _ _ _ _ (by omega)];exact h.cc j z,vD _ _ _ h.cr_,by rw[far _ _ _ _ _ (by omega)];exact h.cs,by rw[far _ _ _ _ _ (by omega)];exact h.cn,fun i=>by rw[qK];exact h.free i⟩
theorem BU.setS (h:BU w g pv qv vq cr rv sv n)(x:Int):BU (w.setCell ⟨g,19,none⟩ (.int .i64 x)) g pv qv vq cr rv x n:=
 ⟨by rw[far _ _ _ _ _ (by omega)];exact h.c0,by rw[far _ _ _ _ _ (by omega)];exact h.c1,fun j z=>by rw[far _ _ _ _ _ (by omega)];exact h.cq j z,fun j z=>by rw[far _ _ _ _ _ (by omega)];exact h.cc j z,by rw[far _ _ _ _ _ (by omega)];exact h.cr_,vD _ _ _ h.cs,by rw[far _ _ _ _ _ (by omega)];exact h.cn,fun i=>by rw[qK];exact h.free i⟩
theorem BU.setN (h:BU w g pv qv vq cr rv sv n)(x:Nat):BU (w.setCell ⟨g,20,none⟩ (.int .i64 x)) g pv qv vq cr rv sv x:=
 ⟨by rw[far _ _ _ _ _ (by omega)];exact h.c0,by rw[far _ _ _ _ _ (by omega)];exact h.c1,fun j z=>by rw[far _ _ _ _ _ (by omega)];exact h.cq j z,fun j z=>by rw[far _ _ _ _ _ (by omega)];exact h.cc j z,by rw[far _ _ _ _ _ (by omega)];exact h.cr_,by rw[far _ _ _ _ _ (by omega)];exact h.cs,vD _ _ _ h.cn,fun i=>by rw[qK];exact h.free i⟩
end
def AZ (g:Nat)(F:Nat->Nat->Prop)(h:Value)(k:Nat):Prop:=k=g\/(∃ f,f<8/\F f k)\/h.ownBlock=some k
structure AC (B g:Nat)(pv qv:Value)(w:World)(vq:Nat->Value)(F:Nat->Nat->Prop)(rv:Value)(d:Drr)(n:Nat):Prop where
 cells:BU w g pv qv vq d.cr rv (FE d.srv) n
 queue:∀ f,f<8->Bl w B (vq f) (F f) (d.qs f)
 row:w.ownsRow B 3 1 rv d.row.length (ints (Ai d.row))
 apart:∀ f,f<8->¬F f g/\(∀ k,F f k->rv.ownBlock≠some k)/\∀ f' k,f'<8->F f k->F f' k->f=f'
 rowg:rv.ownBlock≠some g
 le:B<=g
section
variable {B g:Nat} {pv qv:Value} {w w':World} {vq:Nat → Value} {F:Nat → Nat → Prop} {rv:Value} {d:Drr} {n:Nat}
theorem AC.foot (h:AC B g pv qv w vq F rv d n):∀ k,AZ g F rv k->B<=k/\k<w.heap.size:=by
 rintro k (rfl|⟨f,D,z⟩|z)
 · exact⟨h.le,h.cells.lt⟩
 · exact(h.queue f D).foot k z
 exact Aq h.row z
theorem AC.but {S:Nat->Prop}(h:AC B g pv qv w vq F rv d n)(D:But S w w')(E:∀ k,AZ g F rv k->¬S k):AC B g pv qv w' vq F rv d n:=
 ⟨h.cells.but D (E g (.inl rfl)),fun f H=>(h.queue f H).but D (fun k z=>E k (.inr (.inl ⟨f,H,z⟩))),Ah h.row (fun k I z=>D.block k z (E k (.inr (.inr I)))),h.apart,h.rowg,h.le⟩
theorem AC.later (h:AC B g pv qv w vq F rv d n)(z:zW w w'):AC B g pv qv w' vq F rv d n:=h.but (S:=fun _=>False) (.ofBelow z) (fun _ _ h=>h)
theorem F4 (w:World)(g i:Nat)(v:Value):But (fun k=>k=g) w (w.setCell ⟨g,i,none⟩ v):=But.setCell (S:=fun k=>k=g) (But.refl _ w) (p:=⟨g,i,none⟩) rfl v
theorem AC.apartG (h:AC B g pv qv w vq F rv d n)(i:Nat)(v:Value):(∀ f,f<8->Bl (w.setCell ⟨g,i,none⟩ v) B (vq f) (F f) (d.qs f))/\(w.setCell ⟨g,i,none⟩ v).ownsRow B 3 1 rv d.row.length (ints (Ai d.row)):=
 ⟨fun f D=>(h.queue f D).but (F4 w g i v) (fun k z e=>(h.apart f D).1 (by rw[<- e];exact z)),Ah h.row (fun k E z=>(F4 w g i v).block k z (fun e=>h.rowg (by rw[<- e];exact E)))⟩
theorem AC.setC (h:AC B g pv qv w vq F rv d n){f:Nat}(z:f<8)(x:Int):AC B g pv qv (w.setCell ⟨g,10+f,none⟩ (.int .i64 x)) vq F rv { d with cr:=AB d.cr f x } n:=
 ⟨h.cells.setC z x,(h.apartG _ _).1,(h.apartG _ _).2,h.apart,h.rowg,h.le⟩
theorem AC.setS (h:AC B g pv qv w vq F rv d n){x:Int}(s:Option Nat)(z:FE s=x):AC B g pv qv (w.setCell ⟨g,19,none⟩ (.int .i64 x)) vq F rv { d with srv:=s } n:=
 ⟨by rw[<- z];exact h.cells.setS _,(h.apartG _ _).1,(h.apartG _ _).2,h.apart,h.rowg,h.le⟩
theorem AC.setN (h:AC B g pv qv w vq F rv d n){x:Int}(m:Nat)(z:(m:Int)=x):AC B g pv qv (w.setCell ⟨g,20,none⟩ (.int .i64 x)) vq F rv d m:=
 ⟨by rw[<- z];exact h.cells.setN m,(h.apartG _ _).1,(h.apartG _ _).2,h.apart,h.rowg,h.le⟩
theorem AC.setR (h:AC B g pv qv w vq F rv d n){H:World}{E:Value}{r':List Nat}(K:But (fun k=>rv.ownBlock=some k) w H)(Q:H.ownsRow B 3 1 E r'.length (ints (Ai r')))(J:∀ k,E.ownBlock=some k->rv.ownBlock=some k\/w.heap.size<=k):AC B g pv qv (H.setCell ⟨g,18,none⟩ E) vq F E { d with row:=r' } n:=by
 have N:E.ownBlock≠some g:=fun e=>by
  rcases J g e with I|I
  · exact h.rowg I
  have:=h.cells.lt;omega
 refine⟨(h.cells.but K (fun e=>h.rowg e)).setR E,fun f D=>?_,?_,fun f D=>⟨(h.apart f D).1,fun k z e=>?_,(h.apart f D).2.2⟩,N,h.le⟩
 · exact((h.queue f D).but K (fun k z e=>(h.apart f D).2.1 k z e)).but (F4 H g 18 E) (fun k z e=>(h.apart f D).1 (by rw[<- e];exact z))
 · exact Ah Q (fun k O z=>(F4 H g 18 E).block k z (fun e=>N (by rw[<- e];exact O)))
 rcases J k e with I|I
 · exact(h.apart f D).2.1 k z I
 have:=((h.queue f D).foot k z).2;omega
theorem AC.setQ (z:AC B g pv qv w vq F rv d n){f:Nat}(J:f<8){O:World}{K:Value}{H:Nat->Prop}{q':List Nat}(Z:But (F f) w O)(am:Bl O B K H q')(V:∀ k,H k->F f k\/w.heap.size<=k):AC B g pv qv (O.setCell ⟨g,2+f,none⟩ K) (AB vq f K) (AB F f H) rv { d with qs:=AB d.qs f q' } n:=by
 have aj:¬H g:=fun e=>by
  rcases V g e with I|I
  · exact(z.apart f J).1 I
  have:=z.cells.lt;omega
 have W:=F4 O g (2+f) K;refine⟨(z.cells.but Z (z.apart f J).1).setQ J K,fun j D=>?_,?_,fun j D=>?_,z.rowg,z.le⟩
 ·
  by_cases e:j=f
  ·
   subst e;show Bl _ B (AB vq j K j) (AB F j H j) (AB d.qs j q' j)
   rw[AJ,AJ,AJ];exact am.but W (fun k h e=>aj (by rw[<- e];exact h))
  show Bl _ B (AB vq f K j) (AB F f H j) (AB d.qs f q' j)
  rw[Au _ _ e,Au _ _ e,Au _ _ e];exact((z.queue j D).but Z (fun k h E=>e ((z.apart j D).2.2 f k J h E))).but W (fun k h al=>(z.apart j D).1 (by rw[<- al];exact h))
 · refine Ah (Ah z.row (fun k Y h=>Z.block k h (fun an=>(z.apart f J).2.1 k an Y))) (fun k Y h=>W.block k h (fun e=>z.rowg (by rw[<- e];exact Y)))
 have key:∀ i,i<8->∀ k,AB F f H i k->(i=f/\H k)\/(i≠f/\F i k):=fun i _ k h=>by
  by_cases e:i=f
  · subst e;rw[AJ]at h;exact .inl ⟨rfl,h⟩
  rw[Au _ _ e]at h;exact .inr ⟨e,h⟩
 have ac:∀ k,H k->∀ i,i<8->i≠f->F i k->False:=fun k h i ad ao ai=>by
  rcases V k h with I|I
  · exact ao ((z.apart i ad).2.2 f k J ai I)
  have:=((z.queue i ad).foot k ai).2;omega
 refine⟨fun h=>?_,fun k h e=>?_,fun U k Q h E=>?_⟩
 ·
  rcases key j D g h with⟨-,h⟩|⟨-,h⟩
  · exact aj h
  exact(z.apart j D).1 h
 ·
  rcases key j D k h with⟨-,h⟩|⟨-,h⟩
  ·
   rcases V k h with I|I
   · exact(z.apart f J).2.1 k I e
   have:=(Aq z.row e).2;omega
  exact(z.apart j D).2.1 k h e
 rcases key j D k h with⟨ab,h⟩|⟨ab,h⟩
 ·
  rcases key U Q k E with⟨N,E⟩|⟨N,E⟩
  · rw[ab,N]
  exact(ac k h U Q N E).elim
 rcases key U Q k E with⟨N,E⟩|⟨N,E⟩
 · exact(ac k E j D ab h).elim
 exact(z.apart j D).2.2 U k Q h E
end
structure Cf (B:Nat)(W0:World)(g:Nat)(pv qv:Value)(w:World)(D:Nat->Prop)(q:TQ):Prop where
 env:Below B W0 w
 parts:∃ vq F rv,AC B g pv qv w vq F rv q.d q.n/\∀ k,D k↔AZ g F rv k
section
variable {B:Nat} {W0:World} {g:Nat} {pv qv:Value} {w w':World} {D:Nat → Prop} {q:TQ}
theorem Cf.foot (H:Cf B W0 g pv qv w D q):∀ k,D k->B<=k/\k<w.heap.size:=by
 obtain⟨J,F,I,E,z⟩:=H.parts;exact fun k h=>E.foot k ((z k).1 h)
theorem Cf.le (z:Cf B W0 g pv qv w D q):B<=w.heap.size:=by
 obtain⟨I,F,H,h,E⟩:=z.parts;have:=h.cells.lt;have:=h.le;omega
theorem Cf.but {S:Nat->Prop}(h:Cf B W0 g pv qv w D q)(z:But S w w')(O:∀ k,D k->¬S k)(J:∀ k,S k->B<=k):Cf B W0 g pv qv w' D q:=by
 obtain⟨N,F,I,K,E⟩:=h.parts;exact⟨h.env.trans (z.below h.le J),N,F,I,K.but z (fun k H=>O k ((E k).2 H)),E⟩
theorem Cf.later (h:Cf B W0 g pv qv w D q)(z:zW w w'):Cf B W0 g pv qv w' D q:=h.but (S:=fun _=>False) (.ofBelow z) (fun _ _ h=>h) (fun _ h=>h.elim)
theorem Cf.alloc (h:Cf B W0 g pv qv w D q)(o:Obj):Cf B W0 g pv qv (w.alloc o) D q:=h.later ba
theorem fQ (B:Nat)(H:World)(g:Nat)(E I:Value):IK (Cf B H g E I) B:=⟨fun _ _ _ h=>h.foot,fun _ _ _ _ _ h z J D=>h.but z J D⟩
theorem Cf.same (z:Cf B W0 g pv qv w D q)(h:zW w w'):AX (Cf B W0 g pv qv) w w' D q:=⟨D,z.later h,.ofBelow h,fun _ E=>.inl E⟩
theorem Cf.leaves {J:Nat->Value}{F h:Nat->Nat->Prop}{K z:Value}{q':TQ}(I:Cf B W0 g pv qv w D q)(O:∀ k,D k↔AZ g F K k)(N:But D w w')(U:AC B g pv qv w' J h z q'.d q'.n)(Q:∀ k,AZ g h z k->AZ g F K k\/w.heap.size<=k):AX (Cf B W0 g pv qv) w w' D q':=
 ⟨AZ g h z,⟨I.env.trans (N.below I.le fun k E=>(I.foot k E).1),J,h,z,U,fun _=>Iff.rfl⟩,N,fun k E=>by
  rcases Q k E with H|H
  · exact .inl ((O k).2 H)
  exact .inr H⟩
end
theorem Jz {w:World}{B:Nat}{v:Value}{zs:List Int}(H:w.ownsRow B 3 1 v zs.length (ints zs)):∃ E cap,v=.slice E zs.length cap/\zs.length<=cap/\cap<=maxLen:=by
 obtain⟨N,⟨rfl,D⟩|⟨g,cap,O,rfl,K,J,h,z,I,Q⟩⟩:=H
 · exact⟨none,0,by rw[D],by omega,by simp[maxLen]⟩
 exact⟨_,cap,rfl,h,z⟩
theorem JH {w:World}{B:Nat}{v:Value}{zs:List Int}(D:w.ownsRow B 3 1 v zs.length (ints zs))(N:0<zs.length):∃ g cap,v=.slice (some ⟨g,0,none⟩) zs.length cap/\zs.length<=cap/\cap<=maxLen/\∀(i:Nat) x,zs[i]? = some x->w.cell? ⟨g,i,none⟩=some (.int .i64 x):=by
 have I:=D;obtain⟨U,⟨rfl,V⟩|⟨g,cap,W,rfl,Q,O,E,H,K,J⟩⟩:=D
 · omega
 refine⟨g,cap,rfl,E,H,fun i x z=>?_⟩;have Y:i<zs.length:=by
  rcases qC i zs.length with h|h
  · exact h
  simp[qH h]at z
 rw[I.cellAt i (by omega)];exact Hu z
def GJ (B:Nat)(w:World)(r cap:Nat)(q:List Nat)(i:Nat)(e:Ending)(w':World):Prop:=
 e=.returned (.tuple #[.int .i64 (q.getD i 0:Nat),.slice (some ⟨r,0,none⟩) (q.length-1) cap])/\w'.ownsRow B 3 1 (.slice (some ⟨r,0,none⟩) (q.length-1) cap) (q.length-1) (ints (Ai (q.eraseIdx i)))/\But (fun j=>j=r) w w'
theorem WO (B:Nat)(f:Nat)(N Q:Value)(key:Nat->Int)(n r cap:Nat)(q:List Nat)(w:World)(bb:q.length<=1000)(W:0<q.length)(ao:∀ k,k∈q->k<n)
  (Z:w.ownsRow B 3 1 (.slice (some ⟨r,0,none⟩) q.length cap) q.length (ints (Ai q))) (av:q.length<=cap) (ac:cap<=maxLen)
  (bg:∀ args al,Sem.run Tryz.prog (callFunc f args) al=.ok (.enter f args) al)
  (aB:∀ m k,k<n->Calls Tryz.prog f #[.int .i64 ((k:Nat):Int),N,Q] (w.drewN m) fun e w'=>e=.returned (.int .i64 (key k))/\∃ J,w'=(w.drewN m).drewN J) :
  Calls Tryz.prog 196 #[.slice (some ⟨r,0,none⟩) q.length cap,.func (.func f) #[] #[N,Q]] w fun e w'=>GJ B w r cap q (BA key q) e w':=by
 have ai:=qX aB;have ap:=(fun(i:Nat) x (hx:(Ai q)[i]? = some x)=>(Z.cellAt i (by have:=Af hx;rw[Am]at this;omega)).trans (Hu hx):∀(i:Nat) x,(Ai q)[i]? = some x->w.cell? ⟨r,i,none⟩=some (.int .i64 x))
 have ab:Hid (w.ownsRow B 3 1 (.slice (some ⟨r,0,none⟩) (Ai q).length cap) (Ai q).length (ints (Ai q))/\cap<=maxLen/\(Ai q).length<=cap):=by rw[Am];exact⟨Z,ac,av⟩
 have O:Hid (∀ i,i<q.length->∃ k,q[i]? = some k/\q.getD i 0=k/\k<n/\w.cell? ⟨r,i,none⟩=some (.int .i64 ((k:Nat):Int))):=fun i a5=>by
  obtain⟨k,K,a3⟩:=Ab q i a5;exact⟨k,K,by simp[List.getD,K],ao k a3,ap i _ (Ky K)⟩
 unfold maxLen at ac;clear Z ao aB ap;obtain⟨l,V⟩:=ex q.length;have z:=qX V;rw[V]at bb W av O ⊢;clear V;go_in
 go_wp2_with fail;go_loopw [6,11] (fun bd i wr=>∃ k:Nat,k<=l/\i=.int .i64 k/\bd=.int .i64 (AY key q k)/\∃ m,wr=w.drewN m) (fun _ i _=>l-(intOf i).toNat)
 case atStart=>exact⟨0,qR _,rfl,rfl,0,rfl⟩
 case round=>
  obtain⟨k,K,rfl,rfl,m,h⟩:=hrel;have a1:=qX h;by_cases a9:k<l
  ·
   have E:AY key q k<l:=by rw[<- z.o];exact Fe key (by rw[z.o];exact W) (by rw[z.o];exact K)
   obtain⟨fl,D⟩:=ex (AY key q k);obtain⟨a,a8,ar,a7,a0⟩:=O.o k a9;rw[D]at E ⊢;obtain⟨b,U,I,aq,H⟩:=O.o fl E;have am:Hid (AY key q (k+1)=if key a<key b then k else fl):=by
    show AY key q (k+1)=_
    simp only[AY,ar,D,I]
   have bh:wr.cell? ⟨r,k,none⟩=some (.int .i64 a):=by rw[h];exact a0
   have bc:wr.cell? ⟨r,fl,none⟩=some (.int .i64 b):=by rw[h];exact H
   have aS:Hid (∀ j,Calls Tryz.prog f #[.int .i64 ((a:Nat):Int),N,Q] (wr.drewN j) fun e w'=>e=.returned (.int .i64 (key a))/\∃ J,w'=(wr.drewN j).drewN J):=fun j=>by
    have:=ai.o (m+j) a a7;rw[h,xU];exact this
   have aw:Hid (∀ j,Calls Tryz.prog f #[.int .i64 ((b:Nat):Int),N,Q] (wr.drewN j) fun e w'=>e=.returned (.int .i64 (key b))/\∃ J,w'=(wr.drewN j).drewN J):=fun j=>by
    have:=ai.o (m+j) b aq;rw[h,xU];exact this
   clear D a8 ar U I a0 H h;by_cases a2:key a<key b
   ·
    have Y:=qX (am.o.trans (if_pos a2));go_wp2
    go_quiet (first
     | exact Calls.quiet_of (aS.o _)
     | exact Calls.quiet_of (aw.o _))
    go_wp2
    go_roundw
    case rel=>exact⟨k+1,by omega,by go_num,by rw[Y.o],m+nq,by rw[a1.o,xU]⟩
    case measure=>simp[intOf];omega
   have Y:=qX (am.o.trans (if_neg a2));go_wp2
   go_quiet (first
    | exact Calls.quiet_of (aS.o _)
    | exact Calls.quiet_of (aw.o _))
   go_wp2
   go_roundw
   case rel=>exact⟨k+1,by omega,by go_num,by rw[Y.o],m+nq,by rw[a1.o,xU]⟩
   case measure=>simp[intOf];omega
  obtain rfl:k=l:=by omega
  have E:AY key q k<k:=by rw[<- z.o];exact Fe key (by rw[z.o];exact W) lr
  obtain⟨fl,D⟩:=ex (AY key q k);rw[D]at E ⊢;obtain⟨b,U,I,aq,H⟩:=O.o fl E;have bc:wr.cell? ⟨r,fl,none⟩=some (.int .i64 b):=by rw[h];exact H
  have aE:Hid (BA key q=fl/\q.getD fl 0=b):=⟨by unfold BA;rw[z.o];exact D,I⟩
  have a6:Hid (But (fun j=>j=r) w wr):=by
   show But _ _ _
   rw[h];exact .ofBelow (qL br _)
  have a':Hid (Calls Tryz.prog 217 #[.slice (some ⟨r,0,none⟩) k cap,.int .i64 fl,.int .i64 ((fl:Int)+1)] wr fun e w'=>e=.returned (.slice (some ⟨r,0,none⟩) (k-1) cap)/\w'.ownsRow B 3 1 (.slice (some ⟨r,0,none⟩) (k-1) cap) (k-1) (ints (Ai (q.eraseIdx fl)))/\But (fun j=>j=r) wr w'):=by
   have a4:wr.ownsRow B 3 1 (.slice (some ⟨r,0,none⟩) (Ai q).length cap) (Ai q).length (ints (Ai q)):=by rw[h];exact ab.o.1
   have ad:=Ml B r cap fl (Ai q) wr a4 (by rw[Am,z.o];exact E) ab.o.2.2 ab.o.2.1;rw[Am,z.o,Nk]at ad;exact ad
  clear D U I H h;go_wp2_with fail;refine a'.o.mono ?_
  rintro e be ⟨rfl,an,aj⟩;have aN:=qY an aj;clear an aj;go_wp2
  go_ret2;rw[aE.o.1];unfold GJ;rw[z.o,aE.o.2];exact⟨rfl,aN.o.1,a6.o.trans aN.o.2⟩
theorem WI (B:Nat)(f:Nat)(N:Value)(key:Nat->Int)(n r cap:Nat)(q:List Nat)(w:World)(a':q.length<=1000)(V:0<q.length)(an:∀ k,k∈q->k<n)
  (Y:w.ownsRow B 3 1 (.slice (some ⟨r,0,none⟩) q.length cap) q.length (ints (Ai q))) (ar:q.length<=cap) (ab:cap<=maxLen)
  (be:∀ args aj,Sem.run Tryz.prog (callFunc f args) aj=.ok (.enter f args) aj)
  (aw:∀ m k,k<n->Calls Tryz.prog f #[N,.int .i64 ((k:Nat):Int)] (w.drewN m) fun e w'=>e=.returned (.int .i64 (key k))/\∃ J,w'=(w.drewN m).drewN J) :
  Calls Tryz.prog 196 #[.slice (some ⟨r,0,none⟩) q.length cap,.func (.func f) #[N] #[]] w fun e w'=>GJ B w r cap q (BA key q) e w':=by
 have ad:=qX aw;have ao:=(fun(i:Nat) x (hx:(Ai q)[i]? = some x)=>(Y.cellAt i (by have:=Af hx;rw[Am]at this;omega)).trans (Hu hx):∀(i:Nat) x,(Ai q)[i]? = some x->w.cell? ⟨r,i,none⟩=some (.int .i64 x))
 have Z:Hid (w.ownsRow B 3 1 (.slice (some ⟨r,0,none⟩) (Ai q).length cap) (Ai q).length (ints (Ai q))/\cap<=maxLen/\(Ai q).length<=cap):=by rw[Am];exact⟨Y,ab,ar⟩
 have O:Hid (∀ i,i<q.length->∃ k,q[i]? = some k/\q.getD i 0=k/\k<n/\w.cell? ⟨r,i,none⟩=some (.int .i64 ((k:Nat):Int))):=fun i a4=>by
  obtain⟨k,K,a2⟩:=Ab q i a4;exact⟨k,K,by simp[List.getD,K],an k a2,ao i _ (Ky K)⟩
 unfold maxLen at ab;clear Y an aw ao;obtain⟨l,U⟩:=ex q.length;have z:=qX U;rw[U]at a' V ar O ⊢;clear U;go_in
 go_wp2_with fail;go_loopw [6,11] (fun bc i wr=>∃ k:Nat,k<=l/\i=.int .i64 k/\bc=.int .i64 (AY key q k)/\∃ m,wr=w.drewN m) (fun _ i _=>l-(intOf i).toNat)
 case atStart=>exact⟨0,qR _,rfl,rfl,0,rfl⟩
 case round=>
  obtain⟨k,K,rfl,rfl,m,h⟩:=hrel;have a0:=qX h;by_cases a8:k<l
  ·
   have E:AY key q k<l:=by rw[<- z.o];exact Fe key (by rw[z.o];exact V) (by rw[z.o];exact K)
   obtain⟨fl,D⟩:=ex (AY key q k);obtain⟨a,a7,aq,a6,aS⟩:=O.o k a8;rw[D]at E ⊢;obtain⟨b,Q,I,ap,H⟩:=O.o fl E;have al:Hid (AY key q (k+1)=if key a<key b then k else fl):=by
    show AY key q (k+1)=_
    simp only[AY,aq,D,I]
   have bg:wr.cell? ⟨r,k,none⟩=some (.int .i64 a):=by rw[h];exact aS
   have bb:wr.cell? ⟨r,fl,none⟩=some (.int .i64 b):=by rw[h];exact H
   have aN:Hid (∀ j,Calls Tryz.prog f #[N,.int .i64 ((a:Nat):Int)] (wr.drewN j) fun e w'=>e=.returned (.int .i64 (key a))/\∃ J,w'=(wr.drewN j).drewN J):=fun j=>by
    have:=ad.o (m+j) a a6;rw[h,xU];exact this
   have av:Hid (∀ j,Calls Tryz.prog f #[N,.int .i64 ((b:Nat):Int)] (wr.drewN j) fun e w'=>e=.returned (.int .i64 (key b))/\∃ J,w'=(wr.drewN j).drewN J):=fun j=>by
    have:=ad.o (m+j) b ap;rw[h,xU];exact this
   clear D a7 aq Q I aS H h;by_cases a1:key a<key b
   ·
    have W:=qX (al.o.trans (if_pos a1));go_wp2
    go_quiet (first
     | exact Calls.quiet_of (aN.o _)
     | exact Calls.quiet_of (av.o _))
    go_wp2
    go_roundw
    case rel=>exact⟨k+1,by omega,by go_num,by rw[W.o],m+nq,by rw[a0.o,xU]⟩
    case measure=>simp[intOf];omega
   have W:=qX (al.o.trans (if_neg a1));go_wp2
   go_quiet (first
    | exact Calls.quiet_of (aN.o _)
    | exact Calls.quiet_of (av.o _))
   go_wp2
   go_roundw
   case rel=>exact⟨k+1,by omega,by go_num,by rw[W.o],m+nq,by rw[a0.o,xU]⟩
   case measure=>simp[intOf];omega
  obtain rfl:k=l:=by omega
  have E:AY key q k<k:=by rw[<- z.o];exact Fe key (by rw[z.o];exact V) lr
  obtain⟨fl,D⟩:=ex (AY key q k);rw[D]at E ⊢;obtain⟨b,Q,I,ap,H⟩:=O.o fl E;have bb:wr.cell? ⟨r,fl,none⟩=some (.int .i64 b):=by rw[h];exact H
  have aB:Hid (BA key q=fl/\q.getD fl 0=b):=⟨by unfold BA;rw[z.o];exact D,I⟩
  have a5:Hid (But (fun j=>j=r) w wr):=by
   show But _ _ _
   rw[h];exact .ofBelow (qL br _)
  have a9:Hid (Calls Tryz.prog 217 #[.slice (some ⟨r,0,none⟩) k cap,.int .i64 fl,.int .i64 ((fl:Int)+1)] wr fun e w'=>e=.returned (.slice (some ⟨r,0,none⟩) (k-1) cap)/\w'.ownsRow B 3 1 (.slice (some ⟨r,0,none⟩) (k-1) cap) (k-1) (ints (Ai (q.eraseIdx fl)))/\But (fun j=>j=r) wr w'):=by
   have a3:wr.ownsRow B 3 1 (.slice (some ⟨r,0,none⟩) (Ai q).length cap) (Ai q).length (ints (Ai q)):=by rw[h];exact Z.o.1
   have ac:=Ml B r cap fl (Ai q) wr a3 (by rw[Am,z.o];exact E) Z.o.2.2 Z.o.2.1;rw[Am,z.o,Nk]at ac;exact ac
  clear D Q I H h;go_wp2_with fail;refine a9.o.mono ?_
  rintro e bd ⟨rfl,am,ai⟩;have aE:=qY am ai;clear am ai;go_wp2
  go_ret2;rw[aB.o.1];unfold GJ;rw[z.o,aB.o.2];exact⟨rfl,aE.o.1,a5.o.trans aE.o.2⟩
theorem dM (B:Nat)(N:World)(g H:Nat)(I:Value)(J:Nat->Prop)(q:List Nat)(w:World)(D:BX B N g H I w J q):Calls Tryz.prog 197 #[.pointer (some ⟨g,0,none⟩)] w fun e w'=>e=.returned (.int .i64 (q.length:Int))/\w'=w:=by
 obtain⟨v,z,h,O,U,K⟩:=D.row;rw[<- Am]at h;obtain⟨W,cap,rfl,Q,E⟩:=Jz h;rw[Am]at z Q;have V:=y9 z;unfold maxLen at E;clear z h O U K D;go_in
 go_wp2
 go_ret;exact⟨rfl,rfl⟩
theorem fZ (B:Nat)(ad:World)(g W f:Nat)(I O:Value)(key:Nat->Int)(n:Nat)(aj:Nat->Prop)(q:List Nat)(w:World)(D:BX B ad g W (.func (.func f) #[] #[I,O]) w aj q)(aq:q.length<=1000)(J:0<q.length)(ab:∀ k,k∈q->k<n)
  (a2:∀ args h,Sem.run Tryz.prog (callFunc f args) h=.ok (.enter f args) h)
  (ar:∀ h k,Below B ad h->k<n->Calls Tryz.prog f #[.int .i64 ((k:Nat):Int),I,O] h fun e w'=>e=.returned (.int .i64 (key k))/\∃ m,w'=h.drewN m) :
  Calls Tryz.prog 195 #[.pointer (some ⟨g,0,none⟩),.pointer (some ⟨W,0,none⟩)] w fun e w'=>e=.returned (.int .i64 (q.getD (BA key q) 0:Nat))/\AX (BX B ad g W (.func (.func f) #[] #[I,O])) w w' aj (q.eraseIdx (BA key q)):=by
 have aN:=qX D;obtain⟨v,K,z,aB,a3,aS⟩:=D.row;rw[<- Am]at z;obtain⟨r,cap,rfl,N,ai,ao⟩:=JH z (by rw[Am];exact J);have a':=qZ z ai N;rw[Am]at K N;have a5:=y9 K;have a7:=y9 D.mea;have ac:Hid (w.heap[g]? = some (.cells #[.slice (some ⟨r,0,none⟩) q.length cap] 27 (0,0))/\r≠g):=⟨K,fun e=>aB (by rw[e];rfl)⟩
 have bb:Hid (∀ i,i<q.length->∃ k,q[i]? = some k/\q.getD i 0=k/\k<n/\w.cell? ⟨r,i,none⟩=some (.int .i64 ((k:Nat):Int))):=fun i a0=>by
  obtain⟨k,E,aE⟩:=Ab q i a0;exact⟨k,E,by simp[List.getD,E],ab k aE,ao i _ (Ky E)⟩
 have an:w.ownsRow B 3 1 (.slice (some ⟨r,0,none⟩) q.length cap) q.length (ints (Ai q)):=by rw[Am]at z;exact z
 have Q:=WO B f I O key n r cap q w aq J ab an N ai a2 (fun a8 k E=>ar _ k (qL D.env _) E);unfold GJ at Q;have ap:=Iw key J;have av:Hid ((q.eraseIdx (BA key q)).length=q.length-1):=by
  show _=_
  rw[List.length_eraseIdx,if_pos ap]
 obtain⟨x,Y⟩:=ex (q.getD (BA key q) 0);obtain⟨l,H⟩:=ex q.length;obtain⟨a9,hpk⟩:=ex (BA key q);rw[Y];rw[Y,H,hpk]at Q;rw[hpk];rw[hpk]at av;have a4:=qX Q;have al:=qX H;rw[H]at a5 aq J N;clear K z aB a3 aS D ab ar ao an Q ap Y H hpk;go_in
 go_wp2_with fail;refine a4.o.mono ?_
 rintro e a1 ⟨rfl,am,U⟩;have V:a1.heap[g]? = some (.cells #[.slice (some ⟨r,0,none⟩) l cap] 27 (0,0)):=by
  have:=ac.o.1;rw[al.o]at this;exact(U.block g (xR this) (fun e=>ac.o.2 e.symm)).trans this
 have bc:=y9 V;have a6:=free_of_one V;have aw:=qY am U;clear am U V;go_wp2
 go_ret;refine⟨rfl,aN.o.stored (v:=.slice (some ⟨r,0,none⟩) q.length cap) ac.o.1 br (aw.o.2.mono fun j Z=>by rw[Z];rfl) ?_ (fun j Z=>.inl Z)⟩;rw[av.o,al.o];exact aw.o.1
def Gg (g h:Nat):Value:=.agg #[.func (.func 194) #[] #[.pointer (some ⟨g,0,none⟩)],.func (.func 195) #[] #[.pointer (some ⟨g,0,none⟩),.pointer (some ⟨h,0,none⟩)],.func (.func 197) #[] #[.pointer (some ⟨g,0,none⟩)]]
theorem Um (B:Nat)(E:World)(g h:Nat)(z:Value)(D:Nat->Prop)(q:List Nat)(w:World)(I:BX B E g h z w D q):Calls Tryz.prog 282 #[Gg g h] w fun e w'=>e=.returned (.int .i64 (q.length:Int))/\AX (BX B E g h z) w w' D q:=by
 have H:=qX I;clear I;unfold Gg;go_in
 go_wp2_with fail;refine(dM B E g h z D q _ (H.o.alloc _)).mono ?_
 rintro e J ⟨rfl,rfl⟩;go_wp2
 go_ret;exact⟨rfl,H.o.same ba⟩
theorem TZ (B:Nat)(E:World)(g h f:Nat)(z D:Value)(key:Nat->Int)(n:Nat)(H:Nat->Prop)(q:List Nat)(w:World)(J:BX B E g h (.func (.func f) #[] #[z,D]) w H q)(ab:q.length<=1000)(V:0<q.length)(N:∀ k,k∈q->k<n)
  (K:∀ args I,Sem.run Tryz.prog (callFunc f args) I=.ok (.enter f args) I)
  (Q:∀ I k,Below B E I->k<n->Calls Tryz.prog f #[.int .i64 ((k:Nat):Int),z,D] I fun e w'=>e=.returned (.int .i64 (key k))/\∃ m,w'=I.drewN m) :
  Calls Tryz.prog 281 #[Gg g h] w fun e w'=>e=.returned (.int .i64 (q.getD (BA key q) 0:Nat))/\AX (BX B E g h (.func (.func f) #[] #[z,D])) w w' H (q.eraseIdx (BA key q)):=by
 have Y:Hid (∀ w',BX B E g h (.func (.func f) #[] #[z,D]) w' H q->Calls Tryz.prog 195 #[.pointer (some ⟨g,0,none⟩),.pointer (some ⟨h,0,none⟩)] w' fun e ad=>e=.returned (.int .i64 (q.getD (BA key q) 0:Nat))/\AX (BX B E g h (.func (.func f) #[] #[z,D])) w' ad H (q.eraseIdx (BA key q))):=fun w' Z=>fZ B E g h f z D key n H q w' Z ab V N K Q
 have U:=qX J;clear J N K Q;unfold Gg;go_in
 go_wp2_with fail;refine(Y.o _ (U.o.alloc _)).mono ?_
 rintro e W ⟨rfl,O⟩;have ac:Hid (AX (BX B E g h (.func (.func f) #[] #[z,D])) w W H (q.eraseIdx (BA key q))):=O.after ba;clear O;go_wp2
 go_ret;exact⟨rfl,ac.o⟩
theorem Tw (B:Nat)(E:World)(g h:Nat)(z:Value)(D:Nat->Prop)(q:List Nat)(k:Nat)(w:World)(I:BX B E g h z w D q)(J:q.length<=1000):Calls Tryz.prog 280 #[Gg g h,.int .i64 k] w fun e w'=>e=.returned (.tuple #[])/\AX (BX B E g h z) w w' D (q++[k]):=by
 have N:=qX I;clear I;unfold Gg;go_in
 go_wp2_with fail;refine(ib B E g h z D q k _ (N.o.alloc _) J).mono ?_
 rintro e K ⟨rfl,H⟩;have O:Hid (AX (BX B E g h z) w K D (q++[k])):=H.after ba;clear H;go_wp2
 go_end0;exact⟨rfl,O.o⟩
theorem KX (D:Value)(f:Nat)(h z:Value)(J:D=.func (.func f) #[] #[h,z])(w:World):Calls Tryz.prog 163 #[D] w fun e w'=>e=.returned (.iface 256 (Gg (w.heap.size+1) w.heap.size))/\BX w.heap.size w (w.heap.size+1) w.heap.size D w' (fun k=>k=w.heap.size+1\/k=w.heap.size) []/\zW w w':=by
 subst J;unfold Gg;go_in
 go_wp2
 go_ret;have H:zW w (w.alloc (.cells #[.func (.func f) #[] #[h,z]] 119)):=ba;have E:zW w ((w.alloc (.cells #[.func (.func f) #[] #[h,z]] 119)).alloc (.cells #[.slice none 0 0] 27)):=H.alloc H.size _;have I:(w.alloc (.cells #[.func (.func f) #[] #[h,z]] 119)).heap.size=w.heap.size+1:=by simp
 refine⟨by simp,⟨E,⟨.slice none 0 0,?_,qQ _ _ _ _,(fun e=>by cases e),(fun e=>by cases e),fun k=>by simp[Value.ownBlock]⟩,?_,by omega,by omega,lr⟩,E⟩
 · have:=vZ (w.alloc (.cells #[.func (.func f) #[] #[h,z]] 119)) (.cells #[.slice none 0 0] 27);rwa[I]at this
 rw[Below.heap_alloc _ _ _ (by rw[I];omega)];exact vZ w _
end Go.Proofs.YtejlihcdfffafaaGreatDoor
