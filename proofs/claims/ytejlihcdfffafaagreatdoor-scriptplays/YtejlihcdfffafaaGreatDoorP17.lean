import Derived.Test.YtejlihcdfffafaaGreatDoorP16
import Derived.BigRegion
import Derived.Test.YtejlihcdfffafaaGreatDoorP09
import Derived.Maps.OwnOps
import Derived.Maps.Views
import Derived.Laws.EntriesVeiled
set_option maxHeartbeats 2000000
set_option maxRecDepth 100000
namespace Go.Proofs.YtejlihcdfffafaaGreatDoor
open Go.RowKit
theorem ZE (a:oA)(cap:Nat)(ls:lI)(per n:Int)(w:World)(J h:Nat)(W:w.cell? ⟨J,0,none⟩=some (.slice a ls.length cap))(Z:w.cell? ⟨h,0,none⟩=some (.int .i64 per))
  (E:AQ w a ls) (K:Ak ls) (I:ls.length<=cap) (z:cap<=maxLen) (Q:0<=per*n) (V:per*n<=1099511627776) :
  Calls Tryz.prog 42 #[.int .i64 n,.pointer (some ⟨J,0,none⟩),.pointer (some ⟨h,0,none⟩)] w fun e w'=>e=.returned (.bool (IR per ls n))/\zW w w':=by
 have U:=qX E;have N:=qX K;have H:=qY I z;clear E K I z;go_in
 go_wp2_with fail;refine(QF a cap ls (per*n) _ U.o N.o H.o.1 H.o.2 Q V).mono ?_
 rintro e Y ⟨rfl,D⟩;have O:=qX D;clear D;go_wp2
 go_ret;exact⟨rfl,O.o⟩
structure Mo (per:Int)(ls:lI)(n:Int):Prop where
 one:1<=n
 most:per*n<=1099511627776
 is_:IR per ls n=true
 least:n=1\/IR per ls (n-1)=false
def Pj (per:Int)(ls:lI):Prop:=∀ n,1<=n->per*n<=1099511627776->IR per ls n=false
theorem fe {per:Int}(I:1<=per)(J:per<=1000):1099511627<=(1099511627776:Int)/per/\(1099511627776:Int)/per<=1099511627776/\per*((1099511627776:Int)/per)<=1099511627776/\(1099511627776:Int)<per*((1099511627776:Int)/per)+per:=by
 have E:=Int.mul_ediv_self_le (x:=1099511627776) (k:=per) (by omega);have z:=Int.lt_mul_ediv_self_add (x:=1099511627776) (k:=per) (by omega);have D:=Int.ediv_le_self (a:=1099511627776) per (by omega);refine⟨?_,D,E,z⟩;rcases vV ((1099511627776:Int)/per) 1099511627 with h|h
 ·
  exfalso
  generalize (1099511627776:Int)/per=q at *;have H:=qP (show q+1<=1099511627 by omega) (show 0<=per by omega);rw[yY]at H;omega
 exact h
theorem WH {per r:Int}{ls:lI}(D:Ak ls)(E:1<=per)(J:per<=1000)(I:1<=r)(_r2:r<=1099511627776/per+1)(z:r=1099511627776/per+1\/IR per ls r=true)(h:r=1\/IR per ls (r-1)=false):(r<=1099511627776/per/\Mo per ls r)\/(1099511627776/per<r/\Pj per ls):=by
 obtain⟨V,W,U,Q⟩:=fe E J;generalize (1099511627776:Int)/per=q at *;by_cases H:r<=q
 ·
  refine .inl ⟨H,I,?_,?_,h⟩
  · have:=qP H (show 0<=per by omega);omega
  rcases z with z|z
  · omega
  exact z
 refine .inr ⟨by omega,fun n n1 n2=>?_⟩;have K:r=q+1:=by omega
 subst K;rcases h with h|h
 · omega
 rw[show q+1-1=q by omega]at h;cases O:IR per ls n with
 | false=>rfl
 | true=>
  have N:n<=q:=by
   rcases vV q n with D|D
   · have:=qP (show q+1<=n by omega) (show 0<=per by omega);rw[yY]at this;omega
   exact D
  have:=Zb (n:=q) D E n1 N O;rw[h]at this;cases this
theorem fV (a:oA)(cap:Nat)(ls:lI)(per:Int)(w:World)(W:Nat->Addr)(ap:A8 w W)(U:AQ w a ls)(ai:ls.length<=cap)(al:cap<=maxLen)(V:Ld ls per):Calls Tryz.prog 29 #[.slice a ls.length cap,.int .i64 per] w fun e w'=>zW w w'/\((∃ n,Mo per ls n/\e=.returned (.tuple #[.int .i64 (per*n),.nilIface]))\/(Pj per ls/\e=.returned (.tuple #[.int .i64 0,.iface 308 (.pointer (some (W 3)))]))):=by
 have E:zW w ((w.alloc (.cells #[.slice a ls.length cap] 54)).alloc (.cells #[.int .i64 per] 3)):=ba.alloc (by simp) _;have Q:((w.alloc (.cells #[.slice a ls.length cap] 54)).alloc (.cells #[.int .i64 per] 3)).cell? ⟨w.heap.size,0,none⟩=some (.slice a ls.length cap):=by simp
 have aq:((w.alloc (.cells #[.slice a ls.length cap] 54)).alloc (.cells #[.int .i64 per] 3)).cell? ⟨w.heap.size+1,0,none⟩=some (.int .i64 per):=by simp
 have an:=U.below E;have Z:=ap.below E;have N:=qX V;have ac:=qY ai al;obtain⟨aN,am,Y⟩:=V;obtain⟨bd,a6,a2,a4⟩:=fe am Y;have a9:(per==0)=false:=by simp;omega
 go_in
 go_wp2_with fail;generalize (w.alloc (.cells #[.slice a ls.length cap] 54)).alloc (.cells #[.int .i64 per] 3)=ar at *;have aj:=qX E;have ab:=qX an;have av:=qX Z;have ad:=qX Q;have K:=qX aq;clear E an Z Q aq U ap aN ai al;refine(Uw a cap ls per _ ab.o N.o).mono ?_
 rintro e a0 ⟨rfl,D⟩;have aS:=qX D;have d1:=j7 D ad.o;have d2:=j7 D K.o;clear D;go_wp2_with fail;have a3:=qX a2;refine (Xu 1 (1099511627776 / per+1) (.pointer (some ⟨w.heap.size,0,none⟩)) (.pointer (some ⟨w.heap.size+1,0,none⟩)) (IR per ls) ar a0 aS.o (by decide) (by omega) (by omega)
  (fun n aE a8 a' H=>ZE a cap ls per n aE w.heap.size (w.heap.size+1) (j7 H ad.o) (j7 H K.o) (ab.o.below H) N.o.1 ac.o.1 ac.o.2 (vG (by omega) (by omega))
   (Int.le_trans (qP (show n <= 1099511627776 / per by omega) (show 0 <= per by omega)) a3.o))).mono ?_
 rintro e a7 ⟨r,rfl,aw,a1,O,J,z⟩;have ao:=qX z;have bb:=j7 z K.o;have be:=(av.o.below z).c3;clear z d1 d2;rcases WH N.o.1 am Y aw a1 O J with⟨aB,h⟩|⟨aB,h⟩
 ·
  have I:=qX h;have bc:=h.most;have a5:0<=per*r:=vG (by omega) (by omega);clear O J h;go_wp2
  go_ret2;exact⟨aj.o.tr ao.o,.inl ⟨r,I.o,rfl⟩⟩
 have I:=qX h;clear O J h;go_wp2
 go_quiet (fail);go_wp2
 go_ret2;exact⟨qL (aj.o.tr ao.o) _,.inr ⟨I.o,rfl⟩⟩
theorem Dw {S:Nat->Prop}{w w':World}{a:oA}{ns:List Int}(K:AR w a ns)(D:But S w w')(N:∀ z,a=some z->¬S z.block):AR w' a ns:=by
 rcases K with rfl|⟨b,h,rfl,E,I⟩
 · exact .inl rfl
 have H:¬S b:=N _ rfl;exact .inr ⟨b,h,rfl,qD E D.size,fun i x J=>by rw[D.cell (p:=⟨b,h+i,none⟩) E H];exact I i x J⟩
def IY (h:lI)(j:Nat):Value:=.int .i64 (if j%2=0 then(h.getD (j/2) (0,0)).1 else(h.getD (j/2) (0,0)).2)
theorem Xo (h:lI)(x y:Int):Rx (Rx (IY h) (2*h.length) (.int .i64 x)) (2*h.length+1) (.int .i64 y)=IY (h++[(x,y)]):=by
 funext i
 unfold Rx IY;by_cases E:i=2*h.length+1
 · subst E;rw[if_pos rfl,if_neg (by omega),show(2*h.length+1)/2=h.length by omega];simp
 rw[if_neg E];by_cases D:i=2*h.length
 · subst D;rw[if_pos rfl,if_pos (by omega),show(2*h.length)/2=h.length by omega];simp
 rw[if_neg D];rcases qC (i/2) h.length with z|z
 · simp[qU z]
 simp[qH z,qH (show(h++[(x,y)]).length<=i/2 by simp;omega)]
theorem TR {w:World}{g:Nat}{z:lI}(h:BN w g (2*z.length) (IY z)):AQ w (some ⟨g,0,none⟩) z:=by
 refine .inr ⟨g,0,rfl,h.lt,fun i x y D=>?_⟩;have E:=Af D;rw[vC,h.cell (i*2) (by omega),h.cell (i*2+1) (by omega)];unfold IY;rw[if_pos (by omega),if_neg (by omega),show i*2/2=i by omega,show(i*2+1)/2=i by omega];simp[D]
theorem YA (n:Nat)(I:n<=1000)(w':World):(Instr.makeSlice 54 (.int .i64 n) (.int .i64 n)).run Tryz.prog w'=.ok (.slice (some ⟨w'.heap.size,0,none⟩) n n) (w'.alloc (.cells (madeCells #[.int .i64 0,.int .i64 0] (n*2)) 66)):=by
 obtain⟨D,H,E,z,h⟩:=vL Tryz.infoLine;have:=yW (P:=Tryz.prog) w' 54 66 D (.agg #[.int .i64 0,.int .i64 0]) Tryz.underlying54 H E .i64 .i64 n n (by omega) (by omega) (by rw[h];omega) (by omega);simpa[z,Value.cells]using this
theorem eU (n j:Nat)(h:j<n):(madeCells #[.int .i64 0,.int .i64 0] n)[j]? = some (.int .i64 0):=by
 unfold madeCells;rcases(show j%2=0\/j%2=1 by omega)with e|e <;> simp[h,e]
theorem XU (w:World)(n:Nat)(t:TypeId):BN (w.alloc (.cells (madeCells #[.int .i64 0,.int .i64 0] (n*2)) t)) w.heap.size (2*n) (IY []):=by
 refine⟨fun i h=>?_,fun i=>vQ w _ _ i,by simp⟩;rw[qO _ _ _ _ rfl,eU _ _ (by omega)];unfold IY;simp
def Lb (h:Addr)(o:Option lI)(w:World)(e:Ending)(w':World):Prop:=
 zW w w' /\ ((o=none /\ e=.returned (.tuple #[.slice none 0 0,.iface 308 (.pointer (some h))])) \/
  ∃ ls g,o=some ls /\ e=.returned (.tuple #[.slice (some ⟨g,0,none⟩) ls.length ls.length,.nilIface]) /\ w.heap.size <= g /\ g < w'.heap.size /\ AQ w' (some ⟨g,0,none⟩) ls)
section
variable (a:Option Addr) (cap:Nat) (ws:List (List UInt8)) (w:World) (a0:Addr) (h0:w.cell? ⟨2,0,none⟩=some (.iface 308 (.pointer (some a0)))) (hl:CO w a ws) (hs:Fb ws)
theorem SV (a:oA)(cap:Nat)(ws:List (List UInt8))(w:World)(H:Addr)(a6:w.cell? ⟨2,0,none⟩=some (.iface 308 (.pointer (some H))))(av:CO w a ws)(am:Fb ws):Calls Tryz.prog 89 #[.slice a ws.length cap] w fun e w'=>Lb H (Er ws) w e w':=by
 have ap:=(show Hid (Calls Tryz.prog 94 #[.slice a ws.length cap] w fun e w'=>Js H (Ev ws) w e w')from I1 a cap ws w H a6 av am)
 obtain⟨n,D⟩:=ex ws.length;have a1:=qX D;have b8:n<=1000:=by rw[<- D];exact am.1
 rw[D]at ap ⊢;have b2:(0:Int)<=n:=by omega
 by_cases a9:n%2=0
 ·
  have bp:(n:Int)%2=0:=by omega
  obtain⟨h,be⟩:∃ h,n=2*h:=⟨n/2,by omega⟩
  have bx:(n:Int)/2=h:=by omega
  have b7:h<=500:=by omega
  have bd:=YA h (by omega);have a3:=qX be;clear av am D a6 a9 be;go_in
  go_wp2_with fail;refine ap.o.mono ?_
  rintro e N ⟨U,⟨W,rfl⟩|⟨ns,g,W,rfl,a',-,an⟩⟩
  ·
   have Z:Hid (Lb H (Er ws) w (.returned (.tuple #[.slice none 0 0,.iface 308 (.pointer (some H))])) N):=⟨U,.inl ⟨by unfold Er;rw[W,if_neg (by rw[a1.o];omega)];rfl,rfl⟩⟩
   clear W U;go_wp2
   go_ret2;exact Z.o
  have bh:ns.length=n:=by rw[EZ W,a1.o]
  obtain⟨r,aE⟩:=ex ns.length;have ad:Hid (ns.length=2*h):=by rw[bh];exact a3.o
  have a7:Hid (r=2*h):=by rw[<- aE];exact ad.o
  have bv:=qV W U a' an;have aB:zW w (N.alloc (.cells (madeCells #[.int .i64 0,.int .i64 0] (h*2)) 66)):=U.alloc U.size _;have ai:=XU N h 66;have a2:AR (N.alloc (.cells (madeCells #[.int .i64 0,.int .i64 0] (h*2)) 66)) (some ⟨g,0,none⟩) ns:=an.below ba;obtain⟨I,E⟩:=ex (N.alloc (.cells (madeCells #[.int .i64 0,.int .i64 0] (h*2)) 66));obtain⟨G,Y⟩:=ex N.heap.size;rw[E]at aB ai a2;have b6:(Instr.makeSlice 54 (.int .i64 h) (.int .i64 h)).run Tryz.prog N=.ok (.slice (some ⟨G,0,none⟩) h h) I:=by rw[bd N,E,Y]
  rw[Y]at ai;have bb:0<h->g<G:=fun b9=>by
   rw[<- Y];rcases an with J|⟨b,bc,V,bw,-⟩
   ·
    subst J;have:=ad.o;simp at this
    omega
   cases V;exact bw
  have aw:=qZ aB ai a2;have ao:Hid (w.heap.size<=G/\(0<h->g<G)):=⟨by rw[<- Y];exact U.size,bb⟩
  rw[aE];clear W U a' an aB ai a2 E Y bd bb bh aE ap;go_wp2_with fail;go_loopw [27] (fun i wr=>∃ k:Nat,∃ z:lI,k<=h/\i=.int .i64 k/\z.length=k/\zW w wr/\BN wr G (2*h) (IY z)/\AR wr (some ⟨g,0,none⟩) ns/\∀(j:Nat) x y,z[j]? = some (x,y)->ns[2*j]? = some x/\ns[2*j+1]? = some y) (fun i _=>h-(intOf i).toNat)
  case atStart=>exact⟨0,[],qR _,rfl,rfl,aw.o.1,aw.o.2.1,aw.o.2.2,fun j x y h=>by simp at h⟩
  case round=>
   obtain⟨k,z,b3,rfl,Q,V,K,D,aj⟩:=hrel;by_cases b4:k<h
   ·
    obtain⟨p,bg⟩:=ex (2*k);obtain⟨q,a8⟩:=ex (p+1);have b0:(2:Int)*(k:Int)=(p:Int):=by omega
    have b1:(p:Int)+1=(q:Int):=by omega
    have bT:p<r:=by rw[a7.o];omega
    have b5:q<r:=by rw[a7.o];omega
    obtain⟨x,O,-⟩:=Ab ns p (by rw[ad.o];omega);obtain⟨y,aS,-⟩:=Ab ns q (by rw[ad.o];omega);have bl:wr.cell? ⟨g,p,none⟩=some (.int .i64 x):=by
     rcases D with J|⟨b,bc,a0,-,ar⟩
     · rw[J]at O;simp at O
     cases a0
     have:=ar p x O;rwa[vC]at this
    have bq:wr.cell? ⟨g,q,none⟩=some (.int .i64 y):=by
     rcases D with J|⟨b,bc,a0,-,ar⟩
     · rw[J]at O;simp at O
     cases a0
     have:=ar q y aS;rwa[vC]at this
    have bt:=K.frozen (k*2);have bk:=K.frozen (k*2+1);have bs:=K.cell (k*2) (by omega);have bj:=K.cell (k*2+1) (by omega);have a4:Hid (∀ I,((wr.setCell ⟨G,k*2,none⟩ (.int .i64 x)).setCell ⟨G,k*2+1,none⟩ (.int .i64 y))=I->zW w I/\BN I G (2*h) (IY (z++[(x,y)]))/\AR I (some ⟨g,0,none⟩) ns/\(z++[(x,y)]).length=k+1/\∀(j:Nat) aq al,(z++[(x,y)])[j]? = some (aq,al)->ns[2*j]? = some aq/\ns[2*j+1]? = some al):=by
     intro I E;subst E;refine⟨En (En V ao.o.1 _) ao.o.1 _,?_,?_,by simp[Q],?_⟩
     · rw[<- Xo,Q,show 2*k=k*2 by omega];exact(K.put (by omega) _).put (by omega) _
     ·
      refine Dw (S:=fun b=>b=G) D (But.setCell (p:=⟨G,k*2+1,none⟩) (But.setCell (p:=⟨G,k*2,none⟩) (But.refl (fun b=>b=G) wr) rfl _) rfl _) fun bN e=>?_
      cases e
      have:=ao.o.2 (by omega);show ¬g=G
      omega
     intro j aq al bm;rcases DZ bm with⟨-,ab⟩|⟨aN,ab⟩
     · exact aj j aq al ab
     cases ab
     rw[aN,Q,bg,a8];exact⟨O,aS⟩
    clear V K D aj Q O aS bg a8;go_wp2
    go_region;obtain⟨I,E⟩:=ex ((wr.setCell ⟨G,k*2,none⟩ (.int .i64 x)).setCell ⟨G,k*2+1,none⟩ (.int .i64 y));have ac:=(show Hid _ from a4.o I E)
    rw[E];clear E a4 bl bq bt bk bs bj;go_wp2
    go_roundw
    case rel=>exact⟨k+1,z++[(x,y)],by omega,by go_num,ac.o.2.2.2.1,ac.o.1.drew,ac.o.2.1.drew,ac.o.2.2.1.below (br.drew),ac.o.2.2.2.2⟩
    case measure=>simp[intOf];omega
   obtain rfl:k=h:=by omega
   have e:z=Ig ns:=by
    apply List.ext_getElem?;intro i;rcases qC i z.length with J|J
    · obtain⟨⟨x,y⟩,a5,-⟩:=Ab z i J;obtain⟨aN,ab⟩:=aj i x y a5;rw[a5,Mh ns i x y aN ab]
    rw[qH J,qH (by rw[GN,ad.o];omega)]
   have Z:Hid (Lb H (Er ws) w (.returned (.tuple #[.slice (some ⟨G,0,none⟩) k k,.nilIface])) wr):=by
    refine⟨V,.inr ⟨z,G,by unfold Er;rw[if_neg (by rw[a1.o,a3.o];omega),bv.o.1,e];rfl,by rw[Q],ao.o.1,K.lt,TR (by rw[Q];exact K)⟩⟩
   clear V K D aj Q e;go_wp2
   go_ret2;exact Z.o
 have bp:(n:Int)%2=1:=by omega
 have Z:Hid (∀ q,Lb H (Er ws) w (.returned (.tuple #[.slice none 0 0,.iface 308 (.pointer (some H))])) (w.drewN q)):=fun q=>⟨qL br q,.inl ⟨by unfold Er;rw[if_pos];rw[D];omega,rfl⟩⟩
 clear av am D ap a9;go_in
 go_wp2
 go_quiet (fail);go_wp2
 go_ret2;exact Z.o nq
end
def AtEnd (p:Int)(v:Value)(w:World)(e:Ending)(w':World):Prop:=∃ B,e=.returned (.iface 135 (.pointer (some ⟨B,0,none⟩)))/\w'.cell? ⟨B,0,none⟩=some (.int .i64 p)/\w'.cell? ⟨B,1,none⟩=some v/\w.heap.size<=B/\zW w w'
theorem QP {p:Int}{v:Value}{w h:World}{t:TypeId}(z:zW w h):AtEnd p v w (.returned (.iface 135 (.pointer (some ⟨h.heap.size,0,none⟩)))) (h.alloc (.cells #[.int .i64 p,v] t)):=
 ⟨h.heap.size,rfl,by simp,by simp,z.size,z.alloc z.size _⟩
theorem Ri (p:Int)(h:Nat)(K:TypeId)(x:Value)(w:World)(O:Nat->Addr)(J:A8 w O)(I:w.cell? ⟨h,1,none⟩=some (.iface K x)):Calls Tryz.prog 137 #[.int .i64 p,.iface 135 (.pointer (some ⟨h,0,none⟩))] w (AtEnd p (.iface K x) w):=by
 have E:Hid (zW w (w.alloc (.cells #[.pointer none] 135))):=ba;have N:=qX J;have U:=qX I;clear J I;go_in
 go_wp2_with fail;refine(gT ⟨h,0,none⟩ ⟨w.heap.size,0,none⟩ (.pointer none) _ (N.o.below E.o).typ (by simp) (by simp)).mono ?_
 rintro e H ⟨rfl,z⟩;have D:zW w H:=by
  rw[z];exact((((E.o.alloc (by simp) _).alloc (by simp;omega) _).alloc (by simp;omega) _).alloc (by simp;omega) _).setCell lr _
 have V:H.cell? ⟨w.heap.size,0,none⟩=some (.pointer (some ⟨h,0,none⟩)):=by
  rw[z];exact eQ w _ _ _ _ _
 have Q:=qX D;have W:=j7 D U.o;clear z D;go_wp2
 go_ret;exact QP Q.o
theorem Uv (p:Int)(e:Addr)(w:World)(H:Nat->Addr)(z:A8 w H):Calls Tryz.prog 137 #[.int .i64 p,.iface 308 (.pointer (some e))] w (AtEnd p (.iface 308 (.pointer (some e))) w):=by
 have h:Hid (zW w (w.alloc (.cells #[.pointer none] 135))):=ba;have E:=qX z;clear z;go_in
 go_wp2_with fail;refine(iD e ⟨w.heap.size,0,none⟩ _ (E.o.below h.o).typ).mono ?_
 rintro e J ⟨rfl,D⟩;have I:Hid (zW w J):=by
  show Below _ _ _
  rw[D];exact((h.o.alloc (by simp) _).alloc (by simp;omega) _).alloc (by simp;omega) _
 clear D;go_wp2
 go_ret;exact QP I.o
theorem Eo (a:oA)(n cap:Nat)(w:World)(b:Bool)(h:((n:Int)==0)=b):Calls Tryz.prog 109 #[.slice a n cap] w fun e w'=>e=.returned (.bool b)/\w'=w:=by
 go_in
 go_wp2
 go_ret;exact⟨rfl,rfl⟩
def dD (D:Nat->Addr)(c:Int)(w:World)(e:Ending)(w':World):Prop:=∃ z v,e=.returned (.iface z v)/\zW w w'/\∃ k:Nat,k<9/\c=((k+1:Nat):Int)/\∀ h (p:Int),zW w' h->Calls Tryz.prog 137 #[.int .i64 p,.iface z v] h (AtEnd p (.iface 308 (.pointer (some (D k)))) h)
theorem XF (a:oA)(cap:Nat)(ls:lI)(w:World)(h:Nat->Addr)(D:A8 w h)(O:AQ w a ls)(ab:ls.length<=cap)(ac:cap<=maxLen)(c p:Int)(J:Ch ls c p)(K:0<c):Calls Tryz.prog 61 #[.slice a ls.length cap] w fun e w'=>dD h c w e w':=by
 rcases J with⟨H,rfl,rfl⟩|⟨H,V,j,Q,U,N,rfl,rfl⟩|⟨J,rfl,rfl⟩
 ·
  refine(OP a ls.length cap w _ D.c2 (by omega) H).mono ?_
  rintro e w' ⟨rfl,rfl⟩;exact⟨_,_,rfl,br,2,by omega,rfl,fun E p z=>Uv p (h 2) E h (D.below z)⟩
 ·
  refine(R3 a cap ls w (h 1) D.c1 O H V j Q U N).mono ?_
  rintro e w' ⟨I,B,rfl,Y,Z,ad,W⟩;exact⟨_,_,rfl,I,1,by omega,rfl,fun E p z=>Ri p B _ _ E h ((D.below I).below z) (j7 z W)⟩
 exact absurd K (by omega)
theorem Nf (I:oA)(m H:Nat)(w:World)(E:Nat->Addr)(h:A8 w E)(O:m≠8):Calls Tryz.prog 107 #[.slice I m H] w fun e w'=>∃ z,e=.returned z/\Ba w' z 3 (-1)/\zW w w':=by
 have K:=h.c2;have D:=qX h;have N:((m:Int)==8)=false:=by simp;omega
 have J:¬(m:Int)=8:=by omega
 clear h;go_in
 go_wp2
 go_ret;exact⟨_,rfl,Bo D.o 2 (by omega),br⟩
def bO (c p:Int)(w:World)(e:Ending)(w':World):Prop:=∃ h,e=.returned h/\Ba w' h c p/\zW w w'
theorem Lf (ar:oA)(bw:Nat)(cs:List lI)(w:World)(J:Nat->Addr)(a9:A8 w J)(ai:Hf w ar cs)(V:cs.length=8)(i:Nat)(bT:i<=8)(a3:Cj cs i)(c p:Int)(a5:(i=8/\c=0/\p = -1)\/(Lr cs i c/\p=i)):Calls Tryz.prog 107 #[.slice ar cs.length bw] w fun e w'=>bO c p w e w':=by
 have an:=qX a9;have bh:=qX a3;have W:=qX a5;obtain⟨b,b0,rfl,-,aj⟩:=ai.place (by omega);have bv:=qX aj;have a1:=qX V;rw[V];clear a9 a3 a5 ai aj V;go_in
 go_wp2_with fail;go_loopg [12] 8 (fun bq bg wr=>∃ k:Nat,bg=.int .i64 k/\k<=i/\8-k<=bq/\Hid (zW w wr))
 case atStart=>exact⟨0,rfl,qR _,by omega,br⟩
 case round=>
  obtain⟨k,rfl,bN,b1,D⟩:=hrel;by_cases bp:k<8
  ·
   have bc:(k:Int)<8:=by omega
   obtain⟨ls,U,-⟩:=Ab cs k (by rw[a1.o];exact bp);obtain⟨H,cap,av,aS,a4,aq,-⟩:=bv.o k ls U;have bd:=j7 D.o av;have Z:=qX U;obtain⟨n,ab⟩:=ex ls.length;have Q:=qX ab;have O:=qZ aS a4 aq;rw[ab]at bd;clear U av aS a4 aq ab;by_cases E:n=0
   ·
    have N:=qX (Eo H n cap wr true (by simp;exact E));have bk:Hid (k<i):=by
     show k<i
     rcases qC k i with z|z
     · exact z
     obtain rfl:k=i:=by omega
     rcases W.o with⟨h,-⟩|⟨⟨aB,Y,h,bl,-⟩,-⟩
     · omega
     rw[Z.o]at h;obtain rfl:=Option.some.inj h;exact absurd (qN.1 (Q.o.trans E)) bl
    clear E;go_wp2_with fail;refine N.o.mono ?_
    rintro e a0 ⟨rfl,rfl⟩;go_wp2
    go_roundg (8-(k+1))
    case measure=>omega
    case rel=>exact⟨k+1,by go_num,bk.o,lr,D⟩
   have N:=qX (Eo H n cap wr false (by simp;omega));by_cases aN:k<i
   ·
    have al:Ak ls:=by
     rcases bh.o k ls aN Z.o with z|z
     · exact absurd (by rw[<- Q.o,z];rfl) E
     exact z
    have ad:Hid (qW 61 #[.slice H n cap] wr .nilIface):=by
     have:=Gl H cap ls wr (O.o.1.below D.o) al;rwa[Q.o]at this
    clear al E;go_wp2_with fail;refine N.o.mono ?_
    rintro e a0 ⟨rfl,rfl⟩;go_wp2_with fail;refine ad.o.mono ?_
    rintro e K ⟨rfl,I⟩;have ac:=qX (D.o.tr I);clear I;go_wp2
    go_roundg (8-(k+1))
    case measure=>omega
    case rel=>exact⟨k+1,by go_num,aN,lr,ac⟩
   obtain rfl:k=i:=by omega
   obtain⟨bs,a7⟩:Lr cs k c/\p=k:=by
    rcases W.o with⟨h,-⟩|h
    · omega
    exact h
   obtain⟨aB,Y,h,-,a8,aE⟩:=bs;rw[Z.o]at h;obtain rfl:=Option.some.inj h;have ad:Hid (Calls Tryz.prog 61 #[.slice H n cap] wr fun e w'=>dD J c wr e w'):=by
    have:=XF H cap ls wr J (an.o.below D.o) (O.o.1.below D.o) O.o.2.1 O.o.2.2 c Y a8 aE;rwa[Q.o]at this
   have bm:=qX a7;clear a7 a8 aE h E;go_wp2_with fail;refine N.o.mono ?_
   rintro e a0 ⟨rfl,rfl⟩;go_wp2_with fail;refine ad.o.mono ?_
   rintro e K ⟨be,v,rfl,I,q,bt,ap,ao⟩;have bj:=(show Hid (Calls Tryz.prog 137 #[.int .i64 k,.iface be v] K (AtEnd (k:Int) (.iface 308 (.pointer (some (J q)))) K))from ao K (k:Int) br)
   have ac:=qX (D.o.tr I);have bx:=qX ap;clear I ao ap;go_wp2_with fail;refine bj.o.mono ?_
   rintro e b2 ⟨B,rfl,a2,am,-,a'⟩;have a6:=qX (ac.o.tr a');have aw:=qY a2 am;clear a' a2 am;go_wp2
   go_ret;refine⟨_,rfl,?_,a6.o⟩;rw[bx.o,bm.o];refine⟨?_,fun z=>by omega,fun _=>⟨_,_,rfl⟩⟩;have:=Ip (an.o.below a6.o) q bt (k:Int) B aw.o.1 aw.o.2;simpa using this
  have bc:¬(k:Int)<8:=by omega
  obtain rfl:i=8:=by omega
  have bb:Hid (c=0/\p = -1):=by
   rcases W.o with⟨-,z⟩|⟨⟨aB,Y,h,-⟩,-⟩
   · exact z
   rw[qH (by rw[a1.o];omega)]at h;cases h
  obtain rfl:k=8:=by omega
  go_wp2
  go_ret;refine⟨_,rfl,?_,D.o⟩;rw[bb.o.1,bb.o.2];exact DK wr
theorem YU {P:Program}{k:TypeId}(h:P.underlying k=some .string)(w:World)(b:Bool)(s:ByteArray):(Instr.checkKey b 10000 k (.string s)).run P w=.ok () w:=by
 show(Instr.checkKey b (9999+1) k (.string s)).run P w=_
 unfold Instr.checkKey;simp[yX h,Result.andThen]
theorem gY {P:Program}{t k e:TypeId}(J:P.underlying t=some (.map k e))(E:P.underlying k=some .string){w:World}{b:Nat}{D:Array MapEntry}{h:Nat}(z:w.heap[b]? = some (.map D h))(s:ByteArray)(v:Value)(H:Instr.findNow .string (.string s) D.toList 0=some none):∃ w',(Instr.mapUpdate t (.map (some b)) (.string s) v).run P w=.ok () w'/\w'.heap[b]? = some (.map (D.push { key:=.string s,val:=v,born:=h }) (h+1))/\But (fun k=>k=b) w w':=by
 refine⟨ChangeMaps.setBlock w b (.map (D.push { key:=.string s,val:=v,born:=h }) (h+1)),?_,ChangeMaps.heap_setBlock_same z _,⟨rfl,rfl,rfl,by simp[ChangeMaps.setBlock],fun i _ I=>ChangeMaps.heap_setBlock_other z _ (fun e=>I e)⟩⟩;simp[Instr.mapUpdate,yX J,MapKept.run_getObj_map z,YU E,yX E,Instr.findKey,H,MapKept.run_setObj_map _ z,Result.andThen,ChangeMaps.setBlock]
theorem kr {P:Program}{t k e:TypeId}(I:P.underlying t=some (.map k e))(h:P.underlying k=some .string){w:World}{b:Nat}{z:Array MapEntry}{H:Nat}(E:w.heap[b]? = some (.map z H))(s:ByteArray)(i:Nat)(v:Value)(D:Instr.findNow .string (.string s) z.toList 0=some (some (i,v)))(c:Bool):(Instr.lookup t (.map (some b)) (.string s) c).run P w=.ok (if c then .tuple #[v,.bool true]else v) w:=by
 cases c <;> simp[Instr.lookup,yX I,MapKept.run_getObj_map E,YU h,yX h,Instr.findKey,D,Result.andThen]
theorem X0 {P:Program}{t k e:TypeId}(K:P.underlying t=some (.map k e))(z:P.underlying k=some .string){w:World}{b:Nat}{D:Array MapEntry}{I:Nat}(H:w.heap[b]? = some (.map D I))(s:ByteArray)(h:Value)(J:(zeroValue e).run P w=.ok h w)(E:Instr.findNow .string (.string s) D.toList 0=some none)(c:Bool):(Instr.lookup t (.map (some b)) (.string s) c).run P w=.ok (if c then .tuple #[h,.bool false]else h) w:=by
 cases c <;> simp[Instr.lookup,yX K,MapKept.run_getObj_map H,YU z,yX z,Instr.findKey,E,J,Result.andThen]
def Eu (X:Nat):Nat->Value
 | 1=>.func (.func 157) #[] #[.pointer (some ⟨X,0,none⟩)]
 | 2=>.func (.func 133) #[] #[]
 | 3=>.func (.func 134) #[] #[]
 | 4=>.func (.func 135) #[] #[]
 | 5=>.func (.func 136) #[] #[]
 | _=>.nilFunc
def iW (X:Nat):Obj:=.map #[{ key:=.string ⟨#[102,105,102,111]⟩,val:=Eu X 1,born:=0 },{ key:=.string ⟨#[114,97,110,107]⟩,val:=Eu X 2,born:=1 },{ key:=.string ⟨#[100,117,101]⟩,val:=Eu X 3,born:=2 },{ key:=.string ⟨#[114,111,117,110,100]⟩,val:=Eu X 4,born:=3 },{ key:=.string ⟨#[102,97,105,114]⟩,val:=Eu X 5,born:=4 }] 5
structure Nb (w:World)(M X:Nat):Prop where
 obj:w.heap[M]? = some (iW X)
 box:w.cell? ⟨X,0,none⟩=some (.func (.func 132) #[] #[])
theorem bi (kb:ByteArray)(X k:Nat)(h:kindOf kb.toList=k):Instr.findNow .string (.string kb) [{ key:=.string ⟨#[102,105,102,111]⟩,val:=Eu X 1,born:=0 },{ key:=.string ⟨#[114,97,110,107]⟩,val:=Eu X 2,born:=1 },{ key:=.string ⟨#[100,117,101]⟩,val:=Eu X 3,born:=2 },{ key:=.string ⟨#[114,111,117,110,100]⟩,val:=Eu X 4,born:=3 },{ key:=.string ⟨#[102,97,105,114]⟩,val:=Eu X 5,born:=4 }] 0=some (if k=0 then none else some (k-1,Eu X k)):=by
 have t:=JK kb;rw[h]at t;have J:k<=5:=by rw[<- h];exact Ew _
 have I:=beq_toListBytes kb ⟨#[102,105,102,111]⟩;have E:=beq_toListBytes kb ⟨#[114,97,110,107]⟩;have H:=beq_toListBytes kb ⟨#[100,117,101]⟩;have D:=beq_toListBytes kb ⟨#[114,111,117,110,100]⟩;have z:=beq_toListBytes kb ⟨#[102,97,105,114]⟩;rw[t.u1]at I;rw[t.u2]at E;rw[t.u3]at H;rw[t.u4]at D;rw[t.u5]at z;rcases(show k=0\/k=1\/k=2\/k=3\/k=4\/k=5 by omega)with rfl|rfl|rfl|rfl|rfl|rfl <;> simp only[Instr.findNow,Instr.sameNow,I,E,H,D,z] <;> rfl
theorem Tryz.sendersU:Tryz.prog.underlying 155=some (.map 9 154):=by kernel_rfl
theorem Tryz.strU:Tryz.prog.underlying 9=some .string:=by kernel_rfl
theorem Tryz.senderZero (w:World):(zeroValue 154).run Tryz.prog w=.ok .nilFunc w:=by kernel_rfl
theorem Nb.look {w:World}{M X:Nat}(D:Nb w M X)(kb:ByteArray){k:Nat}(E:kindOf kb.toList=k)(c:Bool):(Instr.lookup 155 (.map (some M)) (.string kb) c).run Tryz.prog w=.ok (if c then .tuple #[Eu X k,.bool (decide (k≠0))]else Eu X k) w:=by
 have h:=bi kb X k E;by_cases z:k=0
 · subst z;rw[if_pos rfl]at h;exact X0 Tryz.sendersU Tryz.strU D.obj kb .nilFunc (Tryz.senderZero w) h c
 rw[if_neg z]at h;have:=kr (P:=Tryz.prog) Tryz.sendersU Tryz.strU D.obj kb _ _ h c;rw[this];simp[z]
theorem Mf (v:Value)(w:World)(f:Nat)(h:v=.func (.func f) #[] #[]):Calls Tryz.prog 131 #[v] w fun e w'=>e=.returned (.func (.func 157) #[] #[.pointer (some ⟨w.heap.size,0,none⟩)])/\w'=w.alloc (.cells #[v] 180):=by
 subst h;go_in
 go_wp2
 go_ret;exact⟨rfl,rfl⟩
theorem YR (w:World):Calls Tryz.prog 106 #[] w fun e w'=>∃ M X,e=.returned (.map (some M))/\Nb w' M X/\zW w w':=by
 have am:Hid (∀ h,Calls Tryz.prog 131 #[.func (.func 132) #[] #[]] h fun e w'=>e=.returned (.func (.func 157) #[] #[.pointer (some ⟨h.heap.size,0,none⟩)])/\w'=h.alloc (.cells #[.func (.func 132) #[] #[]] 180)):=fun h=>Mf _ h _ rfl
 have J:zW w (w.alloc (.map #[] 0)):=ba;have z:zW w ((w.alloc (.map #[] 0)).alloc (.cells #[.func (.func 132) #[] #[]] 180)):=J.alloc J.size _;have H:((w.alloc (.map #[] 0)).alloc (.cells #[.func (.func 132) #[] #[]] 180)).heap[w.heap.size]? = some (.map #[] 0):=(((y6 (w.alloc (.map #[] 0)).heap.size (w.alloc (.map #[] 0))).alloc lr (.cells #[.func (.func 132) #[] #[]] 180)).block w.heap.size (by simp)).trans (by show(w.heap.push (Obj.map #[] 0))[w.heap.size]? = some (Obj.map #[] 0);simp);have D:((w.alloc (.map #[] 0)).alloc (.cells #[.func (.func 132) #[] #[]] 180)).cell? ⟨w.heap.size+1,0,none⟩=some (.func (.func 132) #[] #[]):=by simp
 have aj:(w.alloc (.map #[] 0)).heap.size=w.heap.size+1:=by simp
 obtain⟨ao,I⟩:=ex ((w.alloc (.map #[] 0)).alloc (.cells #[.func (.func 132) #[] #[]] 180));rw[I]at z H D;obtain⟨a0,ap,ad,O⟩:=gY Tryz.sendersU Tryz.strU H ⟨#[102,105,102,111]⟩ (.func (.func 157) #[] #[.pointer (some ⟨w.heap.size+1,0,none⟩)]) (by kernel_rfl);obtain⟨aE,aB,ab,V⟩:=gY Tryz.sendersU Tryz.strU ad ⟨#[114,97,110,107]⟩ (.func (.func 133) #[] #[]) (by kernel_rfl);obtain⟨an,aN,N,Q⟩:=gY Tryz.sendersU Tryz.strU ab ⟨#[100,117,101]⟩ (.func (.func 134) #[] #[]) (by kernel_rfl);obtain⟨aS,ar,ac,K⟩:=gY Tryz.sendersU Tryz.strU N ⟨#[114,111,117,110,100]⟩ (.func (.func 135) #[] #[]) (by kernel_rfl);obtain⟨Y,av,W,Z⟩:=gY Tryz.sendersU Tryz.strU ac ⟨#[102,97,105,114]⟩ (.func (.func 136) #[] #[]) (by kernel_rfl);have E:=(((O.trans V).trans Q).trans K).trans Z;have U:Hid (Nb Y w.heap.size (w.heap.size+1)/\zW w Y):=by
  refine⟨⟨W,?_⟩,z.trans (E.below z.size fun k al=>by rw[al];exact lr)⟩;rw[E.cell (p:=⟨w.heap.size+1,0,none⟩) (Cg D) (by show ¬w.heap.size+1=w.heap.size;omega)];exact D
 have aq:=@run_makeMap Tryz.prog;have ai:=qX I;clear J z H D ad ab N ac W O V Q K Z E I;go_in
 go_wp2_with fail;refine(am.o _).mono ?_
 rintro e aw ⟨rfl,rfl⟩;rw[aj,ai.o];go_wp2
 go_ret;exact⟨_,_,rfl,U.o.1,U.o.2⟩
theorem cK (h x:Int)(g:Nat)(w:World)(D:w.cell? ⟨g,0,none⟩=some (.int .i64 h))(z:0<=x/\x<=h):Calls Tryz.prog 193 #[.int .i64 x,.pointer (some ⟨g,0,none⟩)] w fun e w'=>e=.returned (.bool true)/\w'=w:=by
 obtain⟨H,E⟩:=z;go_in
 go_wp2
 go_ret;exact⟨rfl,rfl⟩
theorem jg (z x:Int)(g:Nat)(w:World)(H:w.cell? ⟨g,0,none⟩=some (.int .i64 z))(h:¬(0<=x/\x<=z)):Calls Tryz.prog 193 #[.int .i64 x,.pointer (some ⟨g,0,none⟩)] w fun e w'=>e=.returned (.bool false)/\w'=w:=by
 by_cases D:0<=x
 ·
  have I:¬x<=z:=fun E=>h ⟨D,E⟩
  clear h;go_in
  go_wp2
  go_ret;exact⟨rfl,rfl⟩
 clear h;go_in
 go_wp2
 go_ret;exact⟨rfl,rfl⟩
theorem FM (a:oA)(n cap:Nat)(f:Value)(w:World)(h:Nat->Addr)(H:n≠8)(E:w.cell? ⟨3,0,none⟩=some (.iface 308 (.pointer (some (h 2))))):Calls Tryz.prog 165 #[.slice a n cap,f] w fun e w'=>e=.returned (.iface 308 (.pointer (some (h 2))))/\w'=w:=by
 have z:(n:Int)≠8:=by omega
 have D:((n:Int)==8)=false:=by simpa using z
 go_in
 go_wp2
 go_ret;exact⟨rfl,rfl⟩
theorem KH (a:oA)(cap:Nat)(ns:List Int)(z:Int)(g:Nat)(w:World)(J:Nat->Addr)(E:w.cell? ⟨g,0,none⟩=some (.int .i64 z))(H:AR w a ns)(K:ns.length=8)(j:Nat)(ai:j<=8)(N:∀(i:Nat) y,i<j->ns[i]? = some y->0<=y/\y<=z)(R:Value)
  (I:(j=8/\R=.nilIface)\/(R=.iface 308 (.pointer (some (J 1)))/\w.cell? ⟨0,0,none⟩=some (.iface 308 (.pointer (some (J 1))))/\∃ x,ns[j]? = some x/\¬(0<=x/\x<=z))) :
  Calls Tryz.prog 165 #[.slice a 8 cap,.func (.func 193) #[] #[.pointer (some ⟨g,0,none⟩)]] w fun e w'=>e=.returned R/\w'=w:=by
 have Y:=qX N;have ad:=qX I;obtain⟨b,aj,rfl,-,Q⟩:=H.place (by omega);have U:=qX Q;have O:=qX K;clear N I H Q K;go_in
 go_wp2_with fail;go_loopw [13] (fun i wr=>∃ k:Nat,k<=j/\i=.int .i64 k/\wr=w) (fun i _=>8-(intOf i).toNat)
 case atStart=>exact⟨0,qR _,rfl,rfl⟩
 case round=>
  obtain⟨k,al,rfl,rfl⟩:=hrel;by_cases Z:k<j
  ·
   obtain⟨x,h,-⟩:=Ab ns k (by rw[O.o];omega);have W:=Y.o k x Z h;have V:=U.o k x h;clear h;go_wp2_with fail;refine(cK z x g _ E W).mono ?_
   rintro e ab ⟨rfl,rfl⟩;go_wp2
   go_roundw
   case rel=>exact⟨k+1,by omega,by go_num,trivial⟩
   case measure=>simp[intOf];omega
  obtain rfl:k=j:=by omega
  rcases ad.o with⟨rfl,rfl⟩|⟨rfl,an,x,h,ac⟩
  ·
   go_wp2
   go_ret;exact⟨rfl,rfl⟩
  have V:=U.o k x h;have am:k<8:=by
   rw[<- O.o];rcases qC k ns.length with D|D
   · exact D
   simp[qH D]at h
  clear h;go_wp2_with fail;refine(jg z x g _ E ac).mono ?_
  rintro e ab ⟨rfl,rfl⟩;go_wp2
  go_ret;exact⟨rfl,rfl⟩
def KD (w:World)(h:Nat->Addr):Prop:=w.cell? ⟨0,0,none⟩=some (.iface 308 (.pointer (some (h 1))))/\w.cell? ⟨3,0,none⟩=some (.iface 308 (.pointer (some (h 2))))
theorem KD.below {w w':World}{z:Nat->Addr}(h:KD w z)(D:zW w w'):KD w' z:=⟨j7 D h.1,j7 D h.2⟩
theorem I5 {R:Value}(a:oA)(n cap:Nat)(h:Int)(w:World)(z:Calls Tryz.prog 165 #[.slice a n cap,.func (.func 193) #[] #[.pointer (some ⟨w.heap.size,0,none⟩)]] (w.alloc (.cells #[.int .i64 h] 3)) fun e w'=>e=.returned R/\w'=w.alloc (.cells #[.int .i64 h] 3)):Calls Tryz.prog 161 #[.slice a n cap,.int .i64 h] w fun e w'=>e=.returned R/\zW w w':=by
 have D:=qX z;clear z;go_in
 go_wp2_with fail;refine D.o.mono ?_
 rintro e E ⟨rfl,rfl⟩;go_wp2
 go_ret;exact⟨rfl,ba⟩
theorem M7 (a:oA)(cap:Nat)(ns:List Int)(h:Int)(w:World)(E:AR w a ns)(z:DF 0 h ns):qW 161 #[.slice a ns.length cap,.int .i64 h] w .nilIface:=by
 have D:zW w (w.alloc (.cells #[.int .i64 h] 3)):=ba;rw[z.len];exact I5 a 8 cap h w (KH a cap ns h w.heap.size _ (fun _=>⟨0,0,none⟩) (by simp) (E.below D) z.len 8 lr (fun i y _ H=>z.each i y H) .nilIface (.inl ⟨rfl,rfl⟩))
theorem LX (a:oA)(cap:Nat)(ns:List Int)(h:Int)(w:World)(D:Nat->Addr)(J:KD w D)(N:AR w a ns)(c:Nat)(Q:Bt 0 h ns c)(U:0<c):qW 161 #[.slice a ns.length cap,.int .i64 h] w (Fy D c):=by
 have H:zW w (w.alloc (.cells #[.int .i64 h] 3)):=ba;rcases Q with⟨rfl,z⟩|⟨rfl,j,z,E,K⟩|⟨rfl,-⟩
 · exact I5 a _ cap h w (FM a _ cap _ _ D z (J.below H).2)
 ·
  rw[z];have O:j<=8:=by
   obtain⟨x,E,-⟩:=E;rw[<- z];rcases qC j ns.length with I|I
   · exact x9 I
   simp[qH I]at E
  exact I5 a 8 cap h w (KH a cap ns h w.heap.size _ D (by simp) (N.below H) z j O K _ (.inr ⟨rfl,(J.below H).1,E⟩))
 omega
theorem X5 (x:Int)(w:World)(z:KT x):Calls Tryz.prog 201 #[.int .i64 x] w fun e w'=>e=.returned (.bool true)/\w'=w:=by
 obtain⟨E,h⟩:=z;have D:(12%x==0)=true:=by simpa using h
 clear h;go_in
 go_wp2
 go_ret;exact⟨rfl,rfl⟩
theorem aH (x:Int)(w:World)(h:¬KT x):Calls Tryz.prog 201 #[.int .i64 x] w fun e w'=>e=.returned (.bool false)/\w'=w:=by
 by_cases D:1<=x
 ·
  have E:(12%x==0)=false:=by simpa using fun z=>h ⟨D,z⟩
  clear h;go_in
  go_wp2
  go_ret;exact⟨rfl,rfl⟩
 clear h;go_in
 go_wp2
 go_ret;exact⟨rfl,rfl⟩
theorem KN (a:oA)(cap:Nat)(ns:List Int)(w:World)(H:Nat->Addr)(D:AR w a ns)(I:ns.length=8)(j:Nat)(ac:j<=8)(J:∀(i:Nat) y,i<j->ns[i]? = some y->KT y)(R:Value)
  (E:(j=8/\R=.nilIface)\/(R=.iface 308 (.pointer (some (H 1)))/\w.cell? ⟨0,0,none⟩=some (.iface 308 (.pointer (some (H 1))))/\∃ x,ns[j]? = some x/\¬KT x)) :
  Calls Tryz.prog 165 #[.slice a 8 cap,.func (.func 201) #[] #[]] w fun e w'=>e=.returned R/\w'=w:=by
 have V:=qX J;have ab:=qX E;obtain⟨b,ad,rfl,-,N⟩:=D.place (by omega);have O:=qX N;have K:=qX I;clear J E D N I;go_in
 go_wp2_with fail;go_loopw [13] (fun i wr=>∃ k:Nat,k<=j/\i=.int .i64 k/\wr=w) (fun i _=>8-(intOf i).toNat)
 case atStart=>exact⟨0,qR _,rfl,rfl⟩
 case round=>
  obtain⟨k,ai,rfl,rfl⟩:=hrel;by_cases W:k<j
  ·
   obtain⟨x,h,-⟩:=Ab ns k (by rw[K.o];omega);have U:=V.o k x W h;have Q:=O.o k x h;clear h;go_wp2_with fail;refine(X5 x _ U).mono ?_
   rintro e Y ⟨rfl,rfl⟩;go_wp2
   go_roundw
   case rel=>exact⟨k+1,by omega,by go_num,trivial⟩
   case measure=>simp[intOf];omega
  obtain rfl:k=j:=by omega
  rcases ab.o with⟨rfl,rfl⟩|⟨rfl,al,x,h,Z⟩
  ·
   go_wp2
   go_ret;exact⟨rfl,rfl⟩
  have Q:=O.o k x h;have aj:k<8:=by
   rw[<- K.o];rcases qC k ns.length with z|z
   · exact z
   simp[qH z]at h
  clear h;go_wp2_with fail;refine(aH x _ Z).mono ?_
  rintro e Y ⟨rfl,rfl⟩;go_wp2
  go_ret;exact⟨rfl,rfl⟩
theorem OW (a:oA)(cap:Nat)(ns:List Int)(w:World)(D:AR w a ns)(h:Gd ns):Calls Tryz.prog 165 #[.slice a ns.length cap,.func (.func 201) #[] #[]] w fun e w'=>e=.returned .nilIface/\w'=w:=by
 rw[h.len];exact KN a cap ns w (fun _=>⟨0,0,none⟩) D h.len 8 lr (fun i y _ z=>h.each i y z) _ (.inl ⟨rfl,rfl⟩)
theorem NN (a:oA)(cap:Nat)(ns:List Int)(w:World)(h:Nat->Addr)(E:KD w h)(I:AR w a ns)(c:Nat)(J:Ee ns c)(N:0<c):Calls Tryz.prog 165 #[.slice a ns.length cap,.func (.func 201) #[] #[]] w fun e w'=>e=.returned (Fy h c)/\w'=w:=by
 rcases J with⟨rfl,z⟩|⟨rfl,j,z,⟨x,D,H⟩,K⟩|⟨rfl,-⟩
 · exact FM a ns.length cap _ w h z E.2
 · rw[z];exact KN a cap ns w h I z j (by have:=Af D;omega) K _ (.inr ⟨rfl,E.1,x,D,H⟩)
 omega
theorem PE {w:World}{h:Nat->Addr}(z:A8 w h){H:Int}{ns:List Int}{c:Nat}(E:Bt 0 H ns c)(I:0<c):∃ D v,Fy h c=.iface D v/\Ba w (.iface D v) c (-1):=by
 rcases E with⟨rfl,-⟩|⟨rfl,-⟩|⟨rfl,-⟩
 · exact⟨_,_,rfl,Bo z 2 (by decide)⟩
 · exact⟨_,_,rfl,Bo z 1 (by decide)⟩
 omega
theorem A8.nums {w:World}{h:Nat->Addr}(z:A8 w h):KD w h:=⟨z.c1,z.c2⟩
theorem Wx {w:World}{h:Nat->Addr}(z:A8 w h){E I:Int}{ns:List Int}{c:Nat}(H:Bt E I ns c)(J:0<c):∃ D v,Fy h c=.iface D v/\Ba w (.iface D v) c (-1):=by
 rcases H with⟨rfl,-⟩|⟨rfl,-⟩|⟨rfl,-⟩
 · exact⟨_,_,rfl,Bo z 2 (by decide)⟩
 · exact⟨_,_,rfl,Bo z 1 (by decide)⟩
 omega
end Go.Proofs.YtejlihcdfffafaaGreatDoor
