import Derived.Deep.RegionHeld3
import Derived.Test.YtejlihcdfffafaaGreatDoorP29
import Derived.Test.YtejlihcdfffafaaGreatDoorP16
import Derived.Maps.AppendAt
set_option maxHeartbeats 2000000
set_option maxRecDepth 100000
namespace Go.Proofs.YtejlihcdfffafaaGreatDoor
open Go.RowKit
theorem Tu (K:oA)(J:Nat)(cs:List lI)(kb:ByteArray)(per:Int)(E:oA)(H:Nat)(ns:List Int)(N:oA)(Q:Nat)(ps:List Pk)(w:World)(c p:Int)(I:DT w K J cs E H ns)(O:CU w N Q ps)(h:KG cs (kindOf kb.toList) per ns ps c p)(W:0<c):Calls Tryz.prog 19 #[.agg #[.slice K cs.length J,.string kb,.int .i64 per,.slice E ns.length H],.slice N ps.length Q] w fun e w'=>X3 c p w e w':=by
 have V:=I.slim;have aj:=V.curves;have al:=V.nums;rcases h with⟨h,-⟩|⟨D,h,-⟩|⟨D,ab,i,Y,ac,rfl,rfl⟩|⟨-,-,-,h,-⟩
 · exact RD K _ J kb per E _ H N _ Q w c p W fun U z=>Fv K J cs kb per E H ns U c p (I.curves.below z) (by omega) (I.nums.below z) (by omega) h
 · exact Tk K _ J kb per E _ H N _ Q w c p W (fun U z=>Fv K J cs kb per E H ns U 0 (-1) (I.curves.below z) (by omega) (I.nums.below z) (by omega) (.inr (.inr ⟨D.len,D.curves,rfl,.inr ⟨D.kind.1,D.kind.2,.inr ⟨D.per.1,D.per.2,0,D.nums,rfl⟩⟩⟩))) (fun U z=>Nz N Q ps U (O.pks.below z) O.cap O.max c p h)
 ·
  refine(Ma K J cs kb per E H ns N Q ps w I.curves I.nums (by omega) O.pks O.cap O.max ab D).mono ?_
  rintro e w' ⟨z,⟨j,ad,Z,rfl⟩|⟨ai,-⟩⟩
  ·
   have:i=j:=by
    rcases yN i j with h|h|h
    · exact absurd Y (Z i h)
    · exact h
    exact absurd ad (ac j h)
   rw[this];exact⟨rfl,z⟩
  exact absurd Y (ai i)
 omega
def jr (h z:Int->lI->Option Int->Prop)(k:Nat)(per:Int)(L:lI)(o:Option Int):Prop:=(k=1/\h per L o)\/(k≠1/\z per L o)
def Df (S:lI->lI->Int->lI->Prop)(h z:Int->lI->Option Int->Prop)(cs:List lI)(k:Nat)(per:Int)(o:Option Int):Prop:=(Iz S cs/\o=none)\/∃ L,EH S cs L/\jr h z k per L o
def NumEnd (o:Option Int)(w:World)(e:Ending)(w':World):Prop:=zW w w'/\((o=none/\∃ h,e=.returned (.tuple #[.int .i64 0,h])/\Ba w' h 4 (-1))\/∃ n,o=some n/\e=.returned (.tuple #[.int .i64 n,.nilIface]))
structure Yh (S:lI->lI->Int->lI->Prop)(Dd Db:Int->lI->Option Int->Prop):Prop where
 way:Jf S
 sumOf:∀(a1 a2:oA)(cap1 cap2:Nat)(la lb:lI)(w:World),AQ w a1 la->AQ w a2 lb->Ak la->Ak lb->Calls Tryz.prog 37 #[.slice a1 la.length cap1,.slice a2 lb.length cap2] w fun e w'=>∃ a cap code L,e=.returned (.tuple #[.slice a L.length cap,.int .i64 code])/\S la lb code L/\AQ w' a L/\L.length<=cap/\cap<=maxLen/\zW w w'
 delay1:∀ per L o o',Ak L->1<=per->per<=1000->Dd per L o->Dd per L o'->o=o'
 busy1:∀ per L o o',Ak L->1<=per->per<=1000->Db per L o->Db per L o'->o=o'
 delay:∀(a:oA)(cap:Nat)(L:lI)(per:Int)(w:World)(ad:Nat->Addr),A8 w ad->AQ w a L->L.length<=cap->cap<=maxLen->Ak L->1<=per->per<=1000->Calls Tryz.prog 28 #[.slice a L.length cap,.int .i64 per] w fun e w'=>∃ o,Dd per L o/\NumEnd o w e w'
 busy:∀(a:oA)(cap:Nat)(L:lI)(per:Int)(w:World)(ad:Nat->Addr),A8 w ad->AQ w a L->L.length<=cap->cap<=maxLen->Ak L->1<=per->per<=1000->Calls Tryz.prog 29 #[.slice a L.length cap,.int .i64 per] w fun e w'=>∃ o,Db per L o/\NumEnd o w e w'
 bad:∀(ca:oA)(ccap:Nat)(cs:List lI)(kb:ByteArray)(per:Int)(na:oA)(ncap:Nat)(ns:List Int)(w:World)(ad:Nat->Addr)(c p:Int),A8 w ad->DT w ca ccap cs na ncap ns->Ea cs (kindOf kb.toList) per ns c p->0<c ->
  Calls Tryz.prog 58 #[.agg #[.slice ca cs.length ccap,.string kb,.int .i64 per,.slice na ns.length ncap]] w fun e w'=>∃ E,e=.returned (.tuple #[.int .i64 0,E])/\Ba w' E c p/\zW w w'
 good:∀(ca:oA)(ccap:Nat)(cs:List lI)(kb:ByteArray)(per:Int)(na:oA)(ncap:Nat)(ns:List Int)(w:World)(ad:Nat->Addr),A8 w ad->DT w ca ccap cs na ncap ns->GA cs (kindOf kb.toList) per ns ->
  Calls Tryz.prog 58 #[.agg #[.slice ca cs.length ccap,.string kb,.int .i64 per,.slice na ns.length ncap]] w fun e w'=>∃ o,Df S Dd Db cs (kindOf kb.toList) per o/\NumEnd o w e w'
theorem Ul {S:lI->lI->Int->lI->Prop}{H I:Int->lI->Option Int->Prop}(D:Jf S){cs:List lI}(E:Dm (Ae cs)){k:Nat}{per:Int}{o:Option Int}(h:Df S H I cs k per o)(z:Iz S cs):o=none:=by
 rcases h with⟨-,h⟩|⟨L,h,-⟩
 · exact h
 exact absurd z (h.no D E)
theorem Vf {S:lI->lI->Int->lI->Prop}{E H:Int->lI->Option Int->Prop}(z:Jf S){cs:List lI}(D:Dm (Ae cs)){k:Nat}{per:Int}{o:Option Int}{L:lI}(h:Df S E H cs k per o)(I:EH S cs L):jr E H k per L o:=by
 rcases h with⟨J,-⟩|⟨N,h,K⟩
 · exact absurd J (I.no z D)
 rw[I.one z D h];exact K
def El (x:Int×Int):lI->Bool
 | []=>false
 | [t]=>decide (x.1<=t.1)
 | t::u::_=>decide (x.1<=t.1) || decide ((x.1-t.1)*(u.2-t.2)<=(t.1-u.1)*(t.2-x.2))
def C8 (x:Int×Int):lI->lI
 | []=>[]
 | t::r=>if El x (t::r)=true then C8 x r else t::r
def EU:lI->lI->lI
 | T,[]=>T
 | T,x::r=>EU (x::C8 x T) r
theorem jm {a b:Int}(H : -20000<=a)(D:a<=20000)(E : -100000<=b)(I:b<=100000) : -2000000000<=a*b/\a*b<=2000000000:=by
 have J:=Int.natAbs_mul a b;have z:a.natAbs<=20000:=by omega
 have h:b.natAbs<=100000:=by omega
 have:=Nat.mul_le_mul z h;omega
theorem XC (a:oA)(cap:Nat)(T:lI)(x:Int×Int)(w:World)(W:AQ w a T.reverse)(Y:1<=T.length)(N:T.length<=1000)(H:Ci T)(Q:BM x.1 x.2=true):Calls Tryz.prog 172 #[.slice a T.length cap,.agg #[.int .i64 x.1,.int .i64 x.2]] w fun e w'=>e=.returned (.bool (El x T))/\zW w w':=by
 obtain⟨b,Z,rfl,a7,E⟩:=W.some (by simpa using Y);clear W;obtain⟨D,K⟩:=x;obtain⟨av,ao,aw,ad⟩:=AA Q;simp only[]at av ao aw ad
 match T,Y,N,H,E with
 | [t],_,_,H,E=>
  obtain⟨h,z⟩:=t;have c:=E 0 h z rfl;have a3:w.cell? ⟨b,Z,none⟩=some (.int .i64 h):=by simpa using c.1
  have aB:w.cell? ⟨b,Z+1,none⟩=some (.int .i64 z):=by simpa using c.2
  have J:Hid (El (D,K) [(h,z)]=decide (D<=h)):=rfl;clear E c H Q;by_cases O:D<=h
  ·
   go_in
   go_wp2
   go_ret;exact⟨congrArg (fun I=>Ending.returned (.bool I)) (by rw[J.o];exact(qM O).symm),ba.alloc (by simp) _⟩
  go_in
  go_wp2
  go_ret;exact⟨congrArg (fun I=>Ending.returned (.bool I)) (by rw[J.o];exact(qF (by omega)).symm),ba.alloc (by simp) _⟩
 | t::u::r,_,N,H,E=>
  obtain⟨h,z⟩:=t;obtain⟨u1,u2⟩:=u;obtain⟨ar,aj,aq,al⟩:=AA (H _ (qA ..));obtain⟨am,ap,an,ai⟩:=AA (H _ (qG _ (qA ..)));simp only[]at ar aj aq al am ap an ai;have U:((h,z)::(u1,u2)::r).reverse=r.reverse++[(u1,u2),(h,z)]:=by simp
  have ab:=E (r.length+1) h z (by rw[U];simp);have ac:=E r.length u1 u2 (by rw[U];simp);obtain⟨m,V⟩:=ex r.length;rw[V]at ab ac;rw[show((h,z)::(u1,u2)::r).length=m+2 by simp[V]];have aN:m<=998:=by simp at N;omega
  have J:Hid (El (D,K) ((h,z)::(u1,u2)::r)=(decide (D<=h) || decide ((D-h)*(u2-z)<=(h-u1)*(z-K)))):=rfl;obtain⟨a5,aE⟩:=ab;obtain⟨a1,a0⟩:=ac;obtain⟨a4,aS⟩:=jm (show -20000<=D-h by omega) (show D-h<=20000 by omega) (show -100000<=u2-z by omega) (show u2-z<=100000 by omega);obtain⟨a2,a6⟩:=jm (show -20000<=h-u1 by omega) (show h-u1<=20000 by omega) (show -100000<=z-K by omega) (show z-K<=100000 by omega);clear E H Q U V N;by_cases O:D<=h
  ·
   go_in
   go_wp2
   go_ret;exact⟨congrArg (fun I=>Ending.returned (.bool I)) (by rw[J.o,qM O];rfl),ba.alloc (by simp) _⟩
  go_in
  go_wp2
  go_ret;exact⟨congrArg (fun I=>Ending.returned (.bool I)) (by rw[J.o,qF (show ¬D<=h by omega),Bool.false_or]),(ba.alloc (by simp) _).alloc (by simp;omega) _⟩
theorem Z7 (l:lI):∀(T:lI)(x:Int×Int),EU T (l++[x])=x::C8 x (EU T l):=by
 induction l with
 | nil=>intro T x;rfl
 | cons y r h=>intro T x;exact h _ x
theorem Hg (x:Int×Int)(T:lI):∀ p,p∈C8 x T->p∈T:=by
 induction T with
 | nil=>intro p h;exact h
 | cons t r z=>
  intro p h;unfold C8 at h;split at h
  · exact qG _ (z p h)
  exact h
theorem gU (x:Int×Int)(T:lI):(C8 x T).length<=T.length:=by
 induction T with
 | nil=>exact lr
 | cons t r h=>
  unfold C8;split
  · simp;omega
  exact lr
theorem PP (l:lI):∀ T p,p∈EU T l->p∈T\/p∈l:=by
 induction l with
 | nil=>intro T p z;exact .inl z
 | cons x r D=>
  intro T p z;rcases D (x::C8 x T) p z with h|h
  ·
   rcases qS.1 h with rfl|h
   · exact .inr (qA ..)
   exact .inl (Hg x T p h)
  exact .inr (qG _ h)
theorem Vy (l:lI):∀ T,(EU T l).length<=T.length+l.length:=by
 induction l with
 | nil=>intro T;exact lr
 | cons x r h=>
  intro T;have:=h (x::C8 x T);have:=gU x T;show(EU (x::C8 x T) r).length<=_
  simp at *
  omega
theorem VL {w w':World}{b:Nat}{o:Obj}(D:zW w w')(z:w.heap[b]? = some o):w'.heap[b]? = some o:=by
 rw[D.block b ?_];exact z;rcases qC b w.heap.size with h|h
 · exact h
 simp[vX h]at z
theorem Bn.later {w w':World}{B:Nat}{v:Value}{ls:lI}(I:Bn w B v ls)(z:zW w w'):Bn w' B v ls:=by
 obtain⟨h,E|⟨g,cap,J,D,H,K,r⟩⟩:=I
 · exact⟨h,.inl E⟩
 exact⟨h,.inr ⟨g,cap,J,D,H,VL z K,r⟩⟩
theorem Bn.pop {w:World}{B g cap:Nat}{t:Int×Int}{r:lI}(h:Bn w B (.slice (some ⟨g,0,none⟩) (r.length+1) cap) (t::r).reverse):Bn w B (.slice (some ⟨g,0,none⟩) r.length cap) r.reverse:=by
 unfold Bn at *;rw[List.reverse_cons,G6,qJ,xJ]at h;rw[xJ];exact ownsRow_pop (by rw[G7,xJ]) h
theorem Bn.push {w:World}{B:Nat}{v:Value}{T:lI}{x y:Int}(h:w.ownsRow B 66 2 v (T.length+1) (AL T.reverse++[.int .i64 x,.int .i64 y])):Bn w B v ((x,y)::T).reverse:=by
 unfold Bn;rw[List.reverse_cons,G6,qJ,xJ];exact h
theorem Bn.grownT {w0 w w':World}{v:Value}{ls:lI}(h:zW w0 w)(z:Bn w w0.heap.size v ls)(E:w.grownBy w' v.ownBlock):zW w0 w':=
 h.grown E h.size fun k D=>(World.ownsRow.lt z k D).1
theorem F3 (x y:Int):∀ u∈[Value.int .i64 x,.int .i64 y],u.oneCell'=true:=by
 intro u h;simp at h
 rcases h with rfl|rfl <;> rfl
theorem FU (w:World)(x y:Int):∀ j u,[Value.int .i64 x,.int .i64 y][j]? = some u->(w.alloc (.cells #[.int .i64 x,.int .i64 y] 66)).cell? ((⟨w.heap.size,0,none⟩:Addr).add j)=some u:=by
 intro j u h
 match j,h with
 | 0,h=>simp at h;subst h;simp[Addr.add]
 | 1,h=>simp at h;subst h;simp[Addr.add]
 | j+2,h=>simp at h
theorem aC (ad:Addr)(cap:Nat)(ls:lI)(w:World)(hl:AQ w (some ad) ls)(h1:1<=ls.length)(hn:ls.length<=500)(hok:Ci ls):Calls Tryz.prog 139 #[.slice (some ad) ls.length cap] w fun e w'=>∃ v ls',e=.returned v/\ls'.Perm ls/\DR ls'/\Bn w' w.heap.size v (EU [] ls').reverse/\zW w w':=by
 have HC:=(show Hid (Calls Tryz.prog 171 #[.slice (some ad) ls.length cap] w fun e w'=>∃ g cap' ls',e=.returned (.slice (some ⟨g,0,none⟩) ls'.length cap')/\ls'.Perm ls/\DR ls'/\AQ w' (some ⟨g,0,none⟩) ls'/\zW w w')from U2 ad cap ls w hl h1 (by omega))
 have HO:=qX hok;obtain⟨i0,hi,hz0,hz1,hz2⟩:=vL Tryz.infoLine;clear hl hok;go_in
 go_wp2_with fail;refine HC.o.mono ?_
 rintro e W ⟨g,cap',ls',rfl,hp,hs,hl',hbW⟩;have hlen:ls'.length<=500:=by rw[hp.length_eq];exact hn
 have HP:=qZ hp hs hbW;have HO':Hid (Ci ls'):=fun p hp'=>HO.o p (hp.mem_iff.1 hp')
 have HL:=qX hl';clear hp hs hl' hbW;go_wp2_with fail;go_loopg [3,9] ls'.length (fun gk v i wr=>∃ k:Nat,gk+k=ls'.length/\i=.int .i64 k/\Bn wr W.heap.size v (EU [] (ls'.take k)).reverse/\zW W wr)
 case atStart=>exact⟨0,rfl,rfl,qQ _ _ _ _,br⟩
 case round=>
  obtain⟨k,hgk,rfl,hown,hbr⟩:=hrel;have HBR:=qX hbr;by_cases hkn:k<ls'.length
  ·
   obtain⟨⟨x,y⟩,hp,hmem⟩:=Ab ls' k hkn;obtain⟨b,off,hge,hlt,hc⟩:=HL.o.some (by omega);injection hge with hge
   injection hge with hb1 hb2
   subst hb1 hb2;have c1:wr.cell? ⟨g,k*2,none⟩=some (.int .i64 x):=by have:=j7 hbr (hc k x y hp).1;simpa using this
   have c2:wr.cell? ⟨g,k*2+1,none⟩=some (.int .i64 y):=by have:=j7 hbr (hc k x y hp).2;simpa using this
   have HX:=qX (HO'.o _ hmem);have hts:ls'.take (k+1)=ls'.take k++[(x,y)]:=by rw[vF,hp];rfl
   have HS:Hid (EU [] (ls'.take (k+1))=(x,y)::C8 (x,y) (EU [] (ls'.take k))):=by show _=_;rw[hts];exact Z7 _ _ _
   have hTok:Ci (EU [] (ls'.take k)):=fun p hp'=>by
    rcases PP _ _ p hp' with h|h
    · cases h
    exact HO'.o p (yM h)
   have hTlen:(EU [] (ls'.take k)).length<=500:=by have:=Vy (ls'.take k) [];rw[vO]at this;simp at this;omega
   generalize EU [] (ls'.take k)=T0 at *;obtain⟨a0,n0,k0,rfl⟩:∃ a0 n0 k0,u3=.slice a0 n0 k0:=by obtain⟨a,c,e,_⟩:=hown.open;exact⟨_,_,_,e⟩
   have HT:=qY hTok hTlen;have hb1:zW wr (wr.alloc (.cells #[.int .i64 x,.int .i64 y] 66)):=ba;have hx1:(wr.alloc (.cells #[.int .i64 x,.int .i64 y] 66)).cell? ⟨wr.heap.size,0,none⟩=some (.int .i64 x):=by simp
   have hx2:(wr.alloc (.cells #[.int .i64 x,.int .i64 y] 66)).cell? ⟨wr.heap.size,1,none⟩=some (.int .i64 y):=by simp
   have hown1:=hown.later hb1;have hbr1:=hbr.tr hb1;clear hc hp hmem hts hTok hTlen hown hbr;go_wp2_with fail;generalize wr.alloc (.cells #[.int .i64 x,.int .i64 y] 66)=W1 at *;have HX1:=qY hx1 hx2;have HBR1:=qX hbr1;have HOW1:=qX hown1;clear hx1 hx2 hbr1 hown1 hb1;obtain⟨GK,rfl⟩:∃ z,z=gk:=⟨gk,rfl⟩
   obtain⟨wO,rfl⟩:∃ z,z=wr:=⟨wr,rfl⟩
   go_loopg [3] T0.length (fun gi v wr2=>∃ T a1 k1,gi=T.length/\v=.slice a1 T.length k1/\Bn wr2 W.heap.size v T.reverse/\C8 (x,y) T=C8 (x,y) T0/\Ci T/\T.length<=500/\zW W1 wr2)
   case atStart=>
    obtain⟨a,c,e,_⟩:=HOW1.o.open;injection e with e1 e2 e3
    rw[xJ]at e2;subst e2;exact⟨T0,a0,k0,rfl,rfl,HOW1.o,rfl,HT.o.1,HT.o.2,br⟩
   case round=>
    obtain⟨T,a1,k1,hgi,rfl,hown2,hpop,hTok,hTlen,hb2⟩:=hrel;have HPop:=qX hpop;have HB12:=qX hb2;have HB2:=qX (HBR1.o.tr hb2);have HTok:=qX hTok;have y1:=j7 hb2 HX1.o.1;have y2:=j7 hb2 HX1.o.2;have HOW:=qX hown2;clear hpop hb2 hTok hown2
    match T,hgi,hTlen,HPop,HTok,HOW with
    | [],hgi,hTlen,HPop,HTok,HOW=>
     have HOWr:=qX HOW.o;go_wp2_with (at_builtin;refine wpList_append_own _ rfl _ _ 54 rfl W.heap.size 66 i0 (.agg #[.int .i64 0,.int .i64 0]) 2 16 Tryz.underlying54 hi hz0 hz1 hz2 rfl (by decide) (.slice a1 0 k1) 0 (AL ([]:lI).reverse) rfl (HOWr.o.alloc _) ⟨wr.heap.size,0,none⟩ 1 1 [.int .i64 x,.int .i64 y] rfl rfl (FU wr x y) (F3 x y) (by unfold maxLen;omega) (by omega) (qI HB2.o.size (by simp)) ?_;intro v3 w3 hown3 hgrow3 _)
     have HB3:Hid (zW W w3):=Bn.grownT (ls:=([]:lI).reverse) (HB2.o.alloc HB2.o.size _) (by unfold Bn;rw[xJ];exact HOWr.o.alloc _) hgrow3;have HO3:=qX (Bn.push hown3);obtain⟨a3,n3,k3,rfl⟩:∃ a3 n3 k3,v3=.slice a3 n3 k3:=by obtain⟨a,c,e,_⟩:=HO3.o.open;exact⟨_,_,_,e⟩
     clear hown3 hgrow3;go_wp2
     go_roundg (GK-1)
     case measure=>omega
     case rel=>exact⟨k+1,by omega,by go_num,by rw[HS.o,<- HPop.o,show C8 (x,y) []=[]from rfl];exact HO3.o,HB3.o⟩
    | t::r,hgi,hTlen,HPop,HTok,HOW=>
     have HOWr:Hid (wr.ownsRow W.heap.size 66 2 (.slice a1 (r.length+1) k1) (r.length+1) (AL (t::r).reverse)):=by have:=HOW.o;unfold Bn at this;rw[xJ]at this;exact this
     obtain⟨g1,cp1,hv1,hg1,hg2⟩:=World.ownsRow.form HOWr.o (Nat.succ_pos _);injection hv1 with hv1 _ hv3
     subst hv1 hv3;have hLies:=(Bn.lies HOW.o).2.2.2;have hcapk:(t::r).reverse.length<=k1/\k1<=maxLen:=⟨(Bn.lies HOW.o).2.1,(Bn.lies HOW.o).2.2.1⟩
     rw[xJ]at hcapk;obtain⟨hcap1,hcap2⟩:=hcapk;simp only[vH]at hcap1 hTlen;unfold maxLen at hcap2;have HCv:=(show Hid (qW 172 #[.slice (some ⟨g1,0,none⟩) (r.length+1) k1,.agg #[.int .i64 x,.int .i64 y]] wr (.bool (El (x,y) (t::r))))from XC (some ⟨g1,0,none⟩) k1 (t::r) (x,y) wr hLies (by simp) (by simp;omega) HTok.o HX.o)
     clear hLies;simp only[vH];cases hcov:El (x,y) (t::r)with
     | true=>
      have HV:=qX hcov;clear hcov;go_wp2_with fail;refine HCv.o.mono ?_
      rintro e w4 ⟨rfl,hb4⟩;rw[HV.o];have HB14:=qX (HB12.o.tr hb4);have HOW4:=qX (Bn.pop (HOW.o.later hb4));clear hb4;go_wp2
      go_roundg r.length
      case measure=>simp at hgi;omega
      case rel=>
       refine⟨r,some ⟨g1,0,none⟩,k1,rfl,?_,?_,?_,fun p hp=>HTok.o p (qG _ hp),by omega,HB14.o⟩
       · simp
       · simpa using HOW4.o
       rw[<- HPop.o];show C8 (x,y) r=C8 (x,y) (t::r)
       conv=>rhs;unfold C8
       rw[if_pos HV.o]
     | false=>
      have HV:=qX hcov;clear hcov;go_wp2_with fail;refine HCv.o.mono ?_
      rintro e w4 ⟨rfl,hb4⟩;rw[HV.o];have HB4:=qX (HB2.o.tr hb4);have z1:=j7 hb4 y1;have z2:=j7 hb4 y2;have HOW4:Hid (w4.ownsRow W.heap.size 66 2 (.slice (some ⟨g1,0,none⟩) (r.length+1) k1) (r.length+1) (AL (t::r).reverse)):=by have:=HOW.o.later hb4;unfold Bn at this;rw[xJ]at this;exact this
      clear hb4 y1 y2;go_wp2_with (at_builtin;refine wpList_append_own _ rfl _ _ 54 rfl W.heap.size 66 i0 (.agg #[.int .i64 0,.int .i64 0]) 2 16 Tryz.underlying54 hi hz0 hz1 hz2 rfl (by decide) (.slice (some ⟨g1,0,none⟩) (r.length+1) k1) (r.length+1) (AL (t::r).reverse) rfl (HOW4.o.alloc _) ⟨w4.heap.size,0,none⟩ 1 1 [.int .i64 x,.int .i64 y] rfl rfl (FU w4 x y) (F3 x y) (by unfold maxLen;omega) (by omega) (qI HB4.o.size (by simp)) ?_;intro v3 w3 hown3 hgrow3 _)
      have HB3:Hid (zW W w3):=Bn.grownT (ls:=(t::r).reverse) (HB4.o.alloc HB4.o.size _) (by unfold Bn;rw[xJ];exact HOW4.o.alloc _) hgrow3;have HO3:=qX (Bn.push hown3);obtain⟨a3,n3,k3,rfl⟩:∃ a3 n3 k3,v3=.slice a3 n3 k3:=by obtain⟨a,c,e,_⟩:=HO3.o.open;exact⟨_,_,_,e⟩
      clear hown3 hgrow3;go_wp2
      go_roundg (GK-1)
      case measure=>omega
      case rel=>exact⟨k+1,by omega,by go_num,by rw[HS.o,<- HPop.o,show C8 (x,y) (t::r)=t::r by unfold C8;rw[if_neg (by rw[HV.o];decide)]];exact HO3.o,HB3.o⟩
  have hk':k=ls'.length:=by omega
  subst hk';rw[xA]at hown;obtain⟨a0,n0,k0,rfl⟩:∃ a0 n0 k0,u3=.slice a0 n0 k0:=by obtain⟨a,c,e,_⟩:=hown.open;exact⟨_,_,_,e⟩
  have HOW:=qX hown;clear hown hbr;go_wp2
  go_ret;exact⟨_,ls',rfl,HP.o.1,HP.o.2.1,Bb HOW.o HP.o.2.2.size,HP.o.2.2.tr HBR.o⟩
def Gi (x:Int×Int)(h:lI):lI:=h.map fun y=>(x.1+y.1,x.2+y.2)
def BL (z h:lI):lI:=z.flatMap fun x=>Gi x h
theorem Sk (x:Int×Int)(h:lI)(y:Int×Int):Gi x (h++[y])=Gi x h++[(x.1+y.1,x.2+y.2)]:=by simp[Gi]
theorem P7 (z h:lI)(x:Int×Int):BL (z++[x]) h=BL z h++Gi x h:=by simp[BL]
theorem F6 (z h:lI):(BL z h).length=z.length*h.length:=by
 induction z with
 | nil=>simp[BL]
 | cons x r D=>
  have e:BL (x::r) h=Gi x h++BL r h:=by simp[BL]
  rw[e,qJ,D];simp[Gi,Nat.add_mul]
  omega
theorem Bn.snoc {w:World}{B:Nat}{v:Value}{T:lI}{x y:Int}(h:w.ownsRow B 66 2 v (T.length+1) (AL T++[.int .i64 x,.int .i64 y])):Bn w B v (T++[(x,y)]):=by
 unfold Bn;rw[G6,qJ];exact h
theorem YX (a1 a2:oA)(cap1 cap2:Nat)(la lb:lI)(w:World)(h1:AQ w a1 la)(h2:AQ w a2 lb)(n1:la.length<=6)(n2:lb.length<=6)(k1:Ci la)(k2:Ci lb):Calls Tryz.prog 138 #[.slice a1 la.length cap1,.slice a2 lb.length cap2] w fun e w'=>∃ v,e=.returned v/\Bn w' w.heap.size v (BL la lb)/\zW w w':=by
 have HA:=qX h1;have HB:=qX h2;have KA:=qX k1;have KB:=qX k2;obtain⟨i0,hi,hz0,hz1,hz2⟩:=vL Tryz.infoLine;clear h1 h2 k1 k2;go_in
 go_wp2_with fail;go_loopg [5,12] la.length (fun gk v i wr=>∃ k:Nat,gk+k=la.length/\i=.int .i64 k/\Bn wr w.heap.size v (BL (la.take k) lb)/\zW w wr)
 case atStart=>exact⟨0,rfl,rfl,qQ _ _ _ _,br⟩
 case round=>
  obtain⟨k,hgk,rfl,hown,hbr⟩:=hrel;have HBR:=qX hbr;by_cases hkn:k<la.length
  ·
   obtain⟨⟨x,y⟩,hp,hmem⟩:=Ab la k hkn;obtain⟨b,off,rfl,hlt,hc⟩:=HA.o.some (by omega);have c1:=j7 hbr (hc k x y hp).1;have c2:=j7 hbr (hc k x y hp).2;obtain⟨q1,q2,q3,q4⟩:=AA (KA.o _ hmem);simp only[]at q1 q2 q3 q4;have hts:la.take (k+1)=la.take k++[(x,y)]:=by rw[vF,hp];rfl
   have HS:Hid (BL (la.take (k+1)) lb=BL (la.take k) lb++Gi (x,y) lb):=by show _=_;rw[hts];exact P7 _ _ _
   have hTlen:(BL (la.take k) lb).length<=36:=by
    rw[F6,vO];exact qI (Nat.mul_le_mul (show min k la.length<=6 by omega) n2) (by decide)
   generalize BL (la.take k) lb=T0 at *;obtain⟨a0,n0,k0,rfl⟩:∃ a0 n0 k0,u5=.slice a0 n0 k0:=by obtain⟨a,c,e,_⟩:=hown.open;exact⟨_,_,_,e⟩
   have hb1:zW wr (wr.alloc (.cells #[.int .i64 x,.int .i64 y] 66)):=ba;have hx1:(wr.alloc (.cells #[.int .i64 x,.int .i64 y] 66)).cell? ⟨wr.heap.size,0,none⟩=some (.int .i64 x):=by simp
   have hx2:(wr.alloc (.cells #[.int .i64 x,.int .i64 y] 66)).cell? ⟨wr.heap.size,1,none⟩=some (.int .i64 y):=by simp
   have hown1:=hown.later hb1;have hbr1:=hbr.tr hb1;have hne:(Value.slice a0 n0 k0).ownBlock≠some wr.heap.size:=fun e=>by have:=(World.ownsRow.lt hown _ e).2;omega
   clear hc hp hmem hts hown hbr hb1;go_wp2_with fail;generalize wr.alloc (.cells #[.int .i64 x,.int .i64 y] 66)=W1 at *;have HX1:=qY hx1 hx2;have HBR1:=qX hbr1;have HOW1:=qX hown1;have HNE:=qX hne;clear hx1 hx2 hbr1 hown1 hne c1 c2;obtain⟨GK,rfl⟩:∃ z,z=gk:=⟨gk,rfl⟩
   obtain⟨wO,rfl⟩:∃ z,z=wr:=⟨wr,rfl⟩
   go_loopg [5,18] lb.length (fun gi v i wr2=>∃ j:Nat,gi+j=lb.length/\i=.int .i64 j/\Bn wr2 w.heap.size v (T0++Gi (x,y) (lb.take j))/\wr2.cell? ⟨wO.heap.size,0,none⟩=some (.int .i64 x)/\wr2.cell? ⟨wO.heap.size,1,none⟩=some (.int .i64 y)/\v.ownBlock≠some wO.heap.size/\zW w wr2)
   case atStart=>exact⟨0,rfl,rfl,by have:=HOW1.o;simpa[Gi]using this,HX1.o.1,HX1.o.2,HNE.o,HBR1.o⟩
   case round=>
    obtain⟨j,hgi,rfl,hown2,d1,d2,hne2,hb2⟩:=hrel;have HB2:=qX hb2;by_cases hjn:j<lb.length
    ·
     obtain⟨⟨x',y'⟩,hp,hmem⟩:=Ab lb j hjn;obtain⟨b',off',rfl,hlt',hc⟩:=HB.o.some (by omega);have e1:=j7 hb2 (hc j x' y' hp).1;have e2:=j7 hb2 (hc j x' y' hp).2;obtain⟨r1,r2,r3,r4⟩:=AA (KB.o _ hmem);simp only[]at r1 r2 r3 r4;have hts:lb.take (j+1)=lb.take j++[(x',y')]:=by rw[vF,hp];rfl
     have HSJ:Hid (T0++Gi (x,y) (lb.take (j+1))=(T0++Gi (x,y) (lb.take j))++[(x+x',y+y')]):=by show _=_;rw[hts,Sk,List.append_assoc]
     have hT1:(T0++Gi (x,y) (lb.take j)).length<=42:=by simp[Gi];omega
     generalize T0++Gi (x,y) (lb.take j)=T1 at *;obtain⟨a3,n3,k3,rfl⟩:∃ a3 n3 k3,u5=.slice a3 n3 k3:=by obtain⟨a,c,e,_⟩:=hown2.open;exact⟨_,_,_,e⟩
     have HOWr:=qX hown2;have HNE2:=qX hne2;have hlt0:=Cg d1;have HNW:Hid (∀ j u,[Value.int .i64 (x+x'),.int .i64 (y+y')][j]? = some u->((wr.alloc (.cells #[.int .i64 x',.int .i64 y'] 66)).alloc (.cells #[.int .i64 (x+x'),.int .i64 (y+y')] 66)).cell? ((⟨wr.heap.size+1,0,none⟩:Addr).add j)=some u):=by
      have:=FU (wr.alloc (.cells #[.int .i64 x',.int .i64 y'] 66)) (x+x') (y+y');rw[show(wr.alloc (.cells #[.int .i64 x',.int .i64 y'] 66)).heap.size=wr.heap.size+1 by simp]at this;exact this
     simp only[]at hlt0;clear hc hp hmem hts hown2 hne2 hb2;go_wp2_with (at_builtin;refine xO _ rfl _ _ 54 rfl w.heap.size 66 i0 (.agg #[.int .i64 0,.int .i64 0]) 2 16 Tryz.underlying54 hi hz0 hz1 hz2 rfl (by decide) (.slice a3 n3 k3) T1.length (AL T1) rfl ((HOWr.o.alloc _).alloc _) ⟨wr.heap.size+1,0,none⟩ 1 1 [.int .i64 (x+x'),.int .i64 (y+y')] rfl rfl HNW.o (F3 _ _) (by unfold maxLen;omega) (by omega) (qI HB2.o.size (by simp;omega)) ?_;intro v3 w3 hown3 hgrow3 _ hat3)
     have HB3:Hid (zW w w3):=Bn.grownT (ls:=T1) ((HB2.o.alloc HB2.o.size _).alloc (by have:=HB2.o.size;simp;omega) _) ((HOWr.o.alloc _).alloc _) hgrow3;have HO3:=qX (Bn.snoc hown3);have HN3:Hid (v3.ownBlock≠some wO.heap.size):=by
      show _≠_
      rcases hat3 with h|h
      · rw[h];exact HNE2.o
      rw[h];intro e;injection e with e;simp at e;omega
     have f1:w3.cell? ⟨wO.heap.size,0,none⟩=some (.int .i64 x):=hgrow3.cell (j7 (ba.alloc (by simp) _) d1) (fun e=>HNE2.o e.symm);have f2:w3.cell? ⟨wO.heap.size,1,none⟩=some (.int .i64 y):=hgrow3.cell (j7 (ba.alloc (by simp) _) d2) (fun e=>HNE2.o e.symm);obtain⟨a4,n4,k4,rfl⟩:∃ a4 n4 k4,v3=.slice a4 n4 k4:=by obtain⟨a,c,e,_⟩:=HO3.o.open;exact⟨_,_,_,e⟩
     clear hown3 hgrow3 hat3 d1 d2;go_wp2
     go_roundg (gk-1)
     case measure=>omega
     case rel=>exact⟨j+1,by omega,by go_num,by rw[HSJ.o];exact HO3.o,f1,f2,HN3.o,HB3.o⟩
    have hj':j=lb.length:=by omega
    subst hj';rw[xA]at hown2;have HO3:=qX hown2;obtain⟨a3,n3,k3,rfl⟩:∃ a3 n3 k3,u5=.slice a3 n3 k3:=by obtain⟨a,c,e,_⟩:=hown2.open;exact⟨_,_,_,e⟩
    clear hown2 hb2 hne2 d1 d2;go_wp2
    go_roundg (GK-1)
    case measure=>omega
    case rel=>exact⟨k+1,by omega,by go_num,by rw[HS.o];exact HO3.o,HB2.o⟩
  have hk':k=la.length:=by omega
  subst hk';rw[xA]at hown;obtain⟨a0,n0,k0,rfl⟩:∃ a0 n0 k0,u5=.slice a0 n0 k0:=by obtain⟨a,c,e,_⟩:=hown.open;exact⟨_,_,_,e⟩
  have HOW:=qX hown;clear hown hbr;go_wp2
  go_ret;exact⟨_,rfl,HOW.o,HBR.o⟩
theorem AQ.take {w:World}{a:oA}{ls:lI}(H:AQ w a ls)(k:Nat):AQ w a (ls.take k):=by
 rcases H with rfl|⟨b,z,rfl,E,D⟩
 · exact .inl (by simp)
 refine .inr ⟨b,z,rfl,E,fun i x y h=>?_⟩;rw[yR]at h;split at h
 · exact D i x y h
 cases h
theorem AQ.drop {w:World}{b h:Nat}{ls:lI}(E:AQ w (Option.some ⟨b,h,Option.none⟩) ls)(k:Nat):AQ w (Option.some ⟨b,h+k*2,Option.none⟩) (ls.drop k):=by
 rcases E with rfl|⟨I,J,e,H,D⟩
 · exact .inl (by simp)
 cases e
 refine .inr ⟨b,_,rfl,H,fun i x y z=>?_⟩;rw[List.getElem?_drop]at z;have:=D (k+i) x y z;rw[show h+k*2+i*2=h+(k+i)*2 by omega];exact this
theorem Tryz.appendNone (w:World)(z:TypeId)(g n c:Nat)(h:n<=c):(Builtin.append_ #[54,54] z #[.slice (some ⟨g,0,none⟩) n c,.slice none 0 0]).run Tryz.prog w=.ok (.slice (some ⟨g,0,none⟩) n c) w:=by
 obtain⟨I,D,J,H,E⟩:=vL Tryz.infoLine;simp[Builtin.append_,yX Tryz.underlying54,sizeOf,typeInfo,D,Builtin.lenOf,Builtin.firstCells,loadCells,h,storeCells]
theorem Dy {w:World}{B m:Nat}{v:Value}{xs:List Value}(z:w.ownsRow B 66 2 v m xs)(E:1<=m):∃ g c,v=.slice (some ⟨g,0,none⟩) m c/\m<=c/\v.ownBlock=some g:=by
 obtain⟨-,⟨-,D⟩|⟨g,cap,H,rfl,-,-,h,-,-,-⟩⟩:=z
 · omega
 exact⟨g,cap,rfl,h,rfl⟩
theorem Gx {w w':World}{g h:Nat}{row:Option Nat}{ls:lI}(J:AQ w (some ⟨g,h,none⟩) ls)(z:w.grownBy w' row)(H:row≠some g):AQ w' (some ⟨g,h,none⟩) ls:=by
 rcases J with rfl|⟨b,o,e,I,D⟩
 · exact .inl rfl
 cases e
 refine .inr ⟨g,h,rfl,qD I z.size,fun i x y E=>?_⟩;exact⟨z.cell (D i x y E).1 (fun e=>H e.symm),z.cell (D i x y E).2 (fun e=>H e.symm)⟩
theorem MG {ls:lI}{k:Nat}(h:k<=ls.length):(AL (ls.take k)).length=k*2:=by
 rw[G7,vO,Nat.min_eq_left h]
theorem Mg (ls:lI)(k:Nat):(AL (ls.drop k)).length=(ls.length-k)*2:=by
 rw[G7,yK]
theorem Uo {w:World}{B k:Nat}{v:Value}{R:lI}{x y:Int}(E:k<=R.length)(D:w.ownsRow B 66 2 v (k+1+(R.length-k)) (AL (R.take k)++[.int .i64 x,.int .i64 y]++AL (R.drop k))):Bn w B v (R.take k++(x,y)::R.drop k):=by
 unfold Bn;have z:(R.take k++(x,y)::R.drop k).length=k+1+(R.length-k):=by simp;omega
 have h:AL (R.take k++(x,y)::R.drop k)=AL (R.take k)++[.int .i64 x,.int .i64 y]++AL (R.drop k):=by
  rw[G6,Ja];simp
 rw[z,h];exact D
theorem Bn.grownR {w0 w w':World}{v:Value}{n:Nat}{xs:List Value}(h:zW w0 w)(z:w.ownsRow w0.heap.size 66 2 v n xs)(E:w.grownBy w' v.ownBlock):zW w0 w':=
 h.grown E h.size (fun k D=>(World.ownsRow.lt z k D).1)
end Go.Proofs.YtejlihcdfffafaaGreatDoor
