import Derived.Laws.BytesArg
import Derived.Test.YtejlihcdfffafaaGreatDoorP40
import Derived.Deep.CutBlock
set_option maxHeartbeats 8000000
set_option maxRecDepth 100000
namespace Go.Proofs.YtejlihcdfffafaaGreatDoor
open Go.RowKit
theorem Zf (d:Nat)(D:d<10)(w:World):Calls Tryz.prog 33 #[.int .i64 (48+(d:Int))] w fun e w'=>e=.returned (Ad [UInt8.ofNat (48+d)])/\zW w w':=by
 have z:Hid (∀ o:Obj,zW w (w.alloc o)):=fun o=>ba
 have E:∀ h:Int,(convert 113 9 (.slice (some ⟨w.heap.size,0,none⟩) 1 1)).run Tryz.prog (w.alloc (.cells #[.int .u8 h] 5))=.ok (.string (strOfNums [h])) (w.alloc (.cells #[.int .u8 h] 5)):=fun h=>
  run_convert_bytes_arg _ 113 5 Tryz.underlying113 Tryz.underlying5 w.heap.size 0 1 1 [h] rfl (fun i H=>by
   obtain rfl:i=0:=by omega
   rw [qO _ _ _ _ rfl];rfl) 9 Tryz.underlying9
 rcases(show d=0\/d=1\/d=2\/d=3\/d=4\/d=5\/d=6\/d=7\/d=8\/d=9 by omega)with rfl|rfl|rfl|rfl|rfl|rfl|rfl|rfl|rfl|rfl
 all_goals
  clear D;go_in
  go_wp2
  go_ret;exact⟨rfl,z.o _⟩
theorem cZ (m:Nat):(-(m:Int)).tdiv 10 = -((m/10:Nat):Int):=by
 rw[Int.neg_tdiv];rfl
theorem dF (m:Nat):(-(m:Int)).tmod 10 = -((m%10:Nat):Int):=by
 rw[Int.neg_tmod];rfl
theorem XH (m:Nat)(h:m<=9223372036854775807):(Go.Lib.decDigits m).length<=1000:=by
 rw[<- Go.Lib.itoa_nonneg];have:=Go.Lib.itoa_length_le (m:Int) (by omega) (by omega);omega
theorem fO (m:Nat):m<=9223372036854775807->∀ w,Calls Tryz.prog 22 #[.int .i64 (-(m:Int))] w fun e w'=>e=.returned (Ad (Go.Lib.decDigits m))/\zW w w':=by
 induction m using Nat.strongRecOn with
 | _ m J=>
 intro aj w;by_cases E:m<10
 ·
  have z:Hid (qW 33 #[.int .i64 (48+(m:Int))] w (Ad (Go.Lib.decDigits m))):=by
   rw[Go.Lib.decDigits_one E];exact Zf m E w
  have Z:decide (-10 < -(m:Int))=true:=qM (by omega);have ad:48 - -(m:Int)=48+m:=by omega
  clear J;go_in
  go_wp2_with fail;refine z.o.mono ?_
  rintro e ab ⟨rfl,h⟩;go_wp2
  go_ret;exact⟨rfl,h⟩
 have I:=qX (J (m/10) (by omega) (by omega) w);have z:Hid (∀ H,qW 33 #[.int .i64 (48+((m%10:Nat):Int))] H (Ad [UInt8.ofNat (48+m%10)])):=fun H=>Zf (m%10) (by omega) H
 have Z:decide (-10 < -(m:Int))=false:=qF (by omega);have W:=cZ m;have Q:=dF m;have D:=J7 (Go.Lib.decDigits (m/10)) [UInt8.ofNat (48+m%10)] (XH _ (by omega)) (by simp);have N:Go.Lib.decDigits (m/10)++[UInt8.ofNat (48+m%10)]=Go.Lib.decDigits m:=by
  conv=>rhs;rw[Go.Lib.decDigits]
  rw[dif_neg E]
 rw[N]at D;obtain⟨x,U⟩:∃ x:Int,-(m:Int)=x:=⟨_,rfl⟩
 obtain⟨y,ac⟩:∃ y:Int,-((m/10:Nat):Int)=y:=⟨_,rfl⟩
 obtain⟨r,K⟩:∃ r:Int,((m%10:Nat):Int)=r:=⟨_,rfl⟩
 have aw:0<=r:=by omega
 have am:r<=9:=by omega
 have aq : -9223372036854775808<=x:=by omega
 have an:x<=0:=by omega
 have aB : -9223372036854775808<=y:=by omega
 have ao:y<=0:=by omega
 rw[U]at Z W Q ⊢;rw[ac]at W I;rw[K]at Q z;have ad:48 - -r=48+r:=by omega
 obtain⟨ap,V⟩:=ex (Go.Lib.decDigits m);rw[V]at D ⊢;obtain⟨av,O⟩:=ex (Go.Lib.decDigits (m/10));rw[O]at D I;obtain⟨u8,Y⟩:=ex (UInt8.ofNat (48+m%10));rw[Y]at D z;clear J N aj E U ac K V O Y;go_in
 go_wp2_with fail;refine I.o.mono ?_
 rintro e ab ⟨rfl,h⟩;have ai:=qX h;clear h;go_wp2_with fail;refine(z.o ab).mono ?_
 rintro e ar ⟨rfl,h⟩;have al:=qX (ai.o.tr h);clear h;go_wp2
 go_ret;exact⟨rfl,al.o⟩
theorem J4 (n:Int)(E:0<=n)(I:n<=9223372036854775807)(w:World):Calls Tryz.prog 11 #[.int .i64 n] w fun e w'=>e=.returned (Ad (Go.Lib.itoa n))/\zW w w':=by
 obtain⟨m,rfl⟩:∃ m:Nat,n=(m:Int):=⟨n.toNat,by omega⟩
 have h:Hid (qW 22 #[.int .i64 (-(m:Int))] w (Ad (Go.Lib.itoa (m:Int)))):=by
  rw[Go.Lib.itoa_nonneg];exact fO m (by omega) w
 obtain⟨d,z⟩:=ex (Go.Lib.itoa (m:Int));rw[z]at h ⊢;have J:decide ((m:Int)<0)=false:=qF (by omega);clear z;go_in
 go_wp2_with fail;refine h.o.mono ?_
 rintro e H ⟨rfl,D⟩;go_wp2
 go_ret;exact⟨rfl,D⟩
open Go.Lib
def gW:List UInt8:=[114,97,110,107]
def jC:List UInt8:=[100,117,101]
def XT:List UInt8:=[114,111,117,110,100]
def dw:List UInt8:=[102,97,105,114]
def Ie (k:List UInt8):Bool:=decide (k=Gv) || decide (k=gW) || decide (k=jC) || decide (k=XT) || decide (k=dw)
structure LL where
 wd:List UInt8
 kd:List UInt8
 nm:List Int
def Gb (l:LL):Bool:=
 if l.wd=BF then l.nm.length%2==1 else if l.wd=Cu then l.nm.length==1&&Ie l.kd else if l.wd=Br then l.nm.length==8
 else if l.wd=Bd then l.nm.length==3 else if l.wd=atW then l.nm.length==2
 else if l.wd=CQ\/l.wd=Ms\/l.wd=EA\/l.wd=Cv then l.nm.length==0 else false
def Ck (l:LL):List UInt8:=if l.wd=Cu then l.wd++[32]++l.kd else l.wd
def Jp (l:LL)(i:Nat):Int:=if i=0/\(l.wd=Bd\/l.wd=atW\/l.wd=BF)then 9 else 9999999
def Qg (l:LL):Prop:=∀(i:Nat) n,l.nm[i]? = some n->0<=n/\n<=Jp l i
def tailW (ns:List Int):List UInt8:=ns.flatMap fun n=>32::itoa n
def MJ (l:LL)(o:Option (List UInt8)):Prop:=(Gb l=true/\Qg l/\o=some (Ck l++tailW l.nm))\/(¬(Gb l=true/\Qg l)/\o=none)
theorem YB {ns:List Int}{i:Nat}{n:Int}(h:ns[i]? = some n):tailW (ns.take (i+1))=tailW (ns.take i)++[32]++itoa n:=by
 rw[vF,h];simp[tailW]
theorem NJ:∀(ns:List Int),(∀ n∈ns,0<=n/\n<=9999999)->(tailW ns).length<=22*ns.length
 | [],_=>by simp[tailW]
 | n::ns,h=>by
  have H:=NJ ns fun m z=>h m (qG _ z)
  have D:=h n (qA ..);have E:=itoa_length_le n (by omega) (by omega);have e:tailW (n::ns)=(32::itoa n)++tailW ns:=by simp[tailW]
  rw[e,qJ,vH,vH];omega
theorem NY (l:LL)(i:Nat):Jp l i<=9999999:=by
 unfold Jp;split <;> omega
theorem JZ {l:LL}(z:Qg l):∀ n∈l.nm,0<=n/\n<=9999999:=fun n h=>by
 obtain⟨i,D⟩:=xN.1 h;have H:=z i n D;have E:=NY l i;omega
theorem QY {l:LL}(z:l.wd.length<=60)(h:l.kd.length<=60):(Ck l).length<=121:=by
 unfold Ck;split
 · simp;omega
 omega
theorem cB {l:LL}{x:List UInt8}(E:MJ l (some x))(z:l.wd.length<=60)(h:l.kd.length<=60)(H:l.nm.length<=20):x.length<=600:=by
 rcases E with⟨-,D,e⟩|⟨-,e⟩
 ·
  cases e
  have:=NJ l.nm (JZ D);have:=QY z h;rw[qJ];omega
 cases e
theorem Yr (k:List UInt8)(w:World):Calls Tryz.prog 10 #[Ad k] w fun e w'=>e=.returned (.bool (Ie k))/\w'=w:=by
 obtain⟨z,h⟩:∃ z:ByteArray,⟨k.toArray⟩=z:=⟨_,rfl⟩
 obtain⟨I,H⟩:=ex (decide (k=Gv));obtain⟨J,O⟩:=ex (decide (k=gW));obtain⟨E,K⟩:=ex (decide (k=jC));obtain⟨Q,N⟩:=ex (decide (k=XT));obtain⟨D,U⟩:=ex (decide (k=dw));have V:Ie k=(I || J || E || Q || D):=by unfold Ie;rw[H,O,K,N,U]
 obtain⟨ab,u0⟩:=Ao k _ z h I H;obtain⟨ac,u1⟩:=Ao k _ z h J O;obtain⟨Z,u2⟩:=Ao k _ z h E K;obtain⟨Y,u3⟩:=Ao k _ z h Q N;obtain⟨W,u4⟩:=Ao k _ z h D U;unfold Gv at ab u0;unfold gW at ac u1;unfold jC at Z u2;unfold XT at Y u3;unfold dw at W u4;rw[V];show Calls Tryz.prog 10 #[.string ⟨k.toArray⟩] w _
 rw[h];clear V H O K N U h;cases I <;> cases J <;> cases E <;> cases Q <;> cases D
 all_goals
  go_in
  go_wp2
  go_ret;exact⟨rfl,rfl⟩
theorem eqN (h k:Nat)(z:Int)(D:z=(k:Int)):((h:Int)==z)=(h==k):=by
 subst D;by_cases e:h=k
 · subst e;simp
 have a:((h:Int)==(k:Int))=false:=by simp;omega
 have b:(h==k)=false:=by simp[e]
 rw[a,b]
def Y9 (o:Option (List UInt8))(w:World)(e:Ending)(w':World):Prop:=e=.returned (.tuple #[Ad (o.getD []),.bool o.isSome])/\zW w w'
theorem bE (l:LL)(bj:oA)(cap:Nat)(w:World)(ar:AR w bj l.nm)(ct:l.nm.length<=20)(aj:l.wd.length<=60)(b5:l.kd.length<=60)(o:Option (List UInt8))(cd:MJ l o):Calls Tryz.prog 6 #[.agg #[Ad l.wd,Ad l.kd,.slice bj l.nm.length cap]] w fun e w'=>Y9 o w e w':=by
 obtain⟨E,bT⟩:=ex l.nm.length;have ac:=qX bT;rw[bT]at ct ⊢;obtain⟨D,z⟩:∃ D:ByteArray,⟨l.wd.toArray⟩=D:=⟨_,rfl⟩
 have cj:Ad l.wd=.string D:=by rw[<- z]
 have an:=qX z;rw[cj];obtain⟨a0,cp⟩:=ex (Ck l);have N:=qX cp;obtain⟨is,b'⟩:=ex (Gb l);have K:=qX b';have b7:=qX cd;have cH:=qX ar;clear bT ar cd cj cp b';obtain⟨a',aB⟩:=ex (w.alloc (.cells #[.string D,Ad l.kd,.slice bj E cap] 29));have ad:=qX aB;clear aB;go_in
 go_upto_block 0 with fail
 go_cut [5,6]from 14 (fun cI cv b0=>cI=Ad a0/\cv=.bool is/\a'=b0)
 case first=>
  by_cases O:l.wd=[99,117,114,118,101]
  ·
   have h:=O;obtain⟨Z,u0⟩:=Ao l.wd [99,117,114,118,101] D z true (by rw[h];decide);have I:Ck l=l.wd:=by unfold Ck;rw[if_neg (by rw[h];decide)]
   have H:Gb l=(E%2==1):=by unfold Gb;rw[if_pos (by rw[h];rfl),ac.o]
   rw[H]at K;rw[I]at N;rcases Nat.mod_two_eq_zero_or_one E with a5|a5
   ·
    have cu:(E:Int).tmod 2=0:=by rw[Int.tmod_eq_emod_of_nonneg (by omega)];omega
    rw[a5]at K;clear H I z h O a5;go_wp2_with fail;go_meet;exact⟨by rw[<- an.o,N.o],by rw[<- K.o];rfl,ad.o.symm⟩
   have cu:(E:Int).tmod 2=1:=by rw[Int.tmod_eq_emod_of_nonneg (by omega)];omega
   rw[a5]at K;clear H I z h O a5;go_wp2_with fail;go_meet;exact⟨by rw[<- an.o,N.o],by rw[<- K.o];rfl,ad.o.symm⟩
  by_cases Q:l.wd=[108,105,110,107]
  ·
   have h:=Q;obtain⟨Z,u0⟩:=Ao l.wd [99,117,114,118,101] D z false (by rw[h];decide);obtain⟨ab,u1⟩:=Ao l.wd [108,105,110,107] D z true (by rw[h];decide);have I:Ck l=l.wd++[32]++l.kd:=by unfold Ck;rw[if_pos (by rw[h];rfl)]
   have H:Gb l=(E==1&&Ie l.kd):=by unfold Gb;rw[if_neg (by rw[h];decide),if_pos (by rw[h];rfl),ac.o]
   rw[H]at K;rw[I]at N;have be:=J7 l.wd [32] (by omega) (by simp);have a9:=J7 (l.wd++[32]) l.kd (by simp;omega) (by omega);rw[N.o]at a9;rw[z]at be;obtain⟨d1,av⟩:∃ d1:ByteArray,⟨(l.wd++[32]).toArray⟩=d1:=⟨_,rfl⟩
   have cL:∀ ai:World,(Op.stringOp .add D ⟨[32].toArray⟩).run Tryz.prog ai=.ok (.string d1) ai:=fun ai=>by rw[<- av];exact be ai
   rw[av]at a9;by_cases aj:E=1
   ·
    rw[aj]at K;have W:Hid (Ie l.kd=is):=by show _=_;rw[<- K.o];rfl
    have cC:Hid (∀ ai,Calls Tryz.prog 10 #[Ad l.kd] ai fun e w'=>e=.returned (.bool is)/\w'=ai):=fun ai=>by rw[<- W.o];exact Yr l.kd ai
    subst aj;clear H I z h O Q be av;go_wp2_with (go_at_call 10;refine(cC.o _).mono ?_;rintro e w' ⟨rfl,rfl⟩)
    go_meet;exact⟨rfl,rfl,ad.o.symm⟩
   have cT:((E:Int)==1)=false:=by simp;omega
   have W:Hid (false=is):=by show _=_;rw[<- K.o];simp[aj]
   clear H I z h O Q be av;go_wp2_with fail;go_meet;exact⟨rfl,by rw[W.o],ad.o.symm⟩
  by_cases Y:l.wd=[110,117,109,98,101,114,115]
  ·
   have h:=Y;obtain⟨Z,u0⟩:=Ao l.wd [99,117,114,118,101] D z false (by rw[h];decide);obtain⟨ab,u1⟩:=Ao l.wd [108,105,110,107] D z false (by rw[h];decide);obtain⟨al,u2⟩:=Ao l.wd [110,117,109,98,101,114,115] D z true (by rw[h];decide);have I:Ck l=l.wd:=by unfold Ck;rw[if_neg (by rw[h];decide)]
   have H:Gb l=(E==8):=by unfold Gb;rw[if_neg (by rw[h];decide),if_neg (by rw[h];decide),if_pos (by rw[h];rfl),ac.o]
   rw[H]at K;rw[I]at N;have W:Hid (((E:Int)==8)=is):=by show _=_;rw[<- K.o];exact eqN E 8 8 rfl
   clear H I z h O Q Y;go_wp2_with fail;go_meet;exact⟨by rw[<- an.o,N.o],by rw[<- W.o],ad.o.symm⟩
  by_cases ao:l.wd=[112,97,99,107,101,116]
  ·
   have h:=ao;obtain⟨Z,u0⟩:=Ao l.wd [99,117,114,118,101] D z false (by rw[h];decide);obtain⟨ab,u1⟩:=Ao l.wd [108,105,110,107] D z false (by rw[h];decide);obtain⟨al,u2⟩:=Ao l.wd [110,117,109,98,101,114,115] D z false (by rw[h];decide);obtain⟨a1,u3⟩:=Ao l.wd [112,97,99,107,101,116] D z true (by rw[h];decide);have I:Ck l=l.wd:=by unfold Ck;rw[if_neg (by rw[h];decide)]
   have H:Gb l=(E==3):=by unfold Gb;rw[if_neg (by rw[h];decide),if_neg (by rw[h];decide),if_neg (by rw[h];decide),if_pos (by rw[h];rfl),ac.o]
   rw[H]at K;rw[I]at N;have W:Hid (((E:Int)==3)=is):=by show _=_;rw[<- K.o];exact eqN E 3 3 rfl
   clear H I z h O Q Y ao;go_wp2_with fail;go_meet;exact⟨by rw[<- an.o,N.o],by rw[<- W.o],ad.o.symm⟩
  by_cases aq:l.wd=[97,116]
  ·
   have h:=aq;obtain⟨Z,u0⟩:=Ao l.wd [99,117,114,118,101] D z false (by rw[h];decide);obtain⟨ab,u1⟩:=Ao l.wd [108,105,110,107] D z false (by rw[h];decide);obtain⟨al,u2⟩:=Ao l.wd [110,117,109,98,101,114,115] D z false (by rw[h];decide);obtain⟨a1,u3⟩:=Ao l.wd [112,97,99,107,101,116] D z false (by rw[h];decide);obtain⟨a6,u4⟩:=Ao l.wd [97,116] D z true (by rw[h];decide);have I:Ck l=l.wd:=by unfold Ck;rw[if_neg (by rw[h];decide)]
   have H:Gb l=(E==2):=by unfold Gb;rw[if_neg (by rw[h];decide),if_neg (by rw[h];decide),if_neg (by rw[h];decide),if_neg (by rw[h];decide),if_pos (by rw[h];rfl),ac.o]
   rw[H]at K;rw[I]at N;have W:Hid (((E:Int)==2)=is):=by show _=_;rw[<- K.o];exact eqN E 2 2 rfl
   clear H I z h O Q Y ao aq;go_wp2_with fail;go_meet;exact⟨by rw[<- an.o,N.o],by rw[<- W.o],ad.o.symm⟩
  by_cases aE:l.wd=[99,108,101,97,114]
  ·
   have h:=aE;obtain⟨Z,u0⟩:=Ao l.wd [99,117,114,118,101] D z false (by rw[h];decide);obtain⟨ab,u1⟩:=Ao l.wd [108,105,110,107] D z false (by rw[h];decide);obtain⟨al,u2⟩:=Ao l.wd [110,117,109,98,101,114,115] D z false (by rw[h];decide);obtain⟨a1,u3⟩:=Ao l.wd [112,97,99,107,101,116] D z false (by rw[h];decide);obtain⟨a6,u4⟩:=Ao l.wd [97,116] D z false (by rw[h];decide);obtain⟨bg,u5⟩:=Ao l.wd [99,108,101,97,114] D z true (by rw[h];decide);have I:Ck l=l.wd:=by unfold Ck;rw[if_neg (by rw[h];decide)]
   have H:Gb l=(E==0):=by unfold Gb;rw[if_neg (by rw[h];decide),if_neg (by rw[h];decide),if_neg (by rw[h];decide),if_neg (by rw[h];decide),if_neg (by rw[h];decide),if_pos (by rw[h];decide),ac.o]
   rw[H]at K;rw[I]at N;have W:Hid (((E:Int)==0)=is):=by show _=_;rw[<- K.o];exact eqN E 0 0 rfl
   clear H I z h O Q Y ao aq aE;go_wp2_with fail;go_meet;exact⟨by rw[<- an.o,N.o],by rw[<- W.o],ad.o.symm⟩
  by_cases aS:l.wd=[114,117,110]
  ·
   have h:=aS;obtain⟨Z,u0⟩:=Ao l.wd [99,117,114,118,101] D z false (by rw[h];decide);obtain⟨ab,u1⟩:=Ao l.wd [108,105,110,107] D z false (by rw[h];decide);obtain⟨al,u2⟩:=Ao l.wd [110,117,109,98,101,114,115] D z false (by rw[h];decide);obtain⟨a1,u3⟩:=Ao l.wd [112,97,99,107,101,116] D z false (by rw[h];decide);obtain⟨a6,u4⟩:=Ao l.wd [97,116] D z false (by rw[h];decide);obtain⟨bg,u5⟩:=Ao l.wd [99,108,101,97,114] D z false (by rw[h];decide);obtain⟨b3,u6⟩:=Ao l.wd [114,117,110] D z true (by rw[h];decide);have I:Ck l=l.wd:=by unfold Ck;rw[if_neg (by rw[h];decide)]
   have H:Gb l=(E==0):=by unfold Gb;rw[if_neg (by rw[h];decide),if_neg (by rw[h];decide),if_neg (by rw[h];decide),if_neg (by rw[h];decide),if_neg (by rw[h];decide),if_pos (by rw[h];decide),ac.o]
   rw[H]at K;rw[I]at N;have W:Hid (((E:Int)==0)=is):=by show _=_;rw[<- K.o];exact eqN E 0 0 rfl
   clear H I z h O Q Y ao aq aE aS;go_wp2_with fail;go_meet;exact⟨by rw[<- an.o,N.o],by rw[<- W.o],ad.o.symm⟩
  by_cases bb:l.wd=[119,111,114,115,116]
  ·
   have h:=bb;obtain⟨Z,u0⟩:=Ao l.wd [99,117,114,118,101] D z false (by rw[h];decide);obtain⟨ab,u1⟩:=Ao l.wd [108,105,110,107] D z false (by rw[h];decide);obtain⟨al,u2⟩:=Ao l.wd [110,117,109,98,101,114,115] D z false (by rw[h];decide);obtain⟨a1,u3⟩:=Ao l.wd [112,97,99,107,101,116] D z false (by rw[h];decide);obtain⟨a6,u4⟩:=Ao l.wd [97,116] D z false (by rw[h];decide);obtain⟨bg,u5⟩:=Ao l.wd [99,108,101,97,114] D z false (by rw[h];decide);obtain⟨b3,u6⟩:=Ao l.wd [114,117,110] D z false (by rw[h];decide);obtain⟨ch,u7⟩:=Ao l.wd [119,111,114,115,116] D z true (by rw[h];decide);have I:Ck l=l.wd:=by unfold Ck;rw[if_neg (by rw[h];decide)]
   have H:Gb l=(E==0):=by unfold Gb;rw[if_neg (by rw[h];decide),if_neg (by rw[h];decide),if_neg (by rw[h];decide),if_neg (by rw[h];decide),if_neg (by rw[h];decide),if_pos (by rw[h];decide),ac.o]
   rw[H]at K;rw[I]at N;have W:Hid (((E:Int)==0)=is):=by show _=_;rw[<- K.o];exact eqN E 0 0 rfl
   clear H I z h O Q Y ao aq aE aS bb;go_wp2_with fail;go_meet;exact⟨by rw[<- an.o,N.o],by rw[<- W.o],ad.o.symm⟩
  by_cases bc:l.wd=[98,111,117,110,100]
  ·
   have h:=bc;obtain⟨Z,u0⟩:=Ao l.wd [99,117,114,118,101] D z false (by rw[h];decide);obtain⟨ab,u1⟩:=Ao l.wd [108,105,110,107] D z false (by rw[h];decide);obtain⟨al,u2⟩:=Ao l.wd [110,117,109,98,101,114,115] D z false (by rw[h];decide);obtain⟨a1,u3⟩:=Ao l.wd [112,97,99,107,101,116] D z false (by rw[h];decide);obtain⟨a6,u4⟩:=Ao l.wd [97,116] D z false (by rw[h];decide);obtain⟨bg,u5⟩:=Ao l.wd [99,108,101,97,114] D z false (by rw[h];decide);obtain⟨b3,u6⟩:=Ao l.wd [114,117,110] D z false (by rw[h];decide);obtain⟨ch,u7⟩:=Ao l.wd [119,111,114,115,116] D z false (by rw[h];decide);obtain⟨cD,u8⟩:=Ao l.wd [98,111,117,110,100] D z true (by rw[h];decide);have I:Ck l=l.wd:=by unfold Ck;rw[if_neg (by rw[h];decide)]
   have H:Gb l=(E==0):=by unfold Gb;rw[if_neg (by rw[h];decide),if_neg (by rw[h];decide),if_neg (by rw[h];decide),if_neg (by rw[h];decide),if_neg (by rw[h];decide),if_pos (by rw[h];decide),ac.o]
   rw[H]at K;rw[I]at N;have W:Hid (((E:Int)==0)=is):=by show _=_;rw[<- K.o];exact eqN E 0 0 rfl
   clear H I z h O Q Y ao aq aE aS bb bc;go_wp2_with fail;go_meet;exact⟨by rw[<- an.o,N.o],by rw[<- W.o],ad.o.symm⟩
  obtain⟨Z,u0⟩:=Ao l.wd [99,117,114,118,101] D z false (qF O);obtain⟨ab,u1⟩:=Ao l.wd [108,105,110,107] D z false (qF Q);obtain⟨al,u2⟩:=Ao l.wd [110,117,109,98,101,114,115] D z false (qF Y);obtain⟨a1,u3⟩:=Ao l.wd [112,97,99,107,101,116] D z false (qF ao);obtain⟨a6,u4⟩:=Ao l.wd [97,116] D z false (qF aq);obtain⟨bg,u5⟩:=Ao l.wd [99,108,101,97,114] D z false (qF aE);obtain⟨b3,u6⟩:=Ao l.wd [114,117,110] D z false (qF aS);obtain⟨ch,u7⟩:=Ao l.wd [119,111,114,115,116] D z false (qF bb);obtain⟨cD,u8⟩:=Ao l.wd [98,111,117,110,100] D z false (qF bc);have I:Ck l=l.wd:=by unfold Ck;rw[if_neg (show ¬l.wd=Cu from Q)]
  have H:Gb l=false:=by unfold Gb;rw[if_neg (show ¬l.wd=BF from O),if_neg (show ¬l.wd=Cu from Q),if_neg (show ¬l.wd=Br from Y),if_neg (show ¬l.wd=Bd from ao),if_neg (show ¬l.wd=atW from aq),if_neg (by rintro(J|J|J|J) <;> contradiction)]
  rw[H]at K;rw[I]at N;clear H I z O Q Y ao aq aE aS bb bc;go_wp2_with fail;go_meet;exact⟨by rw[<- an.o,N.o],by rw[<- K.o],ad.o.symm⟩
 case rest=>
 obtain⟨rfl,rfl,bs⟩:=hcut;subst bs;have aB:=ad.o;have cn:a'.cell? ⟨w.heap.size,0,none⟩=some (.string D):=by rw[<- aB,qO _ _ _ _ rfl];rfl
 have a9:a'.cell? ⟨w.heap.size,2,none⟩=some (.slice bj E cap):=by rw[<- aB,qO _ _ _ _ rfl];rfl
 have bh:Hid (zW w a'):=by rw[<- aB];exact ba
 have cE:=qX (QY aj b5);clear aB aj b5;by_cases bm:is=true
 case neg=>
  have ck:is=false:=by simpa using bm
  have V:Hid (o=none):=by
   rcases b7.o with⟨J,-,-⟩|⟨-,J⟩
   · rw[K.o,ck]at J;cases J
   exact J
  subst ck;clear bm z;go_wp2
  go_ret2;exact⟨by rw[V.o];rfl,bh.o⟩
 subst bm;go_wp2_with fail;go_loopw [5,7] (fun out i wr=>∃ k:Nat,k<=E/\i=.int .i64 k/\out=Ad (a0++tailW (l.nm.take k))/\zW a' wr/\∀(j:Nat) n,j<k->l.nm[j]? = some n->0<=n/\n<=Jp l j) (fun _ i _=>E-(intOf i).toNat)
 case atStart=>exact⟨0,qR _,rfl,by simp[tailW],br,fun j n a8=>by omega⟩
 case round=>
  obtain⟨k,cJ,rfl,rfl,a2,bl⟩:=hrel;have cS:=j7 a2 cn;have d2:=j7 a2 a9;have a3:=qY a2 bl;obtain⟨ai,cy⟩:∃ ai,ai=wr:=⟨_,rfl⟩
  subst cy;by_cases cA:k<E
  ·
   obtain⟨U,bq,-⟩:=Ab l.nm k (by rw[ac.o];exact cA);obtain⟨b,cQ,rfl,-,ce⟩:=cH.o.place (by rw[ac.o];omega);have cN:=j7 (bh.o.tr a2) (ce k U bq);have bN:=qX bq;obtain⟨X,bk⟩:=ex (a0++tailW (l.nm.take k));have bp:Hid (a0 ++ tailW (l.nm.take k)=X /\ X.length <= 600):=⟨bk,by
    rw[<- bk,qJ,<- N.o];have aj:=NJ (l.nm.take k) (fun n ar=>by
     obtain⟨j,a8⟩:=xN.1 ar;have cc:j<k:=by have:=Af a8;rw[vO]at this;omega
     rw[yI cc]at a8;have cU:=bl j n cc a8;have cP:=NY l j;omega)
    rw[vO]at aj;have b5:=cE.o;omega⟩
   rw[bk];obtain⟨am,b9⟩:=ex (decide (k=0/\(l.wd=Bd\/l.wd=atW\/l.wd=BF)));have aN:=qX b9;clear b9 bk a2 bl bq ce cn a9;go_upto_region 27 with fail
   go_cut [77]from 56 to 101 (fun cx b0=>cx=.bool am/\ai=b0)
   case first=>
    by_cases cg:k=0
    ·
     subst cg;by_cases O:l.wd=Bd
     ·
      obtain⟨Z,u0⟩:=Ao l.wd _ D z true (qM O);unfold Bd at Z u0;have V:Hid (am=true):=by show _=_;rw[<- aN.o];exact qM ⟨rfl,.inl O⟩
      clear z O;go_wp2_with fail;go_meet;exact⟨by rw[V.o],rfl⟩
     obtain⟨Z,u0⟩:=Ao l.wd _ D z false (qF O);by_cases Q:l.wd=atW
     ·
      obtain⟨ab,u1⟩:=Ao l.wd _ D z true (qM Q);unfold Bd at Z u0;unfold atW at ab u1;have V:Hid (am=true):=by show _=_;rw[<- aN.o];exact qM ⟨rfl,.inr (.inl Q)⟩
      clear z O Q;go_wp2_with fail;go_meet;exact⟨by rw[V.o],rfl⟩
     obtain⟨ab,u1⟩:=Ao l.wd _ D z false (qF Q);by_cases Y:l.wd=BF
     ·
      obtain⟨al,u2⟩:=Ao l.wd _ D z true (qM Y);unfold Bd at Z u0;unfold atW at ab u1;unfold BF at al u2;have V:Hid (am=true):=by show _=_;rw[<- aN.o];exact qM ⟨rfl,.inr (.inr Y)⟩
      clear z O Q Y;go_wp2_with fail;go_meet;exact⟨by rw[V.o],rfl⟩
     obtain⟨al,u2⟩:=Ao l.wd _ D z false (qF Y);unfold Bd at Z u0;unfold atW at ab u1;unfold BF at al u2;have V:Hid (am=false):=by show _=_;rw[<- aN.o];exact qF (by rintro⟨-,J|J|J⟩ <;> contradiction)
     clear z O Q Y;go_wp2_with fail;go_meet;exact⟨by rw[V.o],rfl⟩
    have V:Hid (am=false):=by show _=_;rw[<- aN.o];exact qF (by rintro⟨J,-⟩;contradiction)
    have cM:((k:Int)==0)=false:=by simp;omega
    clear z cg;go_wp2_with fail;go_meet;exact⟨by rw[V.o],rfl⟩
   case rest=>
   obtain⟨rfl,bs⟩:=hcut;subst bs;obtain⟨bx,b6⟩:=ex (Jp l k);have bt:=qX b6;have co:Hid (¬(0<=U/\U<=bx)->o=none):=fun J=>by
    rcases b7.o with⟨-,aj,-⟩|⟨-,aj⟩
    · have:=aj k U bN.o;rw[bt.o]at this;exact absurd this J
    exact aj
   have a7:=qX (bh.o.tr a3.o.1);have ap:bx=if am=true then 9 else 9999999:=by
    rw[<- b6];unfold Jp;by_cases J:k=0/\(l.wd=Bd\/l.wd=atW\/l.wd=BF)
    · rw[if_pos J,if_pos (by rw[<- aN.o];exact qM J)]
    rw[if_neg J,if_neg (by rw[<- aN.o];simpa using J)]
   clear b6 z;by_cases cb:U<0
   ·
    have V:=qX (co.o (by omega));have cw:decide (U<0)=true:=qM cb;clear ap;cases am
    all_goals
     go_wp2
     go_ret2;exact⟨by rw[V.o];rfl,a7.o⟩
   have cw:decide (U<0)=false:=qF cb;by_cases bd:bx<U
   ·
    have V:=qX (co.o (by omega));cases am
    ·
     have av:decide (9999999<U)=true:=qM (by rw[if_neg (by decide)]at ap;omega);clear ap bd;go_wp2
     go_ret2;exact⟨by rw[V.o];rfl,a7.o⟩
    have av:decide (9<U)=true:=qM (by rw[if_pos rfl]at ap;omega);clear ap bd;go_wp2
    go_ret2;exact⟨by rw[V.o];rfl,a7.o⟩
   have cR:U<=9999999:=by have:=NY l k;rw[bt.o]at this;omega
   have b2:Hid (∀ aw,qW 11 #[.int .i64 U] aw (Ad (Go.Lib.itoa U))):=fun aw=>J4 U (by omega) (by omega) aw
   have cf:=J7 X [32] (by have:=bp.o.2;omega) (by simp);have cG:=Go.Lib.itoa_length_le U (by omega) (by omega);have bw:=J7 (X++[32]) (Go.Lib.itoa U) (by have:=bp.o.2;simp;omega) (by omega);have cl:a0++tailW (l.nm.take (k+1))=X++[32]++Go.Lib.itoa U:=by rw[YB bN.o,<- bp.o.1];simp
   have ci:=qX cl;have cq:Hid (∀(j:Nat) n,j<k+1->l.nm[j]? = some n->0<=n/\n<=Jp l j):=fun j n a8 ar=>by
    rcases qC j k with J|J
    · exact a3.o.2 j n J ar
    obtain rfl:j=k:=by omega
    rw[bN.o]at ar;cases ar
    rw[bt.o];omega
   obtain⟨y,b8⟩:=ex (Go.Lib.itoa U);rw[b8]at bw b2 ci;obtain⟨bv,b1⟩:∃ bv:ByteArray,⟨(X++[32]).toArray⟩=bv:=⟨_,rfl⟩
   have cV:∀ aw:World,(Op.stringOp .add ⟨X.toArray⟩ ⟨[32].toArray⟩).run Tryz.prog aw=.ok (.string bv) aw:=fun aw=>by rw[<- b1];exact cf aw
   rw[b1]at bw;rw[<- ci.o]at bw;clear cf cG cl b1 b8;cases am
   ·
    have av:decide (9999999<U)=false:=qF (by rw[if_neg (by decide)]at ap;omega);clear ap bd;go_wp2_with fail;refine(b2.o _).mono ?_
    rintro e cF ⟨rfl,a4⟩;have b4:=qX (a3.o.1.tr a4);clear a4;go_wp2
    go_roundw
    case rel=>exact⟨k+1,by omega,by go_num,by first | rfl | trivial,b4.o,cq.o⟩
    case measure=>simp[intOf];omega
   have av:decide (9<U)=false:=qF (by rw[if_pos rfl]at ap;omega);clear ap bd;go_wp2_with fail;refine(b2.o _).mono ?_
   rintro e cF ⟨rfl,a4⟩;have b4:=qX (a3.o.1.tr a4);clear a4;go_wp2
   go_roundw
   case rel=>exact⟨k+1,by omega,by go_num,by first | rfl | trivial,b4.o,cq.o⟩
   case measure=>simp[intOf];omega
  obtain rfl:k=E:=by omega
  have ca:l.nm.take k=l.nm:=by rw[<- ac.o,xA]
  have V:Hid (o=some (a0++tailW l.nm)):=by
   rcases b7.o with⟨-,-,J⟩|⟨J,-⟩
   · rw[N.o]at J;exact J
   refine absurd ⟨K.o,fun i n cm=>?_⟩ J;exact a3.o.2 i n (by have:=Af cm;rw[ac.o]at this;exact this) cm
  have a7:=qX (bh.o.tr a3.o.1);rw[ca];clear ca a2 bl z;go_wp2
  go_ret2;exact⟨by rw[V.o];rfl,a7.o⟩
def Ng (z h:List (List UInt8))(i:Nat)(s:Scr):Prop:=∃ t,G9 s (z.drop i) (h.drop i) t
theorem V7 {h z:List (List UInt8)}{s':Scr}(D:G9 Cr h z s'):Ng h z 0 Cr:=⟨s',D⟩
theorem YO {z h:List (List UInt8)}{i:Nat}{x:List UInt8}{s:Scr}(E:z[i]? = some x)(D:Ng z h i s):∃ out s1,Says s x out s1/\h[i]? = some out/\Ng z h (i+1) s1:=by
 obtain⟨t,H⟩:=D;have J:i<z.length:=by
  rcases qC i z.length with D|D
  · exact D
  rw[qH D]at E;cases E
 have N:z[i]=x:=by rw[qE J]at E;exact Option.some.inj E
 rw[List.drop_eq_getElem_cons J,N]at H;obtain⟨o,s1,rest,U,Q,I⟩:=H;have K:h[i]? = some o:=by
  have e:(h.drop i)[0]? = h[i]?:=by rw[List.getElem?_drop];rfl
  rw[<- e,I];rfl
 refine⟨o,s1,U,K,t,?_⟩;have O:h.drop (i+1)=rest:=by
  rw[<- List.drop_drop,I];rfl
 rw[O];exact Q
theorem ag {D h:List (List UInt8)}{A:Nat}(H:h.length=A)(E:∀(i:Nat) o,h[i]? = some o->D[i]? = some o):D.take A=h:=by
 apply List.ext_getElem?;intro i;rw[yR];split
 ·
  next hi=>
  obtain⟨o,z⟩:∃ o,h[i]? = some o:=⟨h[i],qE (by omega)⟩
  rw[z];exact E i o z
 next hi=>
 rw[qH (by omega)]
theorem WA (l:LL):∃ o,MJ l o:=by
 by_cases h:Gb l=true/\Qg l
 · exact⟨_,.inl ⟨h.1,h.2,rfl⟩⟩
 exact⟨_,.inr ⟨h,rfl⟩⟩
theorem Kc.whole {w:World}{B:Nat}{v:Value}{xs:List (List UInt8)}(z:Kc w B v xs):∃ a cap,v=.slice a xs.length cap/\CO w a xs/\xs.length<=cap/\(a=none->xs=[]/\cap=0):=by
 obtain⟨a,cap,e,I,E⟩:=z.value;refine⟨a,cap,e,I,E,fun K=>?_⟩;obtain⟨-,⟨h,H⟩|⟨b,N,O,h,-⟩⟩:=z
 ·
  rw[e]at h;injection h with _ _ J
  exact⟨qN.1 H,J⟩
 rw[e]at h;injection h with D
 rw[K]at D;cases D
def GV (w:World)(h:oA)(cap:Nat)(ns:List Int):Prop:=AR w h ns/\ns.length<=cap/\cap<=maxLen/\(h=none->ns=[]/\cap=0)
def PQ (w:World)(b o:Nat)(x:LL):Prop:=
 w.cell? ⟨b,o,none⟩=some (Ad x.wd)/\w.cell? ⟨b,o+1,none⟩=some (Ad x.kd)/\∃ h cap,w.cell? ⟨b,o+2,none⟩=some (.slice h x.nm.length cap)/\GV w h cap x.nm
theorem PQ.below {w w':World}{b o:Nat}{x:LL}(J:PQ w b o x)(h:zW w w'):PQ w' b o x:=by
 obtain⟨I,E,D,cap,H,z⟩:=J;exact⟨j7 h I,j7 h E,D,cap,j7 h H,z.1.below h,z.2⟩
def ji (w:World)(a:oA)(ls:List LL):Prop:=
 ls=[]\/∃ b h,a=some ⟨b,h,none⟩/\b<w.heap.size/\∀(i:Nat) x,ls[i]? = some x->PQ w b (h+i*3) x
open Go.ChangeShapes Go.WideShapes Go.ChangeAt Go.Deep
theorem Tryz.cellsLLine:Tryz.prog.cellsOf 29=3:=by kernel_rfl
section
variable {H:Type} {enc:TypeId × Value → H} {W:World}
theorem dR {fuel:Nat}{cs:List Value}{x:DataW H×List MemPlace}(Q:cs.length=3)(ab:DataW.trod enc Tryz.prog W 0 (fun _=>true) true fuel 29 cs=some x):∃(l:LL)(h:oA)(z:Nat),cs=[Ad l.wd,Ad l.kd,.slice h l.nm.length z]/\GV W h z l.nm/\l.wd.length<=maxLen/\l.kd.length<=maxLen/\l.nm.length<=maxLen:=by
 obtain⟨xs,k,-,-,-,ad,D⟩:=DataW.trod_struct Tryz.underlying29 ab
 match cs,Q,xs,ad with
 | [v0,v1,v2],_,[am,al,an],_=>
  have N:=D 0 _ rfl;have I:=D 1 _ rfl;have K:=D 2 _ rfl;simp[Tryz.cellsStr1,Tryz.cellsInts]at N I K
  obtain⟨Z,E,-,U⟩:=DataW.trod_string Tryz.underlying9 N;obtain⟨s1,O,-,aj⟩:=DataW.trod_string Tryz.underlying9 I;obtain⟨h,z,ns,J,ac,V,ai,Y⟩:=Zx K;simp at E O J
  subst E O J;exact⟨⟨Z.data.toList,s1.data.toList,ns⟩,h,z,rfl,⟨ac,V,ai,Y⟩,U,aj,by show ns.length<=_;omega⟩
theorem Z0 {a3:Nat}{v:Value}{d:DataW H}{p:List MemPlace}(a2:Value.okWide Tryz.prog W .any a3 22 v)
  (D:DataW.Trod enc Tryz.prog W 0 (fun _=>true) true 22 v d p) :
  ∃ a cap ls,v=.slice a (ls:List LL).length cap/\ji W a ls/\ls.length<=cap/\cap<=maxLen/\∀ x∈ls,x.wd.length<=maxLen/\x.kd.length<=maxLen/\x.nm.length<=maxLen:=by
 obtain⟨a7,z,aS,rfl⟩:=okWide_slice Tryz.underlying22 a2;obtain⟨fuel,av⟩:=D;rcases open_slice Tryz.underlying22 av with⟨J,_⟩|⟨h,len,cap,m,n,a6,a8,J,a5,am,a1,aB,-,I⟩
 ·
  simp[Value.cells]at J
  obtain⟨rfl,rfl,rfl⟩:=J;exact⟨none,0,[],rfl,.inl rfl,by simp,by simp[maxLen],fun x I=>by simp at I⟩
 simp[Value.cells]at J
 obtain⟨rfl,rfl,rfl⟩:=J;have a':z<=m:=by rw[aB];split <;> omega
 have Y:∀ i,i<z->∃ q:LL×oA×Nat,W.cell? (h.add (i*3))=some (Ad q.1.wd)/\W.cell? (h.add (i*3+1))=some (Ad q.1.kd)/\W.cell? (h.add (i*3+2))=some (.slice q.2.1 q.1.nm.length q.2.2)/\GV W q.2.1 q.2.2 q.1.nm/\q.1.wd.length<=maxLen/\q.1.kd.length<=maxLen/\q.1.nm.length<=maxLen:=by
  intro i E;obtain⟨bb,K,aN⟩:=I i (by omega);rw[Tryz.cellsLLine]at K;obtain⟨_,a9,Q⟩:=World.cells?_some K;obtain⟨l,al,ao,rfl,aw,an,a0,a4⟩:=dR (by omega) aN;have ai:=Q 0 (by omega);have Z:=Q 1 (by omega);have aj:=Q 2 (by omega);rw[add_add]at ai Z aj;exact⟨(l,al,ao),by simpa using ai,by simpa using Z,by simpa using aj,aw,an,a0,a4⟩
 obtain⟨q,O⟩:∃ q:Nat->LL×oA×Nat,∀ i,i<z->W.cell? (h.add (i*3))=some (Ad (q i).1.wd)/\W.cell? (h.add (i*3+1))=some (Ad (q i).1.kd)/\W.cell? (h.add (i*3+2))=some (.slice (q i).2.1 (q i).1.nm.length (q i).2.2)/\GV W (q i).2.1 (q i).2.2 (q i).1.nm/\(q i).1.wd.length<=maxLen/\(q i).1.kd.length<=maxLen/\(q i).1.nm.length<=maxLen:=
  ⟨fun i=>if D:i<z then Classical.choose (Y i D)else(⟨[],[],[]⟩,none,0),fun i E=>by simp only[dif_pos E];exact Classical.choose_spec (Y i E)⟩
 refine⟨some h,aS,(List.range z).map fun i=>(q i).1,by simp,?_,by simpa using am,a1,fun x I=>?_⟩
 ·
  by_cases aq:z=0
  · subst aq;exact .inl (by simp)
  obtain⟨b,aE,ap⟩:=h;have ad:=(O 0 (by omega)).1;have ar:ap=none:=by simpa[Addr.add]using World.cell?_spot ad
  subst ar;refine .inr ⟨b,aE,rfl,by simpa[Addr.add]using Cg ad,fun i x E=>?_⟩;have ab:i<z:=by
   rcases qC i z with D|D
   · exact D
   simp[D]at E
  simp[ab]at E
  obtain⟨N,U,V,ac,-⟩:=O i ab;rw[E]at N U V ac;rw[Addr.add_lit]at N U V;exact⟨N,by rw[Nat.add_assoc];exact U,(q i).2.1,(q i).2.2,by rw[Nat.add_assoc];exact V,ac⟩
 obtain⟨i,K,rfl⟩:=List.mem_map.1 I;obtain⟨-,-,-,-,g⟩:=O i (List.mem_range.1 K);exact g
end
theorem Us {z:World}(al:laidMetH Tryz.prog Rows.scriptPlaysRow.laid z)(an:z.ShapedOpen Tryz.prog):∃ ap,Env z ap:=by
 have bb:laidMet Tryz.prog (Rows.scriptPlaysRow.laid.take 4 ++ Rows.scriptPlaysRow.laid.drop 5) z /\ handlesMet Tryz.prog [("errors.errorType",Rows.laid_errors_errorType)] z:=al
 obtain⟨N,a3⟩:=bb;have a':=ZP a3;have aE:=Go.Lib.tabIs_of_head (k:=.u64) (zs:=Go.Lib.pow10Tab) (g:=9) (t:=234) (e:=200) (n:=20) (by kernel_rfl) (by kernel_rfl) Tryz.underlying234 Tryz.underlying200 (by kernel_rfl) (by kernel_rfl) N.tail.tail;have E:=N.tail.tail.tail.tail;obtain⟨h,aj,v0,a4,bg,bd⟩:=Du (g:=2) E rfl (by kernel_rfl) (by kernel_rfl);obtain⟨V,s1,v1,Y,ao,ac⟩:=Du (g:=0) E.tail rfl (by kernel_rfl) (by kernel_rfl);obtain⟨J,a6,v2,bh,be,aq⟩:=Du (g:=3) E.tail.tail rfl (by kernel_rfl) (by kernel_rfl);obtain⟨U,aB,v3,a1,ab,ai⟩:=Du (g:=1) E.tail.tail.tail rfl (by kernel_rfl) (by kernel_rfl);obtain⟨K,a5,a2,ar,W,Z⟩:=Du (g:=6) E.tail.tail.tail.tail rfl (by kernel_rfl) (by kernel_rfl);obtain⟨Q,a7,aS,aN,am,a0⟩:=Du (g:=4) E.tail.tail.tail.tail.tail rfl (by kernel_rfl) (by kernel_rfl);have H:∀ i,six i->∃ s:ByteArray,z.cell? (j4 h V J U K h h h Q i)=some (.string s)/\s.data.toList=AV ((i:Int)+1):=fun i D=>by
  have I:i=0\/i=1\/i=2\/i=3\/i=4\/i=8:=by unfold six at D;omega
  rcases I with rfl|rfl|rfl|rfl|rfl|rfl
  · exact⟨aj,a4,bg⟩
  · exact⟨s1,Y,ao⟩
  · exact⟨a6,bh,be⟩
  · exact⟨aB,a1,ab⟩
  · exact⟨a5,ar,W⟩
  exact⟨a7,aN,am⟩
 refine⟨j4 h V J U K h h h Q,⟨⟨a',v0,v1,v2,v3,a2,aS,?_,?_,H⟩,ZQ an,iH fun aw ad=>Go.Lib.tabBelow_of_tabIs aE aw ad⟩⟩
 · intro i j D O bc;obtain⟨s,bj,a8⟩:=H i D;obtain⟨u,a9,av⟩:=H j O;exact WB bj a9 a8 av (V9 i j D O bc)
 intro i D;have I:i=0\/i=1\/i=2\/i=3\/i=4\/i=8:=by unfold six at D;omega
 rcases I with rfl|rfl|rfl|rfl|rfl|rfl
 · exact bd
 · exact ac
 · exact aq
 · exact ai
 · exact Z
 exact a0
theorem WV (os:Os)(args:Array Value):laidMetH Tryz.prog Rows.scriptPlaysRow.laid ((Ke Tryz.prog os Rows.scriptPlaysRow.laid).forCall (fun _ _=>0) ⟨#[],args,[]⟩).memory:=
 laidMetH_of_parts3 (fuel:=8) (Xq args (by kernel_rfl) (by kernel_rfl)) (by kernel_rfl) (by kernel_rfl)
theorem Zj (c:Int)(I:0<=c/\c<=9)(w:World):Calls Tryz.prog 15 #[.int .i64 c] w fun e w'=>e=.returned (Ad (if c=0 then AP else AV c))/\zW w w':=by
 by_cases h:c=0
 ·
  subst h;have H:Hid (zW w w):=br;rw[if_pos rfl];clear I;go_in
  go_wp2
  go_ret;exact⟨rfl,H.o⟩
 rw[if_neg h];have z:=qX (Et c w (by omega));have J:decide (0<c)=true:=qM (by omega);obtain⟨t,D⟩:=ex (AV c);rw[D]at z ⊢;clear h D;go_in
 go_wp2_with fail;refine z.o.mono ?_
 rintro e K ⟨rfl,E⟩;go_wp2
 go_ret;exact⟨rfl,E⟩
theorem Hw {d:Nat}(h:d<10):(UInt8.ofNat (48+d)).toNat=48+d:=by
 rw[UInt8.toNat_ofNat'];omega
theorem O5 (u:Nat):∀ b∈decDigits u,48<=b.toNat/\b.toNat<=57:=by
 induction u using Nat.strongRecOn with
 | _ u D=>
 intro b z;rw[decDigits]at z;split at z
 ·
  rename_i h
  rw[vJ.1 z,Hw h];omega
 rename_i h
 rcases vI.1 z with z|z
 · exact D (u/10) (by omega) b z
 rw[vJ.1 z,Hw (by omega)];omega
theorem Oe:∀(l:List UInt8)(b:UInt8)(n m:Int),Ca l n=some m->¬(b.toNat<48\/57<b.toNat)->Ca (l++[b]) n=some (10*m+((b.toNat:Int)-48))
 | [],b,n,m,h,z=>by
  simp only[Ca,Option.some.injEq]at h;subst h;simp only[zC,Ca];rw[if_neg z]
 | c::l,b,n,m,h,z=>by
  simp only[Ca]at h;split at h
  · cases h
  rename_i hc
  simp only[yL,Ca];rw[if_neg hc];exact Oe l b _ m h z
theorem VC (u:Nat):Ca (decDigits u) 0=some (u:Int):=by
 induction u using Nat.strongRecOn with
 | _ u z=>
 rw[decDigits];split
 ·
  rename_i h
  have:=Hw h;simp only[Ca];rw[if_neg (by omega),this]
  congr 1
  omega
 rename_i h
 have e:=Hw (d:=u%10) (by omega);rw[Oe _ _ _ _ (z (u/10) (by omega)) (by omega),e]
 congr 1
 omega
theorem Rw (k:Nat):∀ u,u<10 ^ (k+1)->(decDigits u).length<=k+1:=by
 induction k with
 | zero=>
  intro u h;rw[decDigits,dif_pos (by simpa using h)];simp
 | succ k z=>
  intro u h;rw[decDigits];split
  · simp
  have:=z (u/10) (by rw[Nat.pow_succ]at h;omega);rw[qJ];simp
  omega
theorem Qh (u:Nat):(decDigits u).head? = some 48->u=0:=by
 induction u using Nat.strongRecOn with
 | _ u I=>
 rw[decDigits];split
 ·
  rename_i h
  intro e;simp only[List.head?_cons,Option.some.injEq]at e;have E:=Hw h;rw[e]at E;have J:(48:UInt8).toNat=48:=rfl;omega
 rename_i h
 intro e;have H:decDigits (u/10)≠[]:=by rw[decDigits];split <;> simp
 have D:(decDigits (u/10)).head? = some 48:=by
  cases z:decDigits (u/10)with
  | nil=>exact absurd z H
  | cons b r=>rw[z]at e;simpa using e
 have:=I (u/10) (by omega) D;omega
theorem LA {n:Int}(z:0<=n)(H:n<=9999999):Fp (itoa n)=some n:=by
 obtain⟨u,rfl⟩:∃ u:Nat,n=(u:Int):=⟨n.toNat,by omega⟩
 rw[itoa_nonneg];have E:(10:Nat) ^ (6+1)=10000000:=by decide
 have D:=Rw 6 u (by omega);have I:1<=(decDigits u).length:=by rw[decDigits];split <;> simp
 unfold Fp;rw[if_neg (by omega),if_neg ?_,VC];rintro⟨e,h⟩;have:=Qh u e;subst this;rw[decDigits,dif_pos (by omega)]at h;simp at h
theorem Nl {n:Int}(z:0<=n):(32:UInt8) ∉ itoa n:=by
 obtain⟨u,rfl⟩:∃ u:Nat,n=(u:Int):=⟨n.toNat,by omega⟩
 rw[itoa_nonneg];intro h;have:=O5 u 32 h;have e:(32:UInt8).toNat=32:=rfl;omega
theorem SF:∀(x:List UInt8),(32:UInt8) ∉ x->Gu x=(x,[],false)
 | [],_=>rfl
 | b::l,h=>by
  have z:¬b=32:=fun e=>h (by rw[e];simp)
  have D:=SF l fun e=>h (qG _ e)
  simp[Gu,z,D]
theorem NI:∀(x y:List UInt8),(32:UInt8) ∉ x->Gu (x++32::y)=(x,y,true)
 | [],y,_=>by simp[Gu]
 | b::l,y,h=>by
  have z:¬b=32:=fun e=>h (by rw[e];simp)
  have D:=NI l y fun e=>h (qG _ e)
  simp[Gu,z,D]
theorem Oa:∀(x:List UInt8),(32:UInt8) ∉ x->CJ x=[x]
 | [],_=>rfl
 | b::l,h=>by
  have z:¬b=32:=fun e=>h (by rw[e];simp)
  have D:=Oa l fun e=>h (qG _ e)
  simp[CJ,z,D]
theorem OB:∀(x y:List UInt8),(32:UInt8) ∉ x->CJ (x++32::y)=x::CJ y
 | [],y,_=>by simp[CJ]
 | b::l,y,h=>by
  have z:¬b=32:=fun e=>h (by rw[e];simp)
  have D:=OB l y fun e=>h (qG _ e)
  simp[CJ,z,D]
theorem Lc:∀(x:List UInt8)(ns:List Int),(32:UInt8) ∉ x->(∀ n∈ns,0<=n/\n<=9999999)->CJ (x++tailW ns)=x::ns.map itoa
 | x,[],h,_=>by simp[tailW,Oa x h]
 | x,n::ns,h,z=>by
  have e:tailW (n::ns)=32::(itoa n++tailW ns):=by simp[tailW]
  rw[e,OB x _ h,Lc (itoa n) ns (Nl (z n (by simp)).1) fun m D=>z m (qG _ D)];rfl
theorem J3:∀(ns:List Int),(∀ n∈ns,0<=n/\n<=9999999)->Ev (ns.map itoa)=some ns
 | [],_=>rfl
 | n::ns,h=>by
  have z:=h n (by simp);simp[Ev,LA z.1 z.2,J3 ns fun m D=>h m (qG _ D)]
end Go.Proofs.YtejlihcdfffafaaGreatDoor
