/- Own facts, put together: no statement of its own. -/
import Derived.Test.YtipdclphpkgceaaGreatDoorA26
import Derived.Test.YtipdclphpkgceaaGreatDoorA01
import Derived.Test.YtipdclphpkgceaaGreatDoorA13
import Derived.Test.YtipdclphpkgceaaGreatDoorA27
import Derived.Test.YtipdclphpkgceaaGreatDoorA05
import Derived.Test.YtipdclphpkgceaaGreatDoorA12
import Derived.Test.YtipdclphpkgceaaGreatDoorA15
import Derived.Test.YtipdclphpkgceaaGreatDoorA14
import Derived.Test.YtipdclphpkgceaaGreatDoorA02
set_option maxHeartbeats 1000000

namespace Go.Proofs.YtipdclphpkgceaaGreatDoor
open Go.RowKit
theorem aT {R:TypeId → Value → World → Prop} (a:Option Addr) (n cap:Nat) (v2:Value) (w:World)
  (hc:Calls Tryz.prog 89 #[.slice a n cap] w fun e w'=>∃ ty p,e=.returned (.iface ty p) ∧ R ty p w') :
  Calls Tryz.prog 119 #[.slice a n cap,v2] w fun e w'=>∃ ty p,e=.returned (.tuple #[.slice none 0 0,.iface ty p]) ∧ R ty p w':=by
 have HC:Hid (Calls Tryz.prog 89 #[.slice a n cap] w fun e w'=>∃ ty p,e=.returned (.iface ty p) ∧ R ty p w'):=hc
 clear hc
 go_enter Tryz.func119,Tryz.ntmps119
 go_wp2_with fail
 refine HC.out.mono ?_
 rintro e w1 ⟨ty,p,rfl,hR⟩
 have HR:Hid (R ty p w1):=hR
 clear hR
 go_wp2_with fail
 go_ret2
 exact ⟨ty,p,rfl,HR.out⟩
theorem Pv {la lb:List (Int × Int)} (h1:1 ≤ la.length) (h2:1 ≤ lb.length):1 ≤ (Bi la lb).length:=by
 rw [EI];exact Nat.mul_pos h1 h2
theorem Nt {la lb:List (Int × Int)} (h1:la.length ≤ 6) (h2:lb.length ≤ 6):(Bi la lb).length ≤ 36:=by
 rw [EI];exact Nat.le_trans (Nat.mul_le_mul h1 h2) (by decide)
theorem WU (a1 a2:Option Addr) (cap1 cap2:Nat) (la lb:List (Int × Int)) (w:World) (aB:Addr) (hB:w.cell? ⟨0,0,none⟩=some (.iface 312 (.pointer (some aB)))) (h1:AL w a1 la) (h2:AL w a2 lb) (k1:Ag la) (k2:Ag lb)
  (j:Nat) (hj:j < (Bi la lb).length) (hok:∀ i x y,i < j → (Bi la lb)[i]? = some (x,y) → BF x y=true) (hbad:∀ x y,(Bi la lb)[j]? = some (x,y) → BF x y=false) :
  Calls Tryz.prog 119 #[.slice a1 la.length cap1,.slice a2 lb.length cap2] w fun e w'=>e=.returned (.tuple #[.slice none 0 0,.iface 312 (.pointer (some aB))]) ∧ Below w.heap.size w w':=by
 have HL:Hid (AL w a1 la ∧ Ag la):=⟨h1,k1⟩
 have HM:Hid (AL w a2 lb ∧ Ag lb):=⟨h2,k2⟩
 have HK:Hid (w.cell? ⟨0,0,none⟩=some (.iface 312 (.pointer (some aB)))):=hB
 have HN:Hid (∀ i x y,i < j → (Bi la lb)[i]? = some (x,y) → BF x y=true):=hok
 have HX:Hid (∀ x y,(Bi la lb)[j]? = some (x,y) → BF x y=false):=hbad
 have hmost:=Nt k1.2.1 k2.2.1
 clear h1 h2 k1 k2 hB hok hbad
 go_enter Tryz.func119,Tryz.ntmps119
 go_wp2_with fail
 refine (EE _ _ la _ HL.out.1 HL.out.2).mono ?_
 rintro e w0 ⟨rfl,hb⟩
 have HB0:Hid (Below w.heap.size w w0):=hb
 clear hb
 go_wp2_with fail
 refine (EE _ _ lb _ (HM.out.1.below HB0.out) HM.out.2).mono ?_
 rintro e w1 ⟨rfl,hb⟩
 have HB1:Hid (Below w.heap.size w w1):=HB0.out.trans (hb.mono HB0.out.size)
 clear hb
 go_wp2_with fail
 refine (VH _ _ _ _ la lb _ (HL.out.1.below HB1.out) (HM.out.1.below HB1.out) HL.out.2.2.1 HM.out.2.2.1 HL.out.2.2.2 HM.out.2.2.2).mono ?_
 rintro e w2 ⟨v,rfl,ho,hb⟩
 have HB2:Hid (Below w.heap.size w w2):=HB1.out.trans (hb.mono HB1.out.size)
 obtain ⟨a0,n0,k0,rfl⟩:∃ a0 n0 k0,v=.slice a0 n0 k0:=by obtain ⟨a,c,e,_⟩:=A9.open ho;exact ⟨_,_,_,e⟩
 obtain ⟨rfl,-,-,hL2⟩:=A9.lies ho
 generalize Bi la lb=P at *
 obtain ⟨b,off,rfl,hlt,hc⟩:=hL2.some (by omega)
 clear ho hb hL2
 go_wp2_with fail
 go_loopw [27] (fun i wr=>∃ k:Nat,k ≤ j ∧ i=.int .i64 k ∧ Below w2.heap.size w2 wr) (fun i _=>P.length - (intOf i).toNat)
 case atStart=>exact ⟨0,Nat.zero_le _,rfl,Below.refl _ _⟩
 case round=>
  obtain ⟨k,hk,rfl,hb⟩:=hrel
  have hs:=hb.size
  have hkn:k < P.length:=by omega
  obtain ⟨⟨x,y⟩,hp,hm⟩:=Ai P k hkn
  have hc1:wr.cell? ⟨b,off+k * 2,none⟩=some (.int .i64 x):=cell_later hb (hc k x y hp).1
  have hc2:wr.cell? ⟨b,off+k * 2+1,none⟩=some (.int .i64 y):=cell_later hb (hc k x y hp).2
  have HB3:Hid (Below w.heap.size w wr):=HB2.out.trans (hb.mono HB2.out.size)
  by_cases hkj:k < j
  ·
   have Hxy:=(show Hid (BF x y=true) from HN.out k x y hkj hp)
   clear hc hp hm
   go_wp2_with (go_at_call 121;refine (Ir x y _ Hxy.out).mono ?_;rintro e w' ⟨rfl,rfl⟩)
   go_roundw
   case rel=>exact ⟨k+1,by omega,by go_num,(hb.alloc hs _).alloc (by simp;omega) _⟩
   case measure=>simp [intOf];omega
  ·
   obtain rfl:k=j:=by omega
   have Hxy:=(show Hid (BF x y=false) from HX.out x y hp)
   have HB4:Below w.heap.size w ((wr.alloc (.cells #[.int .i64 x,.int .i64 y] 83)).alloc (.cells #[.int .i64 x,.int .i64 y] 83)):=(HB3.out.alloc HB3.out.size _).alloc (by have:=HB3.out.size;simp;omega) _
   have hB4:((wr.alloc (.cells #[.int .i64 x,.int .i64 y] 83)).alloc (.cells #[.int .i64 x,.int .i64 y] 83)).cell? ⟨0,0,none⟩=some (.iface 312 (.pointer (some aB))):=cell_later HB4 HK.out
   have HB5:Hid (Below w.heap.size w ((wr.alloc (.cells #[.int .i64 x,.int .i64 y] 83)).alloc (.cells #[.int .i64 x,.int .i64 y] 83))):=HB4
   clear hc hp hm HB4
   go_wp2_with (go_at_call 121;refine (PG x y _ Hxy.out).mono ?_;rintro e w' ⟨rfl,rfl⟩)
   go_quiet (fail)
   go_wp2_with fail
   go_ret2
   exact ⟨rfl,below_drewN HB5.out _⟩
theorem aM (a1 a2:Option Addr) (cap1 cap2:Nat) (la lb:List (Int × Int)) (w:World) (aS:Addr) (hS:w.cell? ⟨2,0,none⟩=some (.iface 312 (.pointer (some aS)))) (h1:AL w a1 la) (h2:AL w a2 lb) (k1:Ag la) (k2:Ag lb) (hok:BJ (Bi la lb)) :
  Calls Tryz.prog 119 #[.slice a1 la.length cap1,.slice a2 lb.length cap2] w fun e w'=>∃ ls',ls'.Perm (Bi la lb) ∧ CO ls' ∧ Below w.heap.size w w' ∧
   ((6 < (Dy [] ls').length ∧ e=.returned (.tuple #[.slice none 0 0,.iface 312 (.pointer (some aS))])) ∨
    ((Dy [] ls').length ≤ 6 ∧ ∃ v,e=.returned (.tuple #[v,.nilIface]) ∧ A9 w' w.heap.size v (Dy [] ls').reverse)):=by
 have HL:Hid (AL w a1 la ∧ Ag la):=⟨h1,k1⟩
 have HM:Hid (AL w a2 lb ∧ Ag lb):=⟨h2,k2⟩
 have HK:Hid (w.cell? ⟨2,0,none⟩=some (.iface 312 (.pointer (some aS)))):=hS
 have HN:Hid (BJ (Bi la lb)):=hok
 have hmost:=Nt k1.2.1 k2.2.1
 have hpos:=Pv k1.1 k2.1
 clear h1 h2 k1 k2 hS hok
 go_enter Tryz.func119,Tryz.ntmps119
 go_wp2_with fail
 refine (EE _ _ la _ HL.out.1 HL.out.2).mono ?_
 rintro e w0 ⟨rfl,hb⟩
 have HB0:Hid (Below w.heap.size w w0):=hb
 clear hb
 go_wp2_with fail
 refine (EE _ _ lb _ (HM.out.1.below HB0.out) HM.out.2).mono ?_
 rintro e w1 ⟨rfl,hb⟩
 have HB1:Hid (Below w.heap.size w w1):=HB0.out.trans (hb.mono HB0.out.size)
 clear hb
 go_wp2_with fail
 refine (VH _ _ _ _ la lb _ (HL.out.1.below HB1.out) (HM.out.1.below HB1.out) HL.out.2.2.1 HM.out.2.2.1 HL.out.2.2.2 HM.out.2.2.2).mono ?_
 rintro e w2 ⟨v,rfl,ho,hb⟩
 have HB2:Hid (Below w.heap.size w w2):=HB1.out.trans (hb.mono HB1.out.size)
 obtain ⟨a0,n0,k0,rfl⟩:∃ a0 n0 k0,v=.slice a0 n0 k0:=by obtain ⟨a,c,e,_⟩:=A9.open ho;exact ⟨_,_,_,e⟩
 obtain ⟨rfl,-,-,hL2⟩:=A9.lies ho
 have HPE:Hid (∃ P,Bi la lb=P):=⟨_,rfl⟩
 obtain ⟨P,hPE⟩:=HPE.out
 have HP:Hid (Bi la lb=P):=hPE
 rw [hPE] at hL2 hmost hpos HN ⊢
 clear hPE
 obtain ⟨b,off,rfl,hlt,hc⟩:=hL2.some (by omega)
 have HL2:Hid (AL w2 (some ⟨b,off,none⟩) P):=hL2
 clear ho hb hL2
 go_wp2_with fail
 go_loopw [27] (fun i wr=>∃ k:Nat,k ≤ P.length ∧ i=.int .i64 k ∧ Below w2.heap.size w2 wr) (fun i _=>P.length - (intOf i).toNat)
 case atStart=>exact ⟨0,Nat.zero_le _,rfl,Below.refl _ _⟩
 case round=>
  obtain ⟨k,hk,rfl,hb⟩:=hrel
  have hs:=hb.size
  by_cases hkn:k < P.length
  ·
   obtain ⟨⟨x,y⟩,hp,hm⟩:=Ai P k hkn
   have hc1:wr.cell? ⟨b,off+k * 2,none⟩=some (.int .i64 x):=cell_later hb (hc k x y hp).1
   have hc2:wr.cell? ⟨b,off+k * 2+1,none⟩=some (.int .i64 y):=cell_later hb (hc k x y hp).2
   have Hxy:=(show Hid (BF x y=true) from HN.out _ hm)
   clear hc hp hm
   go_wp2_with (go_at_call 121;refine (Ir x y _ Hxy.out).mono ?_;rintro e w' ⟨rfl,rfl⟩)
   go_roundw
   case rel=>exact ⟨k+1,by omega,by go_num,(hb.alloc hs _).alloc (by simp;omega) _⟩
   case measure=>simp [intOf];omega
  ·
   have HB3:Hid (Below w.heap.size w wr):=HB2.out.trans (hb.mono HB2.out.size)
   have HL3:Hid (AL wr (some ⟨b,off,none⟩) P):=HL2.out.below hb
   clear hb hc
   go_wp2_with fail
   refine (WW _ k0 P _ HL3.out hpos (Nat.le_trans hmost (by decide)) HN.out).mono ?_
   rintro e w4 ⟨v,ls',rfl,hp,hso,ho,hb2⟩
   obtain ⟨a4,n4,k4,rfl⟩:∃ a0 n0 k0,v=.slice a0 n0 k0:=by obtain ⟨a,c,e,_⟩:=A9.open ho;exact ⟨_,_,_,e⟩
   obtain ⟨hn4,-,-,-⟩:=A9.lies ho
   rw [List.length_reverse] at hn4
   have hl4:n4 ≤ 36:=by have:=Rm ls' [];rw [hp.length_eq] at this;simp at this;omega
   have HB4:Hid (Below w.heap.size w w4):=HB3.out.trans (hb2.mono HB3.out.size)
   have HR:Hid (ls'.Perm P ∧ CO ls' ∧ A9 w4 w.heap.size (.slice a4 n4 k4) (Dy [] ls').reverse):=⟨hp,hso,CR ho HB3.out.size⟩
   have HN4:Hid (n4=(Dy [] ls').length):=hn4
   have hK4:w4.cell? ⟨2,0,none⟩=some (.iface 312 (.pointer (some aS))):=cell_later HB4.out HK.out
   clear hp hso ho hb2 hn4
   by_cases h6:6 < n4
   ·
    go_wp2_with fail
    go_quiet (fail)
    go_wp2_with fail
    go_ret2
    exact ⟨ls',HP.out ▸ HR.out.1,HR.out.2.1,below_drewN HB4.out _,.inl ⟨HN4.out ▸ h6,rfl⟩⟩
   ·
    go_wp2_with fail
    go_ret2
    exact ⟨ls',HP.out ▸ HR.out.1,HR.out.2.1,HB4.out,.inr ⟨by have:=HN4.out;omega,_,rfl,HR.out.2.2⟩⟩
end Go.Proofs.YtipdclphpkgceaaGreatDoor

namespace Go.Proofs.YtipdclphpkgceaaGreatDoor
def Cm (T:List (Int × Int)):Prop:=T.Pairwise fun a b=>a.2 < b.2 ∧ b.1 < a.1
def Behind (x:Int × Int) (T:List (Int × Int)):Prop:=∀ s,s ∈ T → x.2 < s.2 ∨ (x.2=s.2 ∧ x.1 ≤ s.1)
theorem R6 (x:Int × Int) (T:List (Int × Int)):∃ pre,T=pre ++ BZ x T:=by
 induction T with
 | nil=>exact ⟨[],rfl⟩
 | cons t r ih=>
  unfold BZ
  split
  · obtain ⟨pre,h⟩:=ih;exact ⟨t :: pre,by rw [List.cons_append,← h]⟩
  · exact ⟨[],rfl⟩
theorem Yb (x:Int × Int) (T:List (Int × Int)):BZ x T=[] ∨ ∃ t r,BZ x T=t :: r ∧ C9 x (t :: r)=false:=by
 induction T with
 | nil=>exact .inl rfl
 | cons t r ih=>
  unfold BZ
  split
  · exact ih
  · next h=>exact .inr ⟨t,r,rfl,by simpa using h⟩
theorem JC {x t:Int × Int} {r:List (Int × Int)} (h:C9 x (t :: r)=false):t.1 < x.1:=by
 match r,h with
 | [],h=>have:=of_decide_eq_false h;omega
 | u :: r,h=>
  have h':(decide (x.1 ≤ t.1) || decide ((x.1 - t.1) * (u.2 - t.2) ≤ (t.1 - u.1) * (t.2 - x.2)))=false:=h
  rw [Bool.or_eq_false_iff] at h'
  have:=of_decide_eq_false h'.1
  omega
theorem Gd {x:Int × Int} {T:List (Int × Int)} (hT:Cm T) (hx:Behind x T):Cm (x :: BZ x T):=by
 obtain ⟨pre,hp⟩:=R6 x T
 have hs:Cm (BZ x T):=by have h:=hT;unfold Cm at h;rw [hp,List.pairwise_append] at h;exact h.2.1
 refine List.pairwise_cons.2 ⟨fun s hs'=>?_,hs⟩
 rcases Yb x T with h | ⟨t,r,h,hc⟩
 · rw [h] at hs';cases hs'
 ·
  have ht:=JC hc
  rw [h] at hs hs'
  have hxt:=hx t (Fy x T t (by rw [h];exact List.mem_cons_self ..))
  have hpw:=List.pairwise_cons.1 hs
  rcases List.mem_cons.1 hs' with rfl | hr
  · omega
  ·
   have:=hpw.1 s hr
   omega
theorem Ws (l:List (Int × Int)):∀ T,Cm T → (∀ x,x ∈ l → Behind x T) → l.Pairwise (fun a b=>b.2 < a.2 ∨ (b.2=a.2 ∧ b.1 ≤ a.1)) → Cm (Dy T l):=by
 induction l with
 | nil=>intro T h _ _;exact h
 | cons x r ih=>
  intro T hT hb hs
  have hpc:=List.pairwise_cons.1 hs
  refine ih _ (Gd hT (hb x (List.mem_cons_self ..))) (fun y hy s hs'=>?_) hpc.2
  rcases List.mem_cons.1 hs' with rfl | hs'
  · exact hpc.1 y hy
  · exact hb y (List.mem_cons_of_mem _ hy) s (Fy x T s hs')
theorem FH {l:List (Int × Int)} (h:CO l):l.Pairwise (fun a b=>b.2 < a.2 ∨ (b.2=a.2 ∧ b.1 ≤ a.1)):=by
 rw [List.pairwise_iff_getElem]
 intro i j hi hj hij
 exact h i j _ _ hij (by simp [hi]) (by simp [hj])
theorem IA {l:List (Int × Int)} (h:CO l):Cm (Dy [] l):=
 Ws l [] List.Pairwise.nil (fun _ _ s hs=>by cases hs) (FH h)
def high (t:Int) (p:Int × Int):Int:=1000 * p.1+p.2 * t
theorem SS {x t u:Int × Int} {n:Int} (hxt:x.2 ≤ t.2) (htu:t.2 < u.2) (hc:(x.1 - t.1) * (u.2 - t.2) ≤ (t.1 - u.1) * (t.2 - x.2)):high n x ≤ high n t ∨ high n u ≤ high n t:=by
 unfold high
 by_cases h:1000 * x.1+x.2 * n ≤ 1000 * t.1+t.2 * n
 · exact .inl h
 ·
  refine .inr ?_
  have e1:(t.2 - x.2) * n=t.2 * n - x.2 * n:=Int.sub_mul ..
  have e2:(u.2 - t.2) * n=u.2 * n - t.2 * n:=Int.sub_mul ..
  have h1:(t.2 - x.2) * n < 1000 * (x.1 - t.1):=by omega
  have h2:(u.2 - t.2) * ((t.2 - x.2) * n) < (u.2 - t.2) * (1000 * (x.1 - t.1)):=Int.mul_lt_mul_of_pos_left h1 (by omega)
  have e3:(u.2 - t.2) * (1000 * (x.1 - t.1))=1000 * ((x.1 - t.1) * (u.2 - t.2)):=by rw [Int.mul_left_comm,Int.mul_comm (u.2 - t.2)]
  have e4:(u.2 - t.2) * ((t.2 - x.2) * n)=(t.2 - x.2) * ((u.2 - t.2) * n):=by rw [Int.mul_left_comm]
  have h3:(t.2 - x.2) * ((u.2 - t.2) * n) < (t.2 - x.2) * (1000 * (t.1 - u.1)):=by
   rw [← e4]
   have e5:(t.2 - x.2) * (1000 * (t.1 - u.1))=1000 * ((t.1 - u.1) * (t.2 - x.2)):=by rw [Int.mul_left_comm,Int.mul_comm (t.2 - x.2)]
   omega
  have h4:(u.2 - t.2) * n < 1000 * (t.1 - u.1):=by
   rcases (show (u.2 - t.2) * n < 1000 * (t.1 - u.1) ∨ 1000 * (t.1 - u.1) ≤ (u.2 - t.2) * n by omega) with h | h
   · exact h
   ·
    have:=Int.mul_le_mul_of_nonneg_left h (show 0 ≤ t.2 - x.2 by omega)
    omega
  omega
theorem RZ {x t:Int × Int} {n:Int} (hn:0 ≤ n) (h1:x.1 ≤ t.1) (h2:x.2 ≤ t.2):high n x ≤ high n t:=by
 unfold high
 have:=Int.mul_le_mul_of_nonneg_right h2 hn
 omega
theorem Zp {x:Int × Int} {n:Int} (hn:0 ≤ n) (T:List (Int × Int)):Cm T → Behind x T → ∀ s,s ∈ T → ∃ s',s' ∈ x :: BZ x T ∧ high n s' ≤ high n s:=by
 induction T with
 | nil=>intro _ _ s hs;cases hs
 | cons t r ih=>
  intro hT hx s hs
  have hpc:=List.pairwise_cons.1 hT
  have hx':Behind x r:=fun y hy=>hx y (List.mem_cons_of_mem _ hy)
  unfold BZ
  split
  ·
   next hc=>
   rcases List.mem_cons.1 hs with rfl | hs
   ·
    have hxs:=hx s (List.mem_cons_self ..)
    match r,hc,ih,hpc,hx' with
    | [],hc,_,_,_=>
     have:=of_decide_eq_true hc
     exact ⟨x,List.mem_cons_self ..,RZ hn this (by omega)⟩
    | u :: r,hc,ih,hpc,hx'=>
     have hc':(decide (x.1 ≤ s.1) || decide ((x.1 - s.1) * (u.2 - s.2) ≤ (s.1 - u.1) * (s.2 - x.2)))=true:=hc
     rw [Bool.or_eq_true] at hc'
     have hsu:=hpc.1 u (List.mem_cons_self ..)
     rcases hc' with h | h
     · exact ⟨x,List.mem_cons_self ..,RZ hn (of_decide_eq_true h) (by omega)⟩
     ·
      rcases SS (n:=n) (by omega) hsu.1 (of_decide_eq_true h) with h | h
      · exact ⟨x,List.mem_cons_self ..,h⟩
      ·
       obtain ⟨s',h1,h2⟩:=ih hpc.2 hx' u (List.mem_cons_self ..)
       exact ⟨s',h1,Int.le_trans h2 h⟩
   · exact ih hpc.2 hx' s hs
  · exact ⟨s,List.mem_cons_of_mem _ hs,Int.le_refl _⟩
theorem ZB {n:Int} (hn:0 ≤ n) (l:List (Int × Int)):∀ T,Cm T → (∀ x,x ∈ l → Behind x T) → l.Pairwise (fun a b=>b.2 < a.2 ∨ (b.2=a.2 ∧ b.1 ≤ a.1)) → ∀ s,s ∈ T ∨ s ∈ l → ∃ s',s' ∈ Dy T l ∧ high n s' ≤ high n s:=by
 induction l with
 | nil=>intro T _ _ _ s hs;rcases hs with hs | hs;exact ⟨s,hs,Int.le_refl _⟩;cases hs
 | cons x r ih=>
  intro T hT hb hs s hsm
  have hpc:=List.pairwise_cons.1 hs
  have hx:=hb x (List.mem_cons_self ..)
  have h:=ih (x :: BZ x T) (Gd hT hx) (fun y hy s hs'=>by
   rcases List.mem_cons.1 hs' with rfl | hs'
   · exact hpc.1 y hy
   · exact hb y (List.mem_cons_of_mem _ hy) s (Fy x T s hs')) hpc.2
  rcases hsm with hsm | hsm
  ·
   obtain ⟨s1,h1,h2⟩:=Zp hn T hT hx s hsm
   obtain ⟨s2,h3,h4⟩:=h s1 (.inl h1)
   exact ⟨s2,h3,Int.le_trans h4 h2⟩
  ·
   rcases List.mem_cons.1 hsm with rfl | hsm
   · exact h s (.inl (List.mem_cons_self ..))
   · exact h s (.inr hsm)
theorem UI {n:Int} (hn:0 ≤ n) {l:List (Int × Int)} (h:CO l) (s:Int × Int) (hs:s ∈ l):∃ s',s' ∈ Dy [] l ∧ high n s' ≤ high n s:=
 ZB hn l [] List.Pairwise.nil (fun _ _ s hs=>by cases hs) (FH h) s (.inr hs)
theorem Qa {l:List (Int × Int)} (h:CO l) (h1:1 ≤ l.length):1 ≤ (Dy [] l).length:=by
 cases l with
 | nil=>simp at h1
 | cons s r=>
  obtain ⟨s',hs',_⟩:=UI (n:=0) (Int.le_refl _) h s (List.mem_cons_self ..)
  exact List.length_pos_of_mem hs'
theorem V8 {a x:Int × Int} {L:List (Int × Int)} (ha:ET a L) (hx:x ∈ L) (T:List (Int × Int)):Cm T → Behind x T → (∀ s,s ∈ T → s ∈ L) → a ∈ T → a ∈ x :: BZ x T:=by
 induction T with
 | nil=>intro _ _ _ h;cases h
 | cons t r ih=>
  intro hT hb hs h
  have hpc:=List.pairwise_cons.1 hT
  unfold BZ
  split
  ·
   next hc=>
   rcases List.mem_cons.1 h with rfl | h
   ·
    by_cases hne:x=a
    · rw [hne];exact List.mem_cons_self ..
    ·
     exfalso
     rcases hb a (List.mem_cons_self ..) with h2 | ⟨h2,h1⟩
     ·
      have h1:=ha.flat x hx h2
      match r,hc,hpc,hs with
      | [],hc,_,_=>have:=of_decide_eq_true hc;omega
      | u :: r,hc,hpc,hs=>
       have hc':(decide (x.1 ≤ a.1) || decide ((x.1 - a.1) * (u.2 - a.2) ≤ (a.1 - u.1) * (a.2 - x.2)))=true:=hc
       rw [Bool.or_eq_true] at hc'
       rcases hc' with h | h
       · have:=of_decide_eq_true h;omega
       ·
        have h:=of_decide_eq_true h
        have:=ha.both u (hs u (by simp)) x hx (hpc.1 u (List.mem_cons_self ..)).1 h2
        omega
     ·
      have:=ha.same x hx h2 hne
      omega
   · exact ih hpc.2 (fun y hy=>hb y (List.mem_cons_of_mem _ hy)) (fun y hy=>hs y (List.mem_cons_of_mem _ hy)) h
  · exact List.mem_cons_of_mem _ h
theorem Xl {a:Int × Int} {L:List (Int × Int)} (ha:ET a L) (l:List (Int × Int)):∀ T,Cm T → (∀ x,x ∈ l → Behind x T) → l.Pairwise (fun a b=>b.2 < a.2 ∨ (b.2=a.2 ∧ b.1 ≤ a.1)) → (∀ s,s ∈ T → s ∈ L) → (∀ s,s ∈ l → s ∈ L) → a ∈ T ∨ a ∈ l → a ∈ Dy T l:=by
 induction l with
 | nil=>intro T _ _ _ _ _ h;rcases h with h | h;exact h;cases h
 | cons x r ih=>
  intro T hT hb hs hTL hlL h
  have hpc:=List.pairwise_cons.1 hs
  have hx:=hb x (List.mem_cons_self ..)
  have hxL:=hlL x (List.mem_cons_self ..)
  refine ih (x :: BZ x T) (Gd hT hx) (fun y hy s hs'=>?_) hpc.2 (fun s hs'=>?_) (fun s hs'=>hlL s (List.mem_cons_of_mem _ hs')) ?_
  ·
   rcases List.mem_cons.1 hs' with rfl | hs'
   · exact hpc.1 y hy
   · exact hb y (List.mem_cons_of_mem _ hy) s (Fy x T s hs')
  ·
   rcases List.mem_cons.1 hs' with rfl | hs'
   · exact hxL
   · exact hTL s (Fy x T s hs')
  ·
   rcases h with h | h
   · exact .inl (V8 ha hxL T hT hx hTL h)
   ·
    rcases List.mem_cons.1 h with rfl | h
    · exact .inl (List.mem_cons_self ..)
    · exact .inr h
def hgt (n d:Int) (p:Int × Int):Int:=d * p.1+n * p.2
theorem fwd {p q n1 d1 n2 d2:Int} (hd1:0 < d1) (hd2:0 < d2) (hq:0 ≤ q * (n2 * d1 - n1 * d2)) (h:0 ≤ d1 * p+n1 * q):0 ≤ d2 * p+n2 * q:=by
 have h1:0 ≤ d2 * (d1 * p+n1 * q):=Int.mul_nonneg (Int.le_of_lt hd2) h
 have h2:d1 * (d2 * p+n2 * q)=d2 * (d1 * p+n1 * q)+q * (n2 * d1 - n1 * d2):=by simp only [Int.mul_add,Int.mul_sub,Int.mul_comm,Int.mul_left_comm];omega
 have h3:0 ≤ d1 * (d2 * p+n2 * q):=by omega
 exact Int.nonneg_of_mul_nonneg_right h3 hd1
theorem M3 {a b:Int × Int} {n1 d1 n2 d2:Int} (hd1:0 < d1) (hd2:0 < d2) (hq:a.2 ≤ b.2) (ht:n1 * d2 ≤ n2 * d1) (h:hgt n1 d1 a ≤ hgt n1 d1 b):hgt n2 d2 a ≤ hgt n2 d2 b:=by
 unfold hgt at *
 have:=fwd (p:=b.1 - a.1) (q:=b.2 - a.2) (n1:=n1) (d1:=d1) (n2:=n2) (d2:=d2) hd1 hd2 (Int.mul_nonneg (by omega) (by omega)) (by simp only [Int.mul_sub];omega)
 simp only [Int.mul_sub] at this
 omega
theorem N9 {a b:Int × Int} {n1 d1 n2 d2:Int} (hd1:0 < d1) (hd2:0 < d2) (hq:b.2 ≤ a.2) (ht:n2 * d1 ≤ n1 * d2) (h:hgt n1 d1 a ≤ hgt n1 d1 b):hgt n2 d2 a ≤ hgt n2 d2 b:=by
 unfold hgt at *
 have:=fwd (p:=b.1 - a.1) (q:=b.2 - a.2) (n1:=n1) (d1:=d1) (n2:=n2) (d2:=d2) hd1 hd2 (by
  have:0 ≤ (a.2 - b.2) * (n1 * d2 - n2 * d1):=Int.mul_nonneg (by omega) (by omega)
  have e:(b.2 - a.2) * (n2 * d1 - n1 * d2)=(a.2 - b.2) * (n1 * d2 - n2 * d1):=by simp only [Int.mul_sub,Int.mul_comm,Int.mul_left_comm];omega
  omega) (by simp only [Int.mul_sub];omega)
 simp only [Int.mul_sub] at this
 omega
def loN:List (Int × Int) → Int
 | t :: u :: _=>t.1 - u.1
 | _=>0
def loD:List (Int × Int) → Int
 | t :: u :: _=>u.2 - t.2
 | _=>1
theorem Tw {T:List (Int × Int)} (h:Cm T):0 ≤ loN T ∧ 0 < loD T:=by
 match T,h with
 | [],_=>exact ⟨Int.le_refl _,Int.one_pos⟩
 | [_],_=>exact ⟨Int.le_refl _,Int.one_pos⟩
 | t :: u :: r,h=>
  have:=(List.pairwise_cons.1 h).1 u (List.mem_cons_self ..)
  show 0 ≤ t.1 - u.1 ∧ 0 < u.2 - t.2
  omega
theorem J8 (t u:Int × Int) (r:List (Int × Int)):hgt (loN (t :: u :: r)) (loD (t :: u :: r)) t=hgt (loN (t :: u :: r)) (loD (t :: u :: r)) u:=by
 simp only [hgt,loN,loD,Int.mul_sub,Int.mul_comm];omega
theorem YP {x t:Int × Int} {r:List (Int × Int)} (hT:Cm (t :: r)) (hx:x.2 ≤ t.2):C9 x (t :: r)=true ↔ hgt (loN (t :: r)) (loD (t :: r)) x ≤ hgt (loN (t :: r)) (loD (t :: r)) t:=by
 match r,hT with
 | [],_=>
  show decide (x.1 ≤ t.1)=true ↔ 1 * x.1+0 * x.2 ≤ 1 * t.1+0 * t.2
  rw [decide_eq_true_iff];omega
 | u :: r,hT=>
  have hu:=(List.pairwise_cons.1 hT).1 u (List.mem_cons_self ..)
  show (decide (x.1 ≤ t.1) || decide ((x.1 - t.1) * (u.2 - t.2) ≤ (t.1 - u.1) * (t.2 - x.2)))=true ↔ (u.2 - t.2) * x.1+(t.1 - u.1) * x.2 ≤ (u.2 - t.2) * t.1+(t.1 - u.1) * t.2
  have e:(t.1 - u.1) * (t.2 - x.2) - (x.1 - t.1) * (u.2 - t.2)=((u.2 - t.2) * t.1+(t.1 - u.1) * t.2) - ((u.2 - t.2) * x.1+(t.1 - u.1) * x.2):=by simp only [Int.mul_sub,Int.mul_comm];omega
  rw [Bool.or_eq_true,decide_eq_true_iff,decide_eq_true_iff]
  constructor
  ·
   rintro (h | h)
   ·
    have h1:=Int.mul_le_mul_of_nonneg_left h (show 0 ≤ u.2 - t.2 by omega)
    have h2:=Int.mul_le_mul_of_nonneg_left hx (show 0 ≤ t.1 - u.1 by omega)
    omega
   · omega
  · intro h;exact .inr (by omega)
def OM (P:List (Int × Int)):List (Int × Int) → Prop
 | []=>True
 | t :: r=>(∀ b,b ∈ P → hgt (loN (t :: r)) (loD (t :: r)) t ≤ hgt (loN (t :: r)) (loD (t :: r)) b) ∧ (∀ u r',r=u :: r' → hgt (loN r) (loD r) u < hgt (loN r) (loD r) t) ∧ OM P r
def aU (P:List (Int × Int)) (x z:Int × Int):Prop:=(∀ b,b ∈ P → z.2 ≤ b.2) ∨ ∃ n d:Int,0 < d ∧ (∀ b,b ∈ P → hgt n d z ≤ hgt n d b) ∧ hgt n d x ≤ hgt n d z
theorem ME {x z:Int × Int} {n d:Int} (h:hgt n d z < hgt n d x):n * (z.2 - x.2) < (x.1 - z.1) * d:=by
 unfold hgt at h
 have e:(x.1 - z.1) * d - n * (z.2 - x.2)=(d * x.1+n * x.2) - (d * z.1+n * z.2):=by simp only [Int.mul_sub,Int.mul_comm];omega
 omega
theorem RL {x z:Int × Int} {n d:Int} (h:hgt n d z ≤ hgt n d x):n * (z.2 - x.2) ≤ (x.1 - z.1) * d:=by
 unfold hgt at h
 have e:(x.1 - z.1) * d - n * (z.2 - x.2)=(d * x.1+n * x.2) - (d * z.1+n * z.2):=by simp only [Int.mul_sub,Int.mul_comm];omega
 omega
theorem LD {x z:Int × Int} {n d:Int} (h:hgt n d x ≤ hgt n d z):(x.1 - z.1) * d ≤ n * (z.2 - x.2):=by
 unfold hgt at h
 have e:(x.1 - z.1) * d - n * (z.2 - x.2)=(d * x.1+n * x.2) - (d * z.1+n * z.2):=by simp only [Int.mul_sub,Int.mul_comm];omega
 omega
theorem aL {P:List (Int × Int)} {x:Int × Int} (r:List (Int × Int)):∀ z,Cm (z :: r) → OM P (z :: r) → Behind x (z :: r) → aU P x z →
  OM P (BZ x (z :: r)) ∧ (∀ b,b ∈ P → hgt (loN (x :: BZ x (z :: r))) (loD (x :: BZ x (z :: r))) x ≤ hgt (loN (x :: BZ x (z :: r))) (loD (x :: BZ x (z :: r))) b) ∧
   (∀ u r',BZ x (z :: r)=u :: r' → x.2 ≤ u.2 ∧ hgt (loN (u :: r')) (loD (u :: r')) u < hgt (loN (u :: r')) (loD (u :: r')) x):=by
 induction r with
 | nil=>
  intro z hT hL hb ht
  have hxz:x.2 ≤ z.2:=by have:=hb z (List.mem_cons_self ..);omega
  have hcv:=YP hT hxz
  by_cases hc:C9 x [z]=true
  ·
   have e:BZ x [z]=[]:=by unfold BZ;rw [if_pos hc];rfl
   rw [e]
   refine ⟨trivial,fun b hb'=>?_,fun u r' h=>by cases h⟩
   have h1:=hL.1 b hb'
   have h2:=hcv.1 hc
   show 1 * x.1+0 * x.2 ≤ 1 * b.1+0 * b.2
   have h1':1 * z.1+0 * z.2 ≤ 1 * b.1+0 * b.2:=h1
   have h2':1 * x.1+0 * x.2 ≤ 1 * z.1+0 * z.2:=h2
   omega
  ·
   have e:BZ x [z]=[z]:=by unfold BZ;rw [if_neg hc]
   rw [e]
   have hlt:hgt (loN [z]) (loD [z]) z < hgt (loN [z]) (loD [z]) x:=by
    rcases Int.lt_or_le (hgt (loN [z]) (loD [z]) z) (hgt (loN [z]) (loD [z]) x) with h | h
    · exact h
    · exact absurd (hcv.2 h) hc
   have hlt':1 * z.1+0 * z.2 < 1 * x.1+0 * x.2:=hlt
   have hxz':x.2 < z.2:=by have:=hb z (List.mem_cons_self ..);omega
   refine ⟨hL,fun b hb'=>?_,fun u r' h=>by cases h;exact ⟨hxz,hlt⟩⟩
   rw [J8 x z []]
   show hgt (x.1 - z.1) (z.2 - x.2) z ≤ hgt (x.1 - z.1) (z.2 - x.2) b
   rcases Int.le_total z.2 b.2 with hq | hq
   · exact M3 (n1:=0) (d1:=1) (by decide) (by omega) hq (by omega) (hL.1 b hb')
   ·
    rcases ht with ht | ⟨n,d,hd,h1,h2⟩
    · exact M3 (n1:=0) (d1:=1) (by decide) (by omega) (ht b hb') (by omega) (hL.1 b hb')
    · exact N9 hd (by omega) hq (LD h2) (h1 b hb')
 | cons u r ih=>
  intro z hT hL hb ht
  have hxz:x.2 ≤ z.2:=by have:=hb z (List.mem_cons_self ..);omega
  have hcv:=YP hT hxz
  have hlo:=Tw hT
  have hpc:=List.pairwise_cons.1 hT
  by_cases hc:C9 x (z :: u :: r)=true
  ·
   have e:BZ x (z :: u :: r)=BZ x (u :: r):=by rw [BZ.eq_def];simp only [];rw [if_pos hc]
   rw [e]
   refine ih u hpc.2 hL.2.2 (fun y hy=>hb y (List.mem_cons_of_mem _ hy)) (.inr ⟨loN (z :: u :: r),loD (z :: u :: r),hlo.2,fun b hb'=>?_,?_⟩)
   · rw [← J8];exact hL.1 b hb'
   · rw [← J8];exact hcv.1 hc
  ·
   have e:BZ x (z :: u :: r)=z :: u :: r:=by rw [BZ.eq_def];simp only [];rw [if_neg hc]
   rw [e]
   have hlt:hgt (loN (z :: u :: r)) (loD (z :: u :: r)) z < hgt (loN (z :: u :: r)) (loD (z :: u :: r)) x:=by
    rcases Int.lt_or_le (hgt (loN (z :: u :: r)) (loD (z :: u :: r)) z) (hgt (loN (z :: u :: r)) (loD (z :: u :: r)) x) with h | h
    · exact h
    · exact absurd (hcv.2 h) hc
   have hz1:z.1 < x.1:=JC (by simpa using hc)
   have hxz':x.2 < z.2:=by have:=hb z (List.mem_cons_self ..);omega
   refine ⟨hL,fun b hb'=>?_,fun u r' h=>by cases h;exact ⟨hxz,hlt⟩⟩
   rw [J8 x z (u :: r)]
   show hgt (x.1 - z.1) (z.2 - x.2) z ≤ hgt (x.1 - z.1) (z.2 - x.2) b
   have hml:=ME hlt
   rcases Int.le_total z.2 b.2 with hq | hq
   · exact M3 hlo.2 (by omega) hq (Int.le_of_lt hml) (hL.1 b hb')
   ·
    rcases ht with ht | ⟨n,d,hd,h1,h2⟩
    · exact M3 hlo.2 (by omega) (ht b hb') (Int.le_of_lt hml) (hL.1 b hb')
    · exact N9 hd (by omega) hq (LD h2) (h1 b hb')
theorem Zz {P:List (Int × Int)} {x:Int × Int} (r:List (Int × Int)):∀ t,Cm (t :: r) → OM P (t :: r) → (∀ s,s ∈ t :: r → s ∈ P) → x.2 ≤ t.2 → hgt (loN (t :: r)) (loD (t :: r)) t ≤ hgt (loN (t :: r)) (loD (t :: r)) x → OM (P ++ [x]) (t :: r):=by
 induction r with
 | nil=>
  intro t hT hL hs hx h
  refine ⟨fun b hb=>?_,hL.2.1,trivial⟩
  rcases List.mem_append.1 hb with hb | hb
  · exact hL.1 b hb
  · rw [List.mem_singleton.1 hb];exact h
 | cons u r ih=>
  intro t hT hL hs hx h
  have hpc:=List.pairwise_cons.1 hT
  have htu:=hpc.1 u (List.mem_cons_self ..)
  refine ⟨fun b hb=>?_,hL.2.1,ih u hpc.2 hL.2.2 (fun s hs'=>hs s (List.mem_cons_of_mem _ hs')) (by omega) ?_⟩
  ·
   rcases List.mem_append.1 hb with hb | hb
   · exact hL.1 b hb
   · rw [List.mem_singleton.1 hb];exact h
  ·
   have hut:=hL.2.2.1 t (hs t (List.mem_cons_self ..))
   have hl1:=Tw hT
   have hl2:=Tw hpc.2
   have hm:=RL hut
   have h2:hgt (loN (u :: r)) (loD (u :: r)) t ≤ hgt (loN (u :: r)) (loD (u :: r)) x:=N9 hl1.2 hl2.2 hx hm h
   omega
theorem aJ (l:List (Int × Int)):∀ T P,Cm T → OM P T → (∀ s,s ∈ T → s ∈ P) → (T=[] → P=[]) → (∀ z r,T=z :: r → ∀ b,b ∈ P → z.2 ≤ b.2) → (∀ x,x ∈ l → Behind x P) → l.Pairwise (fun a b=>b.2 < a.2 ∨ (b.2=a.2 ∧ b.1 ≤ a.1)) →
  OM (P ++ l) (Dy T l) ∧ (∀ z r,Dy T l=z :: r → ∀ b,b ∈ P ++ l → z.2 ≤ b.2):=by
 induction l with
 | nil=>intro T P _ hL _ _ hz _ _;rw [List.append_nil];exact ⟨hL,hz⟩
 | cons x r ih=>
  intro T P hT hL hs hn hz hb hp
  have hpc:=List.pairwise_cons.1 hp
  have hxP:=hb x (List.mem_cons_self ..)
  have hx:Behind x T:=fun s hs'=>hxP s (hs s hs')
  have e:P ++ x :: r=(P ++ [x]) ++ r:=by simp
  rw [e]
  show OM ((P ++ [x]) ++ r) (Dy (x :: BZ x T) r) ∧ (∀ z r_1,Dy (x :: BZ x T) r=z :: r_1 → ∀ b,b ∈ (P ++ [x]) ++ r → z.2 ≤ b.2)
  refine ih (x :: BZ x T) (P ++ [x]) (Gd hT hx) ?_ ?_ (fun h=>by cases h) ?_ ?_ hpc.2
  ·
   match T,hT,hL,hs,hn,hz,hx with
   | [],_,_,_,hn,_,_=>
    rw [hn rfl]
    refine ⟨fun b hb'=>?_,fun u r' h=>(by cases h),trivial⟩
    rw [List.mem_singleton.1 hb']
    exact Int.le_refl _
   | z :: r',hT,hL,hs,hn,hz,hx=>
    obtain ⟨h1,h2,h3⟩:=aL r' z hT hL hx (.inl (hz z r' rfl))
    refine ⟨fun b hb'=>?_,fun u r'' h=>?_,?_⟩
    ·
     rcases List.mem_append.1 hb' with hb' | hb'
     · exact h2 b hb'
     · rw [List.mem_singleton.1 hb'];exact Int.le_refl _
    · rw [h];exact (h3 u r'' h).2
    ·
     rcases hq:BZ x (z :: r') with _ | ⟨u,r''⟩
     · trivial
     ·
      have hst:=Gd hT hx
      rw [hq] at hst h1
      have hu:=h3 u r'' hq
      exact Zz r'' u (List.pairwise_cons.1 hst).2 h1 (fun s hs'=>hs s (Fy x _ s (by rw [hq];exact hs'))) hu.1 (Int.le_of_lt hu.2)
  ·
   intro s hs'
   rcases List.mem_cons.1 hs' with rfl | hs'
   · simp
   · exact List.mem_append.2 (.inl (hs s (Fy x T s hs')))
  ·
   intro z r' h b hb'
   injection h with h _
   rw [← h]
   rcases List.mem_append.1 hb' with hb' | hb'
   · have:=hxP b hb';omega
   · rw [List.mem_singleton.1 hb'];exact Int.le_refl _
  ·
   intro y hy b hb'
   rcases List.mem_append.1 hb' with hb' | hb'
   · exact hb y (List.mem_cons_of_mem _ hy) b hb'
   · rw [List.mem_singleton.1 hb'];exact hpc.1 y hy
def az (P:List (Int × Int)) (a:Int × Int):Prop:=∃ n1 d1 n2 d2:Int,0 ≤ n1 ∧ 0 < d1 ∧ 0 < d2 ∧ n1 * d2 < n2 * d1 ∧ (∀ b,b ∈ P → hgt n1 d1 a ≤ hgt n1 d1 b) ∧ (∀ b,b ∈ P → hgt n2 d2 a ≤ hgt n2 d2 b)
theorem ZF {P:List (Int × Int)} (r:List (Int × Int)):∀ z,Cm (z :: r) → OM P (z :: r) → ((∀ b,b ∈ P → z.2 ≤ b.2) ∨ ∃ n d:Int,0 < d ∧ loN (z :: r) * d < n * loD (z :: r) ∧ (∀ b,b ∈ P → hgt n d z ≤ hgt n d b)) → ∀ a,a ∈ z :: r → az P a:=by
 have top:∀ (z:Int × Int) (r:List (Int × Int)),Cm (z :: r) → OM P (z :: r) → ((∀ b,b ∈ P → z.2 ≤ b.2) ∨ ∃ n d:Int,0 < d ∧ loN (z :: r) * d < n * loD (z :: r) ∧ (∀ b,b ∈ P → hgt n d z ≤ hgt n d b)) → az P z:=by
  intro z r hT hL ht
  have hlo:=Tw hT
  rcases ht with ht | ⟨n,d,hd,hlt,h⟩
  ·
   have hlt:loN (z :: r) * loD (z :: r) < (loN (z :: r)+loD (z :: r)) * loD (z :: r):=Int.mul_lt_mul_of_pos_right (by omega) hlo.2
   exact ⟨loN (z :: r),loD (z :: r),loN (z :: r)+loD (z :: r),loD (z :: r),hlo.1,hlo.2,hlo.2,hlt,hL.1,fun b hb=>M3 hlo.2 hlo.2 (ht b hb) (Int.le_of_lt hlt) (hL.1 b hb)⟩
  · exact ⟨loN (z :: r),loD (z :: r),n,d,hlo.1,hlo.2,hd,hlt,hL.1,h⟩
 induction r with
 | nil=>
  intro z hT hL ht a ha
  rcases List.mem_cons.1 ha with rfl | ha
  · exact top a [] hT hL ht
  · cases ha
 | cons u r ih=>
  intro z hT hL ht a ha
  have hlo:=Tw hT
  have hpc:=List.pairwise_cons.1 hT
  rcases List.mem_cons.1 ha with rfl | ha
  · exact top a (u :: r) hT hL ht
  ·
   refine ih u hpc.2 hL.2.2 (.inr ⟨loN (z :: u :: r),loD (z :: u :: r),hlo.2,?_,fun b hb=>?_⟩) a ha
   · exact ME (hL.2.1 u r rfl)
   · rw [← J8];exact hL.1 b hb
theorem Xt {P:List (Int × Int)} {a:Int × Int} (h:az P a):ET a P:=by
 obtain ⟨n1,d1,n2,d2,h0,hd1,hd2,hlt,h1,h2⟩:=h
 have hn2:0 < n2:=by
  have h3:0 ≤ n1 * d2:=Int.mul_nonneg h0 (Int.le_of_lt hd2)
  have h4:0 < n2 * d1:=by omega
  exact Int.pos_of_mul_pos_left h4 hd1
 have hflat:∀ c,c ∈ P → c.2 < a.2 → 0 < d2 * (c.1 - a.1) ∧ n2 * (a.2 - c.2) ≤ d2 * (c.1 - a.1):=by
  intro c hc hl
  have:=h2 c hc
  unfold hgt at this
  have h5:0 < n2 * (a.2 - c.2):=Int.mul_pos hn2 (by omega)
  simp only [Int.mul_sub] at *
  omega
 refine ⟨fun b hb he hne=>?_,fun c hc hl=>?_,fun b hb c hc hab hca=>?_⟩
 ·
  have:=h1 b hb
  unfold hgt at this
  rw [he] at this
  have h5:a.1 ≤ b.1:=Int.le_of_mul_le_mul_left (by omega) hd1
  have:a.1 ≠ b.1:=fun e=>hne (Prod.ext e.symm he)
  omega
 ·
  have:=Int.pos_of_mul_pos_right (hflat c hc hl).1 hd2
  omega
 ·
  have hc':=(hflat c hc hca).2
  have hb':d1 * (a.1 - b.1) ≤ n1 * (b.2 - a.2):=by
   have:=h1 b hb
   unfold hgt at this
   simp only [Int.mul_sub];omega
  have hX:0 < b.2 - a.2:=by omega
  have hY:0 < a.2 - c.2:=by omega
  generalize b.2 - a.2=X at *
  generalize a.2 - c.2=Y at *
  generalize a.1 - b.1=A at *
  generalize c.1 - a.1=C at *
  have s1:(d2 * Y) * (d1 * A) ≤ (d2 * Y) * (n1 * X):=Int.mul_le_mul_of_nonneg_left hb' (Int.le_of_lt (Int.mul_pos hd2 hY))
  have s2:(X * Y) * (n1 * d2) < (X * Y) * (n2 * d1):=Int.mul_lt_mul_of_pos_left hlt (Int.mul_pos hX hY)
  have s3:(d1 * X) * (n2 * Y) ≤ (d1 * X) * (d2 * C):=Int.mul_le_mul_of_nonneg_left hc' (Int.le_of_lt (Int.mul_pos hd1 hX))
  have e1:(d2 * Y) * (d1 * A)=(d1 * d2) * (A * Y):=by simp only [Int.mul_comm,Int.mul_left_comm]
  have e2:(d2 * Y) * (n1 * X)=(X * Y) * (n1 * d2):=by simp only [Int.mul_comm,Int.mul_left_comm]
  have e3:(X * Y) * (n2 * d1)=(d1 * X) * (n2 * Y):=by simp only [Int.mul_comm,Int.mul_left_comm]
  have e4:(d1 * X) * (d2 * C)=(d1 * d2) * (C * X):=by simp only [Int.mul_comm,Int.mul_left_comm]
  exact Int.lt_of_mul_lt_mul_left (show (d1 * d2) * (A * Y) < (d1 * d2) * (C * X) by omega) (Int.le_of_lt (Int.mul_pos hd1 hd2))
theorem PP {a:Int × Int} {l ls:List (Int × Int)} (hp:l.Perm ls) (h:ET a l):ET a ls:=
 ⟨fun b hb=>h.same b (hp.mem_iff.2 hb),fun c hc=>h.flat c (hp.mem_iff.2 hc),fun b hb c hc=>h.both b (hp.mem_iff.2 hb) c (hp.mem_iff.2 hc)⟩
theorem P5 {l ls:List (Int × Int)} (hp:l.Perm ls) (h:CO l) (a:Int × Int):a ∈ Dy [] l ↔ a ∈ ls ∧ ET a ls:=by
 have hs:=FH h
 have hst:=IA h
 constructor
 ·
  intro ha
  have hm:a ∈ l:=by
   rcases M5 l [] a ha with h' | h'
   · cases h'
   · exact h'
  refine ⟨hp.mem_iff.1 hm,PP hp ?_⟩
  have:=aJ l [] [] List.Pairwise.nil trivial (fun _ h=>h) (fun _=>rfl) (fun _ _ h=>by cases h) (fun _ _ s hs=>by cases hs) hs
  rw [List.nil_append] at this
  rcases hq:Dy [] l with _ | ⟨z,r⟩
  · rw [hq] at ha;cases ha
  ·
   rw [hq] at ha hst this
   exact Xt (ZF r z hst this.1 (.inl (this.2 z r rfl)) a ha)
 ·
  rintro ⟨hm,ha⟩
  exact Xl (PP hp.symm ha) l [] List.Pairwise.nil (fun _ _ s hs=>by cases hs) hs (fun _ h=>by cases h) (fun _ h=>h) (.inr (hp.mem_iff.2 hm))
theorem Lc {l:List (Int × Int)} (h:CO l):Lp (Dy [] l).reverse:=by
 have hs:=IA h
 unfold Lp
 unfold Cm at hs
 rw [List.pairwise_reverse]
 rw [List.pairwise_iff_getElem] at hs ⊢
 exact fun i j hi hj hij=>(hs i j hi hj hij).1
theorem RS {L R l:List (Int × Int)} (h:EY L L.length R) (hp:l.Perm L) (hs:CO l):R=(Dy [] l).reverse:=by
 refine JS h.falls (Lc hs) fun a=>?_
 rw [h.mem a,List.mem_reverse,P5 hp hs]
 constructor
 · rintro ⟨h1,k,_,e⟩;exact ⟨List.mem_of_getElem? e,h1⟩
 ·
  rintro ⟨h1,h2⟩
  obtain ⟨k,hk⟩:=List.mem_iff_getElem?.1 h1
  exact ⟨h2,k,(List.getElem?_eq_some_iff.1 hk).1,hk⟩
end Go.Proofs.YtipdclphpkgceaaGreatDoor

namespace Go.Proofs.YtipdclphpkgceaaGreatDoor
open Go.RowKit
def Ld (P L:List (Int × Int)):Prop:=∃ l,l.Perm P ∧ CO l ∧ L=(Dy [] l).reverse
theorem WQ {P L R:List (Int × Int)} (h:EY P P.length R) (ht:Ld P L):R=L:=by
 obtain ⟨l,hp,hs,rfl⟩:=ht
 exact RS h hp hs
def BK (la lb:List (Int × Int)) (code:Int) (L:List (Int × Int)):Prop:=
 (¬ BJ (Bi la lb) ∧ code=2 ∧ L=[]) ∨
 (BJ (Bi la lb) ∧ ∃ R,Ld (Bi la lb) R ∧ ((6 < R.length ∧ code=3 ∧ L=[]) ∨ (R.length ≤ 6 ∧ code=0 ∧ L=R)))
theorem Ub {la lb L:List (Int × Int)} {code:Int} (h:BK la lb code L):code=2 ∨ code=3 ∨ code=0:=by
 rcases h with ⟨-,h,-⟩ | ⟨-,R,-,⟨-,h,-⟩ | ⟨-,h,-⟩⟩
 · exact .inl h
 · exact .inr (.inl h)
 · exact .inr (.inr h)
theorem YU {la lb L:List (Int × Int)} {code:Int} {w w':World} {e:Ending} (h:VZ la lb w w' e) (hr:BK la lb code L):∃ v,e=.returned (.tuple #[v,.int .i64 code]) ∧ A9 w' w.heap.size v L ∧ Below w.heap.size w w':=by
 obtain ⟨hb,⟨hn,rfl⟩ | ⟨hok,R,hk,h⟩⟩:=h
 ·
  rcases hr with ⟨-,rfl,rfl⟩ | ⟨h,-⟩
  · exact ⟨_,rfl,World.ownsRow_nil _ _ _ _,hb⟩
  · exact absurd h hn
 ·
  rcases hr with ⟨h,-⟩ | ⟨-,R',ht,h'⟩
  · exact absurd hok h
  ·
   obtain rfl:=WQ hk ht
   rcases h with ⟨h6,rfl⟩ | ⟨h6,v,rfl,ho⟩
   ·
    rcases h' with ⟨-,rfl,rfl⟩ | ⟨h6',-⟩
    · exact ⟨_,rfl,World.ownsRow_nil _ _ _ _,hb⟩
    · omega
   ·
    rcases h' with ⟨h6',-⟩ | ⟨-,rfl,rfl⟩
    · omega
    · exact ⟨v,rfl,ho,hb⟩
def Hw (cs:List (List (Int × Int))) (j:Nat):Prop:=j ≤ 8 ∧ (∀ i,i < j → Af cs i ≠ []) ∧ (j=8 ∨ Af cs j=[])
section
end
def leL (x y:Int × Int):Bool:=decide (y.2 < x.2 ∨ (y.2=x.2 ∧ y.1 ≤ x.1))
theorem XN (L:List (Int × Int)):∃ l,l.Perm L ∧ CO l:=by
 refine ⟨L.mergeSort leL,List.mergeSort_perm L leL,fun i j x y hij hx hy=>?_⟩
 have hp:=List.pairwise_mergeSort (le:=leL) (fun a b c h1 h2=>by simp only [leL,decide_eq_true_eq] at *;omega) (fun a b=>by simp only [leL,Bool.or_eq_true,decide_eq_true_eq];omega) L
 have:=List.pairwise_iff_getElem.1 hp i j (Ad hx) (Ad hy) hij
 rw [(List.getElem?_eq_some_iff.1 hx).2,(List.getElem?_eq_some_iff.1 hy).2] at this
 exact of_decide_eq_true this
theorem PH {L R:List (Int × Int)} (h:EY L L.length R):Ld L R:=by
 obtain ⟨l,hp,hs⟩:=XN L
 exact ⟨l,hp,hs,RS h hp hs⟩
theorem Ld.one {P L L':List (Int × Int)} (h:Ld P L) (h':Ld P L'):L=L':=by
 obtain ⟨l,hp,hs,rfl⟩:=h
 obtain ⟨l',hp',hs',rfl⟩:=h'
 refine JS (Lc hs) (Lc hs') fun a=>?_
 rw [List.mem_reverse,List.mem_reverse,P5 hp hs,P5 hp' hs']
theorem IW:Jc BK where
 ok:=fun la lb L h1 h2 h=>by
  rcases h with ⟨-,h,-⟩ | ⟨hok,R,⟨l,hp,hs,rfl⟩,⟨-,h,-⟩ | ⟨h6,-,rfl⟩⟩
  · omega
  · omega
  ·
   have hpos:=Qa hs (by rw [hp.length_eq];exact Pv h1.1 h2.1)
   refine ⟨by rw [List.length_reverse];exact hpos,h6,fun a ha=>?_⟩
   rcases M5 l [] a (List.mem_reverse.1 ha) with h | h
   · cases h
   · exact hok a (hp.mem_iff.1 h)
 num:=fun la lb c L h=>by
  rcases Ub h with h | h | h <;> omega
 one:=fun la lb c L c' L' _ _ h h'=>by
  rcases h with ⟨h,rfl,rfl⟩ | ⟨hok,R,ht,h⟩
  ·
   rcases h' with ⟨-,rfl,rfl⟩ | ⟨hok',-⟩
   · exact ⟨rfl,rfl⟩
   · exact absurd hok' h
  ·
   rcases h' with ⟨hn,-⟩ | ⟨-,R',ht',h'⟩
   · exact absurd hok hn
   ·
    obtain rfl:=ht.one ht'
    rcases h with ⟨h6,rfl,rfl⟩ | ⟨h6,rfl,rfl⟩
    ·
     rcases h' with ⟨-,rfl,rfl⟩ | ⟨h6',-⟩
     · exact ⟨rfl,rfl⟩
     · omega
    ·
     rcases h' with ⟨h6',-⟩ | ⟨-,rfl,rfl⟩
     · omega
     · exact ⟨rfl,rfl⟩
def BS (per:Int) (L:List (Int × Int)) (o:Option Int):Prop:=(∃ d,o=some d ∧ Ey per L d ∧ EX L * per ≤ 1000) ∨ (o=none ∧ 1000 < EX L * per)
def CF (per:Int) (L:List (Int × Int)) (o:Option Int):Prop:=(∃ n,o=some (per * n) ∧ JK per L n) ∨ (o=none ∧ Me per L)
theorem Ey.le {per d d':Int} {L:List (Int × Int)} (hL:Ag L) (h1:1 ≤ per) (h:Ey per L d) (h':Ey per L d'):d ≤ d':=by
 obtain ⟨k,e,hh,-,-,-⟩:=h.at_
 obtain ⟨c0,c1⟩:=Y6 L k hL hh
 have u:=h'.upper _ c0
 have m:=Int.mul_le_mul_of_nonneg_left c1 (show 0 ≤ per by omega)
 unfold Da at e
 omega
theorem QS (per:Int) (L:List (Int × Int)) (o o':Option Int) (hL:Ag L) (h1:1 ≤ per) (_:per ≤ 1000) (h:BS per L o) (h':BS per L o'):o=o':=by
 rcases h with ⟨d,rfl,hd,hs⟩ | ⟨rfl,hs⟩
 ·
  rcases h' with ⟨d',rfl,hd',-⟩ | ⟨-,hs'⟩
  ·
   have a1:=hd.le hL h1 hd'
   have a2:=hd'.le hL h1 hd
   rw [show d=d' by omega]
  · omega
 ·
  rcases h' with ⟨d',-,-,hs'⟩ | ⟨rfl,-⟩
  · omega
  · rfl
theorem JK.le {per n m:Int} {L:List (Int × Int)} (hL:Ag L) (h1:1 ≤ per) (h:JK per L n) (h':JK per L m):n ≤ m:=by
 rcases Int.lt_or_le m n with hlt | hle
 ·
  rcases h.least with h2 | h2
  · have:=h'.one;omega
  ·
   have:=VL hL h1 h'.one (show m ≤ n - 1 by omega) h'.is_
   rw [this] at h2
   cases h2
 · exact hle
theorem Rw (per:Int) (L:List (Int × Int)) (o o':Option Int) (hL:Ag L) (h1:1 ≤ per) (_:per ≤ 1000) (h:CF per L o) (h':CF per L o'):o=o':=by
 rcases h with ⟨n,rfl,hn⟩ | ⟨rfl,hn⟩
 ·
  rcases h' with ⟨m,rfl,hm⟩ | ⟨-,hm⟩
  ·
   have a1:=hn.le hL h1 hm
   have a2:=hm.le hL h1 hn
   rw [show n=m by omega]
  ·
   have:=hm n hn.one hn.most
   rw [hn.is_] at this
   cases this
 ·
  rcases h' with ⟨m,-,hm⟩ | ⟨rfl,-⟩
  ·
   have:=hn m hm.one hm.most
   rw [hm.is_] at this
   cases this
  · rfl
end Go.Proofs.YtipdclphpkgceaaGreatDoor
