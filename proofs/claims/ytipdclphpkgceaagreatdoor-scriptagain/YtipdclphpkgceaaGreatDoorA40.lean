/- Own facts, put together: no statement of its own. -/
import Derived.Lib.ItoaLen
import Derived.Test.YtipdclphpkgceaaGreatDoorA29
import Derived.Deep.DeepCutAuto
import Derived.Deep.CutBlock
import Derived.Test.YtipdclphpkgceaaGreatDoorA39
import Derived.Test.YtipdclphpkgceaaGreatDoorA22
import Derived.Test.YtipdclphpkgceaaGreatDoorA23
set_option maxHeartbeats 8000000
set_option maxRecDepth 100000

namespace Go.Proofs.YtipdclphpkgceaaGreatDoor
open Go.Lib
def YY:List UInt8:=[114,97,110,107]
def ag:List UInt8:=[100,117,101]
def U5:List UInt8:=[114,111,117,110,100]
def Yj:List UInt8:=[102,97,105,114]
def KU (k:List UInt8):Bool:=decide (k=G7) || decide (k=YY) || decide (k=ag) || decide (k=U5) || decide (k=Yj)
structure LL where
 wd:List UInt8
 kd:List UInt8
 nm:List Int
def FC (l:LL):Bool:=
 if l.wd=EJ then l.nm.length % 2 == 1 else if l.wd=Jz then l.nm.length == 1 && KU l.kd else if l.wd=FZ then l.nm.length == 8
 else if l.wd=CQ then l.nm.length == 3 else if l.wd=atW then l.nm.length == 2
 else if l.wd=La ∨ l.wd=Oq ∨ l.wd=Gz ∨ l.wd=Gx then l.nm.length == 0 else false
def Cc (l:LL):List UInt8:=if l.wd=Jz then l.wd ++ [32] ++ l.kd else l.wd
def Ij (l:LL) (i:Nat):Int:=if i=0 ∧ (l.wd=CQ ∨ l.wd=atW ∨ l.wd=EJ) then 9 else 9999999
def QJ (l:LL):Prop:=∀ (i:Nat) n,l.nm[i]? = some n → 0 ≤ n ∧ n ≤ Ij l i
def tailW (ns:List Int):List UInt8:=ns.flatMap fun n=>32 :: itoa n
def PS (l:LL) (o:Option (List UInt8)):Prop:=(FC l=true ∧ QJ l ∧ o=some (Cc l ++ tailW l.nm)) ∨ (¬ (FC l=true ∧ QJ l) ∧ o=none)
theorem Ux {ns:List Int} {i:Nat} {n:Int} (h:ns[i]? = some n):tailW (ns.take (i+1))=tailW (ns.take i) ++ [32] ++ itoa n:=by
 rw [List.take_add_one,h]
 simp [tailW]
theorem KX:∀ (ns:List Int),(∀ n ∈ ns,0 ≤ n ∧ n ≤ 9999999) → (tailW ns).length ≤ 22 * ns.length
 | [],_=>by simp [tailW]
 | n :: ns,h=>by
  have ih:=KX ns fun m hm=>h m (List.mem_cons_of_mem _ hm)
  have h0:=h n (List.mem_cons_self ..)
  have hl:=itoa_length_le n (by omega) (by omega)
  have e:tailW (n :: ns)=(32 :: itoa n) ++ tailW ns:=by simp [tailW]
  rw [e,List.length_append,List.length_cons,List.length_cons]
  omega
theorem KO (l:LL) (i:Nat):Ij l i ≤ 9999999:=by
 unfold Ij
 split <;> omega
theorem QM {l:LL} (h:QJ l):∀ n ∈ l.nm,0 ≤ n ∧ n ≤ 9999999:=fun n hn=>by
 obtain ⟨i,hi⟩:=List.mem_iff_getElem?.1 hn
 have h1:=h i n hi
 have h2:=KO l i
 omega
theorem Oc {l:LL} (h1:l.wd.length ≤ 60) (h2:l.kd.length ≤ 60):(Cc l).length ≤ 121:=by
 unfold Cc
 split
 · simp;omega
 · omega
theorem Y4 {l:LL} {x:List UInt8} (h:PS l (some x)) (h1:l.wd.length ≤ 60) (h2:l.kd.length ≤ 60) (h3:l.nm.length ≤ 20):x.length ≤ 600:=by
 rcases h with ⟨-,hf,e⟩ | ⟨-,e⟩
 ·
  cases e
  have:=KX l.nm (QM hf)
  have:=Oc h1 h2
  rw [List.length_append]
  omega
 · cases e
end Go.Proofs.YtipdclphpkgceaaGreatDoor

namespace Go.Proofs.YtipdclphpkgceaaGreatDoor
open Go.RowKit
theorem UU (k:List UInt8) (w:World):Calls Tryz.prog 17 #[Ah k] w fun e w'=>e=.returned (.bool (KU k)) ∧ w'=w:=by
 obtain ⟨ks,hks⟩:∃ ks:ByteArray,⟨k.toArray⟩=ks:=⟨_,rfl⟩
 obtain ⟨b0,h0⟩:∃ b,decide (k=G7)=b:=⟨_,rfl⟩
 obtain ⟨b1,h1⟩:∃ b,decide (k=YY)=b:=⟨_,rfl⟩
 obtain ⟨b2,h2⟩:∃ b,decide (k=ag)=b:=⟨_,rfl⟩
 obtain ⟨b3,h3⟩:∃ b,decide (k=U5)=b:=⟨_,rfl⟩
 obtain ⟨b4,h4⟩:∃ b,decide (k=Yj)=b:=⟨_,rfl⟩
 have hv:KU k=(b0 || b1 || b2 || b3 || b4):=by unfold KU;rw [h0,h1,h2,h3,h4]
 obtain ⟨t0,u0⟩:=Ak k _ ks hks b0 h0
 obtain ⟨t1,u1⟩:=Ak k _ ks hks b1 h1
 obtain ⟨t2,u2⟩:=Ak k _ ks hks b2 h2
 obtain ⟨t3,u3⟩:=Ak k _ ks hks b3 h3
 obtain ⟨t4,u4⟩:=Ak k _ ks hks b4 h4
 unfold G7 at t0 u0
 unfold YY at t1 u1
 unfold ag at t2 u2
 unfold U5 at t3 u3
 unfold Yj at t4 u4
 rw [hv]
 show Calls Tryz.prog 17 #[.string ⟨k.toArray⟩] w _
 rw [hks]
 clear hv h0 h1 h2 h3 h4 hks
 cases b0 <;> cases b1 <;> cases b2 <;> cases b3 <;> cases b4
 all_goals
  go_enter Tryz.func17,Tryz.ntmps17
  go_wp2_with fail
  go_ret
  exact ⟨rfl,rfl⟩
theorem eqN (N k:Nat) (z:Int) (h:z=(k:Int)):((N:Int) == z)=(N == k):=by
 subst h
 by_cases e:N=k
 · subst e;simp
 ·
  have a:((N:Int) == (k:Int))=false:=by simp;omega
  have b:(N == k)=false:=by simp [e]
  rw [a,b]
def VQ (o:Option (List UInt8)) (w:World) (e:Ending) (w':World):Prop:=e=.returned (.tuple #[Ah (o.getD []),.bool o.isSome]) ∧ Below w.heap.size w w'
theorem WA (l:LL) (na:Option Addr) (cap:Nat) (w:World) (hn:AV w na l.nm) (hl:l.nm.length ≤ 20) (h1:l.wd.length ≤ 60) (h2:l.kd.length ≤ 60) (o:Option (List UInt8)) (ho:PS l o) :
  Calls Tryz.prog 10 #[.agg #[Ah l.wd,Ah l.kd,.slice na l.nm.length cap]] w fun e w'=>VQ o w e w':=by
 obtain ⟨N,hN⟩:∃ N,l.nm.length=N:=⟨_,rfl⟩
 have HN:Hid (l.nm.length=N):=hN
 rw [hN] at hl ⊢
 obtain ⟨ks,hks⟩:∃ ks:ByteArray,⟨l.wd.toArray⟩=ks:=⟨_,rfl⟩
 have hks':Ah l.wd=.string ks:=by rw [← hks]
 have HKs:Hid (⟨l.wd.toArray⟩=ks):=hks
 rw [hks']
 obtain ⟨hd,hhd⟩:∃ hd,Cc l=hd:=⟨_,rfl⟩
 have HH:Hid (Cc l=hd):=hhd
 obtain ⟨is,his⟩:∃ is,FC l=is:=⟨_,rfl⟩
 have HI:Hid (FC l=is):=his
 have HO:Hid (PS l o):=ho
 have HL:Hid (AV w na l.nm):=hn
 clear hN hn ho hks' hhd his
 obtain ⟨W1,hW1⟩:∃ W1,w.alloc (.cells #[.string ks,Ah l.kd,.slice na N cap] 34)=W1:=⟨_,rfl⟩
 have HW1:Hid (w.alloc (.cells #[.string ks,Ah l.kd,.slice na N cap] 34)=W1):=hW1
 clear hW1
 go_enter Tryz.func10,Tryz.ntmps10
 go_upto_block 0 with fail
 go_cut [5,6] from 14 (fun s5 s6 wx=>s5=Ah hd ∧ s6=.bool is ∧ W1=wx)
 case first=>
  by_cases e0:l.wd=[99,117,114,118,101]
  ·
   have n0:=e0
   obtain ⟨t0,u0⟩:=Ak l.wd [99,117,114,118,101] ks hks true (by rw [n0];decide)
   have hH:Cc l=l.wd:=by unfold Cc;rw [if_neg (by rw [n0];decide)]
   have hI:FC l=(N % 2 == 1):=by unfold FC;rw [if_pos (by rw [n0];rfl),HN.out]
   rw [hI] at HI
   rw [hH] at HH
   rcases Nat.mod_two_eq_zero_or_one N with hp | hp
   ·
    have hq:(N:Int).tmod 2=0:=by rw [Int.tmod_eq_emod_of_nonneg (by omega)];omega
    rw [hp] at HI
    clear hI hH hks n0 e0 hp
    go_wp2_with fail
    go_meet
    exact ⟨by rw [← HKs.out,HH.out],by rw [← HI.out];rfl,HW1.out.symm⟩
   ·
    have hq:(N:Int).tmod 2=1:=by rw [Int.tmod_eq_emod_of_nonneg (by omega)];omega
    rw [hp] at HI
    clear hI hH hks n0 e0 hp
    go_wp2_with fail
    go_meet
    exact ⟨by rw [← HKs.out,HH.out],by rw [← HI.out];rfl,HW1.out.symm⟩
  by_cases e1:l.wd=[108,105,110,107]
  ·
   have n0:=e1
   obtain ⟨t0,u0⟩:=Ak l.wd [99,117,114,118,101] ks hks false (by rw [n0];decide)
   obtain ⟨t1,u1⟩:=Ak l.wd [108,105,110,107] ks hks true (by rw [n0];decide)
   have hH:Cc l=l.wd ++ [32] ++ l.kd:=by unfold Cc;rw [if_pos (by rw [n0];rfl)]
   have hI:FC l=(N == 1 && KU l.kd):=by unfold FC;rw [if_neg (by rw [n0];decide),if_pos (by rw [n0];rfl),HN.out]
   rw [hI] at HI
   rw [hH] at HH
   have c1:=Il l.wd [32] (by omega) (by simp)
   have c2:=Il (l.wd ++ [32]) l.kd (by simp;omega) (by omega)
   rw [HH.out] at c2
   rw [hks] at c1
   obtain ⟨d1,hd1⟩:∃ d1:ByteArray,⟨(l.wd ++ [32]).toArray⟩=d1:=⟨_,rfl⟩
   have c1':∀ W:World,(Op.stringOp .add ks ⟨[32].toArray⟩).run Tryz.prog W=.ok (.string d1) W:=fun W=>by rw [← hd1];exact c1 W
   rw [hd1] at c2
   by_cases h1:N=1
   ·
    rw [h1] at HI
    have HI':Hid (KU l.kd=is):=by show _=_;rw [← HI.out];rfl
    have HK:Hid (∀ W,Calls Tryz.prog 17 #[Ah l.kd] W fun e w'=>e=.returned (.bool is) ∧ w'=W):=fun W=>by rw [← HI'.out];exact UU l.kd W
    subst h1
    clear hI hH hks n0 e0 e1 c1 hd1
    go_wp2_with (go_at_call 17;refine (HK.out _).mono ?_;rintro e w' ⟨rfl,rfl⟩)
    go_meet
    exact ⟨rfl,rfl,HW1.out.symm⟩
   ·
    have h1':((N:Int) == 1)=false:=by simp;omega
    have HI':Hid (false=is):=by show _=_;rw [← HI.out];simp [h1]
    clear hI hH hks n0 e0 e1 c1 hd1
    go_wp2_with fail
    go_meet
    exact ⟨rfl,by rw [HI'.out],HW1.out.symm⟩
  by_cases e2:l.wd=[110,117,109,98,101,114,115]
  ·
   have n0:=e2
   obtain ⟨t0,u0⟩:=Ak l.wd [99,117,114,118,101] ks hks false (by rw [n0];decide)
   obtain ⟨t1,u1⟩:=Ak l.wd [108,105,110,107] ks hks false (by rw [n0];decide)
   obtain ⟨t2,u2⟩:=Ak l.wd [110,117,109,98,101,114,115] ks hks true (by rw [n0];decide)
   have hH:Cc l=l.wd:=by unfold Cc;rw [if_neg (by rw [n0];decide)]
   have hI:FC l=(N == 8):=by unfold FC;rw [if_neg (by rw [n0];decide),if_neg (by rw [n0];decide),if_pos (by rw [n0];rfl),HN.out]
   rw [hI] at HI
   rw [hH] at HH
   have HI':Hid (((N:Int) == 8)=is):=by show _=_;rw [← HI.out];exact eqN N 8 8 rfl
   clear hI hH hks n0 e0 e1 e2
   go_wp2_with fail
   go_meet
   exact ⟨by rw [← HKs.out,HH.out],by rw [← HI'.out],HW1.out.symm⟩
  by_cases e3:l.wd=[112,97,99,107,101,116]
  ·
   have n0:=e3
   obtain ⟨t0,u0⟩:=Ak l.wd [99,117,114,118,101] ks hks false (by rw [n0];decide)
   obtain ⟨t1,u1⟩:=Ak l.wd [108,105,110,107] ks hks false (by rw [n0];decide)
   obtain ⟨t2,u2⟩:=Ak l.wd [110,117,109,98,101,114,115] ks hks false (by rw [n0];decide)
   obtain ⟨t3,u3⟩:=Ak l.wd [112,97,99,107,101,116] ks hks true (by rw [n0];decide)
   have hH:Cc l=l.wd:=by unfold Cc;rw [if_neg (by rw [n0];decide)]
   have hI:FC l=(N == 3):=by unfold FC;rw [if_neg (by rw [n0];decide),if_neg (by rw [n0];decide),if_neg (by rw [n0];decide),if_pos (by rw [n0];rfl),HN.out]
   rw [hI] at HI
   rw [hH] at HH
   have HI':Hid (((N:Int) == 3)=is):=by show _=_;rw [← HI.out];exact eqN N 3 3 rfl
   clear hI hH hks n0 e0 e1 e2 e3
   go_wp2_with fail
   go_meet
   exact ⟨by rw [← HKs.out,HH.out],by rw [← HI'.out],HW1.out.symm⟩
  by_cases e4:l.wd=[97,116]
  ·
   have n0:=e4
   obtain ⟨t0,u0⟩:=Ak l.wd [99,117,114,118,101] ks hks false (by rw [n0];decide)
   obtain ⟨t1,u1⟩:=Ak l.wd [108,105,110,107] ks hks false (by rw [n0];decide)
   obtain ⟨t2,u2⟩:=Ak l.wd [110,117,109,98,101,114,115] ks hks false (by rw [n0];decide)
   obtain ⟨t3,u3⟩:=Ak l.wd [112,97,99,107,101,116] ks hks false (by rw [n0];decide)
   obtain ⟨t4,u4⟩:=Ak l.wd [97,116] ks hks true (by rw [n0];decide)
   have hH:Cc l=l.wd:=by unfold Cc;rw [if_neg (by rw [n0];decide)]
   have hI:FC l=(N == 2):=by unfold FC;rw [if_neg (by rw [n0];decide),if_neg (by rw [n0];decide),if_neg (by rw [n0];decide),if_neg (by rw [n0];decide),if_pos (by rw [n0];rfl),HN.out]
   rw [hI] at HI
   rw [hH] at HH
   have HI':Hid (((N:Int) == 2)=is):=by show _=_;rw [← HI.out];exact eqN N 2 2 rfl
   clear hI hH hks n0 e0 e1 e2 e3 e4
   go_wp2_with fail
   go_meet
   exact ⟨by rw [← HKs.out,HH.out],by rw [← HI'.out],HW1.out.symm⟩
  by_cases e5:l.wd=[99,108,101,97,114]
  ·
   have n0:=e5
   obtain ⟨t0,u0⟩:=Ak l.wd [99,117,114,118,101] ks hks false (by rw [n0];decide)
   obtain ⟨t1,u1⟩:=Ak l.wd [108,105,110,107] ks hks false (by rw [n0];decide)
   obtain ⟨t2,u2⟩:=Ak l.wd [110,117,109,98,101,114,115] ks hks false (by rw [n0];decide)
   obtain ⟨t3,u3⟩:=Ak l.wd [112,97,99,107,101,116] ks hks false (by rw [n0];decide)
   obtain ⟨t4,u4⟩:=Ak l.wd [97,116] ks hks false (by rw [n0];decide)
   obtain ⟨t5,u5⟩:=Ak l.wd [99,108,101,97,114] ks hks true (by rw [n0];decide)
   have hH:Cc l=l.wd:=by unfold Cc;rw [if_neg (by rw [n0];decide)]
   have hI:FC l=(N == 0):=by unfold FC;rw [if_neg (by rw [n0];decide),if_neg (by rw [n0];decide),if_neg (by rw [n0];decide),if_neg (by rw [n0];decide),if_neg (by rw [n0];decide),if_pos (by rw [n0];decide),HN.out]
   rw [hI] at HI
   rw [hH] at HH
   have HI':Hid (((N:Int) == 0)=is):=by show _=_;rw [← HI.out];exact eqN N 0 0 rfl
   clear hI hH hks n0 e0 e1 e2 e3 e4 e5
   go_wp2_with fail
   go_meet
   exact ⟨by rw [← HKs.out,HH.out],by rw [← HI'.out],HW1.out.symm⟩
  by_cases e6:l.wd=[114,117,110]
  ·
   have n0:=e6
   obtain ⟨t0,u0⟩:=Ak l.wd [99,117,114,118,101] ks hks false (by rw [n0];decide)
   obtain ⟨t1,u1⟩:=Ak l.wd [108,105,110,107] ks hks false (by rw [n0];decide)
   obtain ⟨t2,u2⟩:=Ak l.wd [110,117,109,98,101,114,115] ks hks false (by rw [n0];decide)
   obtain ⟨t3,u3⟩:=Ak l.wd [112,97,99,107,101,116] ks hks false (by rw [n0];decide)
   obtain ⟨t4,u4⟩:=Ak l.wd [97,116] ks hks false (by rw [n0];decide)
   obtain ⟨t5,u5⟩:=Ak l.wd [99,108,101,97,114] ks hks false (by rw [n0];decide)
   obtain ⟨t6,u6⟩:=Ak l.wd [114,117,110] ks hks true (by rw [n0];decide)
   have hH:Cc l=l.wd:=by unfold Cc;rw [if_neg (by rw [n0];decide)]
   have hI:FC l=(N == 0):=by unfold FC;rw [if_neg (by rw [n0];decide),if_neg (by rw [n0];decide),if_neg (by rw [n0];decide),if_neg (by rw [n0];decide),if_neg (by rw [n0];decide),if_pos (by rw [n0];decide),HN.out]
   rw [hI] at HI
   rw [hH] at HH
   have HI':Hid (((N:Int) == 0)=is):=by show _=_;rw [← HI.out];exact eqN N 0 0 rfl
   clear hI hH hks n0 e0 e1 e2 e3 e4 e5 e6
   go_wp2_with fail
   go_meet
   exact ⟨by rw [← HKs.out,HH.out],by rw [← HI'.out],HW1.out.symm⟩
  by_cases e7:l.wd=[119,111,114,115,116]
  ·
   have n0:=e7
   obtain ⟨t0,u0⟩:=Ak l.wd [99,117,114,118,101] ks hks false (by rw [n0];decide)
   obtain ⟨t1,u1⟩:=Ak l.wd [108,105,110,107] ks hks false (by rw [n0];decide)
   obtain ⟨t2,u2⟩:=Ak l.wd [110,117,109,98,101,114,115] ks hks false (by rw [n0];decide)
   obtain ⟨t3,u3⟩:=Ak l.wd [112,97,99,107,101,116] ks hks false (by rw [n0];decide)
   obtain ⟨t4,u4⟩:=Ak l.wd [97,116] ks hks false (by rw [n0];decide)
   obtain ⟨t5,u5⟩:=Ak l.wd [99,108,101,97,114] ks hks false (by rw [n0];decide)
   obtain ⟨t6,u6⟩:=Ak l.wd [114,117,110] ks hks false (by rw [n0];decide)
   obtain ⟨t7,u7⟩:=Ak l.wd [119,111,114,115,116] ks hks true (by rw [n0];decide)
   have hH:Cc l=l.wd:=by unfold Cc;rw [if_neg (by rw [n0];decide)]
   have hI:FC l=(N == 0):=by unfold FC;rw [if_neg (by rw [n0];decide),if_neg (by rw [n0];decide),if_neg (by rw [n0];decide),if_neg (by rw [n0];decide),if_neg (by rw [n0];decide),if_pos (by rw [n0];decide),HN.out]
   rw [hI] at HI
   rw [hH] at HH
   have HI':Hid (((N:Int) == 0)=is):=by show _=_;rw [← HI.out];exact eqN N 0 0 rfl
   clear hI hH hks n0 e0 e1 e2 e3 e4 e5 e6 e7
   go_wp2_with fail
   go_meet
   exact ⟨by rw [← HKs.out,HH.out],by rw [← HI'.out],HW1.out.symm⟩
  by_cases e8:l.wd=[98,111,117,110,100]
  ·
   have n0:=e8
   obtain ⟨t0,u0⟩:=Ak l.wd [99,117,114,118,101] ks hks false (by rw [n0];decide)
   obtain ⟨t1,u1⟩:=Ak l.wd [108,105,110,107] ks hks false (by rw [n0];decide)
   obtain ⟨t2,u2⟩:=Ak l.wd [110,117,109,98,101,114,115] ks hks false (by rw [n0];decide)
   obtain ⟨t3,u3⟩:=Ak l.wd [112,97,99,107,101,116] ks hks false (by rw [n0];decide)
   obtain ⟨t4,u4⟩:=Ak l.wd [97,116] ks hks false (by rw [n0];decide)
   obtain ⟨t5,u5⟩:=Ak l.wd [99,108,101,97,114] ks hks false (by rw [n0];decide)
   obtain ⟨t6,u6⟩:=Ak l.wd [114,117,110] ks hks false (by rw [n0];decide)
   obtain ⟨t7,u7⟩:=Ak l.wd [119,111,114,115,116] ks hks false (by rw [n0];decide)
   obtain ⟨t8,u8⟩:=Ak l.wd [98,111,117,110,100] ks hks true (by rw [n0];decide)
   have hH:Cc l=l.wd:=by unfold Cc;rw [if_neg (by rw [n0];decide)]
   have hI:FC l=(N == 0):=by unfold FC;rw [if_neg (by rw [n0];decide),if_neg (by rw [n0];decide),if_neg (by rw [n0];decide),if_neg (by rw [n0];decide),if_neg (by rw [n0];decide),if_pos (by rw [n0];decide),HN.out]
   rw [hI] at HI
   rw [hH] at HH
   have HI':Hid (((N:Int) == 0)=is):=by show _=_;rw [← HI.out];exact eqN N 0 0 rfl
   clear hI hH hks n0 e0 e1 e2 e3 e4 e5 e6 e7 e8
   go_wp2_with fail
   go_meet
   exact ⟨by rw [← HKs.out,HH.out],by rw [← HI'.out],HW1.out.symm⟩
  obtain ⟨t0,u0⟩:=Ak l.wd [99,117,114,118,101] ks hks false (decide_eq_false e0)
  obtain ⟨t1,u1⟩:=Ak l.wd [108,105,110,107] ks hks false (decide_eq_false e1)
  obtain ⟨t2,u2⟩:=Ak l.wd [110,117,109,98,101,114,115] ks hks false (decide_eq_false e2)
  obtain ⟨t3,u3⟩:=Ak l.wd [112,97,99,107,101,116] ks hks false (decide_eq_false e3)
  obtain ⟨t4,u4⟩:=Ak l.wd [97,116] ks hks false (decide_eq_false e4)
  obtain ⟨t5,u5⟩:=Ak l.wd [99,108,101,97,114] ks hks false (decide_eq_false e5)
  obtain ⟨t6,u6⟩:=Ak l.wd [114,117,110] ks hks false (decide_eq_false e6)
  obtain ⟨t7,u7⟩:=Ak l.wd [119,111,114,115,116] ks hks false (decide_eq_false e7)
  obtain ⟨t8,u8⟩:=Ak l.wd [98,111,117,110,100] ks hks false (decide_eq_false e8)
  have hH:Cc l=l.wd:=by unfold Cc;rw [if_neg (show ¬ l.wd=Jz from e1)]
  have hI:FC l=false:=by unfold FC;rw [if_neg (show ¬ l.wd=EJ from e0),if_neg (show ¬ l.wd=Jz from e1),if_neg (show ¬ l.wd=FZ from e2),if_neg (show ¬ l.wd=CQ from e3),if_neg (show ¬ l.wd=atW from e4),if_neg (by rintro (h | h | h | h) <;> contradiction)]
  rw [hI] at HI
  rw [hH] at HH
  clear hI hH hks e0 e1 e2 e3 e4 e5 e6 e7 e8
  go_wp2_with fail
  go_meet
  exact ⟨by rw [← HKs.out,HH.out],by rw [← HI.out],HW1.out.symm⟩
 case rest=>
 obtain ⟨rfl,rfl,hwc⟩:=hcut
 subst hwc
 have hW1:=HW1.out
 have c0:W1.cell? ⟨w.heap.size,0,none⟩=some (.string ks):=by rw [← hW1,World.cell?_alloc_at _ _ _ _ rfl];rfl
 have c2:W1.cell? ⟨w.heap.size,2,none⟩=some (.slice na N cap):=by rw [← hW1,World.cell?_alloc_at _ _ _ _ rfl];rfl
 have HB:Hid (Below w.heap.size w W1):=by rw [← hW1];exact (Below.refl _ _).alloc (Nat.le_refl _) _
 have HD:Hid ((Cc l).length ≤ 121):=Oc h1 h2
 clear hW1 h1 h2
 by_cases hb:is=true
 case neg=>
  have hbf:is=false:=by simpa using hb
  have HE:Hid (o=none):=by
   rcases HO.out with ⟨h,-,-⟩ | ⟨-,h⟩
   · rw [HI.out,hbf] at h;cases h
   · exact h
  subst hbf
  clear hb hks
  go_wp2_with fail
  go_ret2
  exact ⟨by rw [HE.out];rfl,HB.out⟩
 subst hb
 go_wp2_with fail
 go_loopw [5,7] (fun out i wr=>∃ k:Nat,k ≤ N ∧ i=.int .i64 k ∧ out=Ah (hd ++ tailW (l.nm.take k)) ∧ Below W1.heap.size W1 wr ∧ ∀ (j:Nat) n,j < k → l.nm[j]? = some n → 0 ≤ n ∧ n ≤ Ij l j) (fun _ i _=>N - (intOf i).toNat)
 case atStart=>exact ⟨0,Nat.zero_le _,rfl,by simp [tailW],Below.refl _ _,fun j n hj=>by omega⟩
 case round=>
  obtain ⟨k,hk,rfl,rfl,hbr,hf⟩:=hrel
  have d0:=cell_later hbr c0
  have d2:=cell_later hbr c2
  have HR:Hid (Below W1.heap.size W1 wr ∧ ∀ (j:Nat) n,j < k → l.nm[j]? = some n → 0 ≤ n ∧ n ≤ Ij l j):=⟨hbr,hf⟩
  obtain ⟨W,hW⟩:∃ W,W=wr:=⟨_,rfl⟩
  subst hW
  by_cases hkN:k < N
  ·
   obtain ⟨z,hz,-⟩:=Ai l.nm k (by rw [HN.out];exact hkN)
   obtain ⟨b,off,rfl,-,hcz⟩:=HL.out.place (by rw [HN.out];omega)
   have dz:W.cell? ⟨b,off+k,none⟩=some (.int .i64 z):=cell_later (HB.out.trans (hbr.mono HB.out.size)) (hcz k z hz)
   have HZ:Hid (l.nm[k]? = some z):=hz
   obtain ⟨X,hX⟩:∃ X,hd ++ tailW (l.nm.take k)=X:=⟨_,rfl⟩
   have HX:Hid (hd ++ tailW (l.nm.take k)=X ∧ X.length ≤ 600):=⟨hX,by
    rw [← hX,List.length_append,← HH.out]
    have h1:=KX (l.nm.take k) (fun n hn=>by
     obtain ⟨j,hj⟩:=List.mem_iff_getElem?.1 hn
     have hjk:j < k:=by have:=Ad hj;rw [List.length_take] at this;omega
     rw [List.getElem?_take_of_lt hjk] at hj
     have a1:=hf j n hjk hj
     have a2:=KO l j
     omega)
    rw [List.length_take] at h1
    have h2:=HD.out
    omega⟩
   rw [hX]
   obtain ⟨fb,hfb⟩:∃ fb,decide (k=0 ∧ (l.wd=CQ ∨ l.wd=atW ∨ l.wd=EJ))=fb:=⟨_,rfl⟩
   have HF:Hid (decide (k=0 ∧ (l.wd=CQ ∨ l.wd=atW ∨ l.wd=EJ))=fb):=hfb
   clear hfb hX hbr hf hz hcz c0 c2
   go_upto_region 27 with fail
   go_cut [77] from 56 to 101 (fun s77 wx=>s77=.bool fb ∧ W=wx)
   case first=>
    by_cases k0:k=0
    ·
     subst k0
     by_cases e0:l.wd=CQ
     ·
      obtain ⟨t0,u0⟩:=Ak l.wd _ ks hks true (decide_eq_true e0)
      unfold CQ at t0 u0
      have HE:Hid (fb=true):=by show _=_;rw [← HF.out];exact decide_eq_true ⟨rfl,.inl e0⟩
      clear hks e0
      go_wp2_with fail
      go_meet
      exact ⟨by rw [HE.out],rfl⟩
     obtain ⟨t0,u0⟩:=Ak l.wd _ ks hks false (decide_eq_false e0)
     by_cases e1:l.wd=atW
     ·
      obtain ⟨t1,u1⟩:=Ak l.wd _ ks hks true (decide_eq_true e1)
      unfold CQ at t0 u0
      unfold atW at t1 u1
      have HE:Hid (fb=true):=by show _=_;rw [← HF.out];exact decide_eq_true ⟨rfl,.inr (.inl e1)⟩
      clear hks e0 e1
      go_wp2_with fail
      go_meet
      exact ⟨by rw [HE.out],rfl⟩
     obtain ⟨t1,u1⟩:=Ak l.wd _ ks hks false (decide_eq_false e1)
     by_cases e2:l.wd=EJ
     ·
      obtain ⟨t2,u2⟩:=Ak l.wd _ ks hks true (decide_eq_true e2)
      unfold CQ at t0 u0
      unfold atW at t1 u1
      unfold EJ at t2 u2
      have HE:Hid (fb=true):=by show _=_;rw [← HF.out];exact decide_eq_true ⟨rfl,.inr (.inr e2)⟩
      clear hks e0 e1 e2
      go_wp2_with fail
      go_meet
      exact ⟨by rw [HE.out],rfl⟩
     ·
      obtain ⟨t2,u2⟩:=Ak l.wd _ ks hks false (decide_eq_false e2)
      unfold CQ at t0 u0
      unfold atW at t1 u1
      unfold EJ at t2 u2
      have HE:Hid (fb=false):=by show _=_;rw [← HF.out];exact decide_eq_false (by rintro ⟨-,h | h | h⟩ <;> contradiction)
      clear hks e0 e1 e2
      go_wp2_with fail
      go_meet
      exact ⟨by rw [HE.out],rfl⟩
    ·
     have HE:Hid (fb=false):=by show _=_;rw [← HF.out];exact decide_eq_false (by rintro ⟨h,-⟩;contradiction)
     have k0':((k:Int) == 0)=false:=by simp;omega
     clear hks k0
     go_wp2_with fail
     go_meet
     exact ⟨by rw [HE.out],rfl⟩
   case rest=>
   obtain ⟨rfl,hwc⟩:=hcut
   subst hwc
   obtain ⟨mo,hmo⟩:∃ mo,Ij l k=mo:=⟨_,rfl⟩
   have HM:Hid (Ij l k=mo):=hmo
   have HNo:Hid (¬ (0 ≤ z ∧ z ≤ mo) → o=none):=fun h=>by
    rcases HO.out with ⟨-,h1,-⟩ | ⟨-,h1⟩
    · have:=h1 k z HZ.out;rw [HM.out] at this;exact absurd this h
    · exact h1
   have HW:Hid (Below w.heap.size w W):=HB.out.trans (HR.out.1.mono HB.out.size)
   have hmv:mo=if fb=true then 9 else 9999999:=by
    rw [← hmo]
    unfold Ij
    by_cases h:k=0 ∧ (l.wd=CQ ∨ l.wd=atW ∨ l.wd=EJ)
    · rw [if_pos h,if_pos (by rw [← HF.out];exact decide_eq_true h)]
    · rw [if_neg h,if_neg (by rw [← HF.out];simpa using h)]
   clear hmo hks
   by_cases z0:z < 0
   ·
    have HE:Hid (o=none):=HNo.out (by omega)
    have hd0:decide (z < 0)=true:=decide_eq_true z0
    clear hmv
    cases fb
    all_goals
     go_wp2_with fail
     go_ret2
     exact ⟨by rw [HE.out];rfl,HW.out⟩
   have hd0:decide (z < 0)=false:=decide_eq_false z0
   by_cases z1:mo < z
   ·
    have HE:Hid (o=none):=HNo.out (by omega)
    cases fb
    ·
     have hd1:decide (9999999 < z)=true:=decide_eq_true (by rw [if_neg (by decide)] at hmv;omega)
     clear hmv z1
     go_wp2_with fail
     go_ret2
     exact ⟨by rw [HE.out];rfl,HW.out⟩
    ·
     have hd1:decide (9 < z)=true:=decide_eq_true (by rw [if_pos rfl] at hmv;omega)
     clear hmv z1
     go_wp2_with fail
     go_ret2
     exact ⟨by rw [HE.out];rfl,HW.out⟩
   have z9:z ≤ 9999999:=by have:=KO l k;rw [HM.out] at this;omega
   have HDe:Hid (∀ V,Calls Tryz.prog 18 #[.int .i64 z] V fun e w'=>e=.returned (Ah (Go.Lib.itoa z)) ∧ Below V.heap.size V w'):=fun V=>Uf z (by omega) (by omega) V
   have q1:=Il X [32] (by have:=HX.out.2;omega) (by simp)
   have hil:=Go.Lib.itoa_length_le z (by omega) (by omega)
   have q2:=Il (X ++ [32]) (Go.Lib.itoa z) (by have:=HX.out.2;simp;omega) (by omega)
   have hnx:hd ++ tailW (l.nm.take (k+1))=X ++ [32] ++ Go.Lib.itoa z:=by rw [Ux HZ.out,← HX.out.1];simp
   have HNx:Hid (hd ++ tailW (l.nm.take (k+1))=X ++ [32] ++ Go.Lib.itoa z):=hnx
   have HFi:Hid (∀ (j:Nat) n,j < k+1 → l.nm[j]? = some n → 0 ≤ n ∧ n ≤ Ij l j):=fun j n hj hn=>by
    rcases Nat.lt_or_ge j k with h | h
    · exact HR.out.2 j n h hn
    ·
     obtain rfl:j=k:=by omega
     rw [HZ.out] at hn
     cases hn
     rw [HM.out]
     omega
   obtain ⟨y,hy⟩:∃ y,Go.Lib.itoa z=y:=⟨_,rfl⟩
   rw [hy] at q2 HDe HNx
   obtain ⟨x1,hx1⟩:∃ x1:ByteArray,⟨(X ++ [32]).toArray⟩=x1:=⟨_,rfl⟩
   have q1':∀ V:World,(Op.stringOp .add ⟨X.toArray⟩ ⟨[32].toArray⟩).run Tryz.prog V=.ok (.string x1) V:=fun V=>by rw [← hx1];exact q1 V
   rw [hx1] at q2
   rw [← HNx.out] at q2
   clear q1 hil hnx hx1 hy
   cases fb
   ·
    have hd1:decide (9999999 < z)=false:=decide_eq_false (by rw [if_neg (by decide)] at hmv;omega)
    clear hmv z1
    go_wp2_with fail
    refine (HDe.out _).mono ?_
    rintro e w5 ⟨rfl,hb5⟩
    have HB5:Hid (Below W1.heap.size W1 w5):=HR.out.1.trans (hb5.mono HR.out.1.size)
    clear hb5
    go_wp2_with fail
    go_roundw
    case rel=>exact ⟨k+1,by omega,by go_num,by first | rfl | trivial,HB5.out,HFi.out⟩
    case measure=>simp [intOf];omega
   ·
    have hd1:decide (9 < z)=false:=decide_eq_false (by rw [if_pos rfl] at hmv;omega)
    clear hmv z1
    go_wp2_with fail
    refine (HDe.out _).mono ?_
    rintro e w5 ⟨rfl,hb5⟩
    have HB5:Hid (Below W1.heap.size W1 w5):=HR.out.1.trans (hb5.mono HR.out.1.size)
    clear hb5
    go_wp2_with fail
    go_roundw
    case rel=>exact ⟨k+1,by omega,by go_num,by first | rfl | trivial,HB5.out,HFi.out⟩
    case measure=>simp [intOf];omega
  ·
   obtain rfl:k=N:=by omega
   have htl:l.nm.take k=l.nm:=by rw [← HN.out,List.take_length]
   have HE:Hid (o=some (hd ++ tailW l.nm)):=by
    rcases HO.out with ⟨-,-,h⟩ | ⟨h,-⟩
    · rw [HH.out] at h;exact h
    ·
     refine absurd ⟨HI.out,fun i n hi=>?_⟩ h
     exact HR.out.2 i n (by have:=Ad hi;rw [HN.out] at this;exact this) hi
   have HW:Hid (Below w.heap.size w W):=HB.out.trans (HR.out.1.mono HB.out.size)
   rw [htl]
   clear htl hbr hf hks
   go_wp2_with fail
   go_ret2
   exact ⟨by rw [HE.out];rfl,HW.out⟩
end Go.Proofs.YtipdclphpkgceaaGreatDoor

namespace Go.Proofs.YtipdclphpkgceaaGreatDoor
def Ic (lines outs:List (List UInt8)) (i:Nat) (s:Scr):Prop:=∃ t,EM s (lines.drop i) (outs.drop i) t
theorem SY {lines outs:List (List UInt8)} {s':Scr} (h:EM Cb lines outs s'):Ic lines outs 0 Cb:=⟨s',h⟩
theorem TC {lines outs:List (List UInt8)} {i:Nat} {x:List UInt8} {s:Scr} (hx:lines[i]? = some x) (h:Ic lines outs i s):∃ out s1,Says s x out s1 ∧ outs[i]? = some out ∧ Ic lines outs (i+1) s1:=by
 obtain ⟨t,ht⟩:=h
 have hi:i < lines.length:=by
  rcases Nat.lt_or_ge i lines.length with h | h
  · exact h
  · rw [List.getElem?_eq_none h] at hx;cases hx
 have hxi:lines[i]=x:=by rw [List.getElem?_eq_getElem hi] at hx;exact Option.some.inj hx
 rw [List.drop_eq_getElem_cons hi,hxi] at ht
 obtain ⟨o,s1,rest,h1,h2,h3⟩:=ht
 have ho:outs[i]? = some o:=by
  have e:(outs.drop i)[0]? = outs[i]?:=by rw [List.getElem?_drop];rfl
  rw [← e,h3];rfl
 refine ⟨o,s1,h1,ho,t,?_⟩
 have hd:outs.drop (i+1)=rest:=by
  rw [← List.drop_drop,h3];rfl
 rw [hd]
 exact h2
theorem VC {lines outs:List (List UInt8)} {A i:Nat} {x:List UInt8} {s:Scr} (hx:(lines.take A)[i]? = some x) (h:Ic lines outs i s):∃ out s1,Says s x out s1 ∧ outs[i]? = some out ∧ Ic lines outs (i+1) s1:=by
 refine TC ?_ h
 rw [List.getElem?_take] at hx
 split at hx
 · exact hx
 · cases hx
theorem Wq {outs outs2:List (List UInt8)} {A:Nat} (hl:outs2.length=A) (h:∀ (i:Nat) o,outs2[i]? = some o → outs[i]? = some o):outs.take A=outs2:=by
 apply List.ext_getElem?
 intro i
 rw [List.getElem?_take]
 split
 ·
  next hi=>
  obtain ⟨o,ho⟩:∃ o,outs2[i]? = some o:=⟨outs2[i],List.getElem?_eq_getElem (by omega)⟩
  rw [ho]
  exact h i o ho
 ·
  next hi=>
  rw [List.getElem?_eq_none (by omega)]
theorem SK (l:LL):∃ o,PS l o:=by
 by_cases h:FC l=true ∧ QJ l
 · exact ⟨_,.inl ⟨h.1,h.2,rfl⟩⟩
 · exact ⟨_,.inr ⟨h,rfl⟩⟩
end Go.Proofs.YtipdclphpkgceaaGreatDoor

namespace Go.Proofs.YtipdclphpkgceaaGreatDoor
open Go.RowKit
theorem GR.whole {w:World} {B:Nat} {v:Value} {xs:List (List UInt8)} (h:GR w B v xs):∃ a cap,v=.slice a xs.length cap ∧ Bp w a xs ∧ xs.length ≤ cap ∧ (a=none → xs=[] ∧ cap=0):=by
 obtain ⟨a,cap,e,hl,hc⟩:=h.value
 refine ⟨a,cap,e,hl,hc,fun ha=>?_⟩
 obtain ⟨-,⟨e',h0⟩ | ⟨b,cap',cur,e',-⟩⟩:=h
 ·
  rw [e] at e'
  injection e' with _ _ e3
  exact ⟨List.length_eq_zero_iff.1 h0,e3⟩
 ·
  rw [e] at e'
  injection e' with e1
  rw [ha] at e1
  cases e1
theorem MJ (w:World) (na:Option Addr) (ncap:Nat) (ns:List (List UInt8)) (hl:Bp w na ns) (hna:na=none → ns=[] ∧ ncap=0) (hn:ns.length ≤ 1000) :
  ∃ a cap w',(Builtin.append_ #[22,22] 22 #[.slice none 0 0,.slice na ns.length ncap]).run Tryz.prog w=.ok (.slice a ns.length cap) w' ∧ Bp w' a ns ∧ Below w.heap.size w w':=by
 obtain ⟨i0,hi,hz0,hz1,hz2⟩:=info_parts Tryz.infoStr
 cases na with
 | none=>
  obtain ⟨rfl,rfl⟩:=hna rfl
  exact ⟨none,0,w,run_append_owned_none (P:=Tryz.prog) w w.heap.size 22 22 9 i0 1 Tryz.underlying22 hi (.slice none 0 0) 0 [] (World.ownsRow_nil _ _ _ _),.inl rfl,Below.refl _ _⟩
 | some ad=>
  have hnews:∀ j u,(ns.map Ah)[j]? = some u → w.cell? (ad.add j)=some u:=by
   intro j u hu
   rcases hl with rfl | ⟨b,off,e',-,hc⟩
   · simp at hu
   ·
    cases e'
    rw [Addr.add_lit]
    rw [List.getElem?_map] at hu
    obtain ⟨x,h1,h2⟩:=Option.map_eq_some_iff.1 hu
    rw [hc j x h1,← h2]
  obtain ⟨v',w',hrun,h1,h2,-⟩:=run_append_own (P:=Tryz.prog) w w.heap.size 22 22 9 i0 _ 1 16 Tryz.underlying22 hi hz0 hz1 hz2 rfl (by decide) (.slice none 0 0) 0 [] (World.ownsRow_nil _ _ _ _) ad ns.length ncap (ns.map Ah) (by rw [List.length_map,Nat.mul_one]) hnews (by simp [Value.oneCell']) (by unfold maxLen;omega) (by omega) (Nat.le_refl _)
  rw [Nat.zero_add,List.nil_append] at h1
  have ho:GR w' w.heap.size v' ns:=h1
  obtain ⟨a,cap,rfl,g1,-⟩:=ho.value
  exact ⟨a,cap,w',hrun,g1,(Below.refl _ _).grown h2 (Nat.le_refl _) (fun k hk=>by cases hk)⟩
theorem Kq (w:World) {ops:Array Oper} {rest:List Oper} {o:Oper} {a:Act} {Q:Exit → Act → World → Prop} (hgd:o.guard=none) (hty:o.type=22) (s x:Operand)
  (ho:o.op=.call { callee:=.builtin .append,args:=#[s,x],argTypes:=#[22,22] })
  (na:Option Addr) (ncap n:Nat) (ns:List (List UInt8)) (hnn:ns.length=n) (hs:a.eval s=.slice none 0 0) (hx:a.eval x=.slice na n ncap) (hl:Bp w na ns) (hna:na=none → ns=[] ∧ ncap=0) (hn:n ≤ 1000)
  (hK:∀ a' cap' w',Bp w' a' ns ∧ Below w.heap.size w w' → wpList Tryz.prog ops Q rest (a.put o.dst (.slice a' n cap')) w'):wpList Tryz.prog ops Q (o :: rest) a w:=by
 subst hnn
 refine wpList_plain hgd fun K hK'=>?_
 obtain ⟨ao,cap,w',hrun,g1,g4⟩:=MJ w na ncap ns hl hna hn
 unfold Oper.wp
 simp [execOp,ho,hty,resolve,invoke,builtin,hs,hx,hrun,Result.andThen]
 exact hK' _ _ (hK ao cap w' ⟨g1,g4⟩)
def Mf (w:World) (na:Option Addr) (cap:Nat) (ns:List Int):Prop:=AV w na ns ∧ ns.length ≤ cap ∧ cap ≤ maxLen ∧ (na=none → ns=[] ∧ cap=0)
def Nk (w:World) (b o:Nat) (x:LL):Prop:=
 w.cell? ⟨b,o,none⟩=some (Ah x.wd) ∧ w.cell? ⟨b,o+1,none⟩=some (Ah x.kd) ∧ ∃ na cap,w.cell? ⟨b,o+2,none⟩=some (.slice na x.nm.length cap) ∧ Mf w na cap x.nm
theorem Nk.below {w w':World} {b o:Nat} {x:LL} (h:Nk w b o x) (hb:Below w.heap.size w w'):Nk w' b o x:=by
 obtain ⟨h1,h2,na,cap,h3,h4⟩:=h
 exact ⟨cell_later hb h1,cell_later hb h2,na,cap,cell_later hb h3,h4.1.below hb,h4.2⟩
def aa (w:World) (a:Option Addr) (ls:List LL):Prop:=
 ls=[] ∨ ∃ b off,a=some ⟨b,off,none⟩ ∧ b < w.heap.size ∧ ∀ (i:Nat) x,ls[i]? = some x → Nk w b (off+i * 3) x
theorem Nv {w:World} {a:Option Addr} {xs:List (List UInt8)} (k:Nat) (h:Bp w a xs):Bp w a (xs.take k):=by
 rcases h with rfl | ⟨b,off,e,hlt,hc⟩
 · exact .inl (by simp)
 ·
  refine .inr ⟨b,off,e,hlt,fun i x hi=>?_⟩
  rw [List.getElem?_take] at hi
  split at hi
  · exact hc i x hi
  · cases hi
end Go.Proofs.YtipdclphpkgceaaGreatDoor

namespace Go.Proofs.YtipdclphpkgceaaGreatDoor
open Go.ChangeShapes Go.WideShapes Go.ChangeAt Go.RowKit Go.Deep
theorem Tryz.cellsLLine:Tryz.prog.cellsOf 34=3:=by kernel_rfl
section
variable {H:Type} {enc:TypeId × Value → H} {W:World}
theorem Zb {fuel:Nat} {cs:List Value} {x:DataW H × List MemPlace} (hc:cs.length=3) (h:DataW.trod enc Tryz.prog W 0 (fun _=>true) true fuel 34 cs=some x) :
  ∃ (l:LL) (na:Option Addr) (ncap:Nat),cs=[Ah l.wd,Ah l.kd,.slice na l.nm.length ncap] ∧ Mf W na ncap l.nm ∧ l.wd.length ≤ maxLen ∧ l.kd.length ≤ maxLen ∧ l.nm.length ≤ maxLen:=by
 obtain ⟨xs,k,-,-,-,hxl,hfl⟩:=DataW.trod_struct Tryz.underlying34 h
 match cs,hc,xs,hxl with
 | [v0,v1,v2],_,[x0,x1,x2],_=>
  have g0:=hfl 0 _ rfl
  have g1:=hfl 1 _ rfl
  have g2:=hfl 2 _ rfl
  simp [Tryz.cellsStr1,Tryz.cellsInts] at g0 g1 g2
  obtain ⟨s0,e0,-,m0⟩:=DataW.trod_string Tryz.underlying9 g0
  obtain ⟨s1,e1,-,m1⟩:=DataW.trod_string Tryz.underlying9 g1
  obtain ⟨na,ncap,ns,e2,h4,h5,h6,h7⟩:=V9 g2
  simp at e0 e1 e2
  subst e0 e1 e2
  exact ⟨⟨s0.data.toList,s1.data.toList,ns⟩,na,ncap,rfl,⟨h4,h5,h6,h7⟩,m0,m1,by show ns.length ≤ _;omega⟩
theorem Xq {base:Nat} {v:Value} {d:DataW H} {p:List MemPlace} (hv:Value.okWide Tryz.prog W .any base 31 v)
  (h:DataW.Trod enc Tryz.prog W 0 (fun _=>true) true 31 v d p) :
  ∃ a cap ls,v=.slice a (ls:List LL).length cap ∧ aa W a ls ∧ ls.length ≤ cap ∧ cap ≤ maxLen ∧ ∀ x ∈ ls,x.wd.length ≤ maxLen ∧ x.kd.length ≤ maxLen ∧ x.nm.length ≤ maxLen:=by
 obtain ⟨a0,len0,cap0,rfl⟩:=okWide_slice Tryz.underlying31 hv
 obtain ⟨fuel,hf⟩:=h
 rcases open_slice Tryz.underlying31 hf with ⟨hcs,_⟩ | ⟨ad,len,cap,m,n,D,Pl,hcs,hb,hl,hm,hmm,-,hx⟩
 ·
  simp [Value.cells] at hcs
  obtain ⟨rfl,rfl,rfl⟩:=hcs
  exact ⟨none,0,[],rfl,.inl rfl,by simp,by simp [maxLen],fun x hx=>by simp at hx⟩
 ·
  simp [Value.cells] at hcs
  obtain ⟨rfl,rfl,rfl⟩:=hcs
  have hlm:len0 ≤ m:=by rw [hmm];split <;> omega
  have each:∀ i,i < len0 → ∃ q:LL × Option Addr × Nat,W.cell? (ad.add (i * 3))=some (Ah q.1.wd) ∧ W.cell? (ad.add (i * 3+1))=some (Ah q.1.kd) ∧ W.cell? (ad.add (i * 3+2))=some (.slice q.2.1 q.1.nm.length q.2.2) ∧ Mf W q.2.1 q.2.2 q.1.nm ∧ q.1.wd.length ≤ maxLen ∧ q.1.kd.length ≤ maxLen ∧ q.1.nm.length ≤ maxLen:=by
   intro i hi
   obtain ⟨cs',h1,h2⟩:=hx i (by omega)
   rw [Tryz.cellsLLine] at h1
   obtain ⟨_,hlen,hcell⟩:=World.cells?_some h1
   obtain ⟨l,na,ncap,rfl,h4,m0,m1,m2⟩:=Zb (by omega) h2
   have c0:=hcell 0 (by omega)
   have c1:=hcell 1 (by omega)
   have c2:=hcell 2 (by omega)
   rw [add_add] at c0 c1 c2
   exact ⟨(l,na,ncap),by simpa using c0,by simpa using c1,by simpa using c2,h4,m0,m1,m2⟩
  obtain ⟨q,hq⟩:∃ q:Nat → LL × Option Addr × Nat,∀ i,i < len0 → W.cell? (ad.add (i * 3))=some (Ah (q i).1.wd) ∧ W.cell? (ad.add (i * 3+1))=some (Ah (q i).1.kd) ∧ W.cell? (ad.add (i * 3+2))=some (.slice (q i).2.1 (q i).1.nm.length (q i).2.2) ∧ Mf W (q i).2.1 (q i).2.2 (q i).1.nm ∧ (q i).1.wd.length ≤ maxLen ∧ (q i).1.kd.length ≤ maxLen ∧ (q i).1.nm.length ≤ maxLen:=
   ⟨fun i=>if h:i < len0 then Classical.choose (each i h) else (⟨[],[],[]⟩,none,0),fun i hi=>by simp only [dif_pos hi];exact Classical.choose_spec (each i hi)⟩
  refine ⟨some ad,cap0,(List.range len0).map fun i=>(q i).1,by simp,?_,by simpa using hl,hm,fun x hx=>?_⟩
  ·
   by_cases h0:len0=0
   · subst h0;exact .inl (by simp)
   ·
    obtain ⟨b,off,spot⟩:=ad
    have hc0:=(hq 0 (by omega)).1
    have hspot:spot=none:=by simpa [Addr.add] using World.cell?_spot hc0
    subst hspot
    refine .inr ⟨b,off,rfl,by simpa [Addr.add] using Ck hc0,fun i x hi=>?_⟩
    have hil:i < len0:=by
     rcases Nat.lt_or_ge i len0 with h | h
     · exact h
     · simp [h] at hi
    simp [hil] at hi
    obtain ⟨g1,g2,g3,g4,-⟩:=hq i hil
    rw [hi] at g1 g2 g3 g4
    rw [Addr.add_lit] at g1 g2 g3
    exact ⟨g1,by rw [Nat.add_assoc];exact g2,(q i).2.1,(q i).2.2,by rw [Nat.add_assoc];exact g3,g4⟩
  ·
   obtain ⟨i,h1,rfl⟩:=List.mem_map.1 hx
   obtain ⟨-,-,-,-,g⟩:=hq i (List.mem_range.1 h1)
   exact g
end
theorem QV {W:World} (h:laidMetH Tryz.prog Rows.scriptAgainRow.laid W) (hs:W.ShapedOpen Tryz.prog):∃ ad,Env W ad:=by
 have h':laidMet Tryz.prog (Rows.scriptAgainRow.laid.take 4 ++ Rows.scriptAgainRow.laid.drop 5) W ∧ handlesMet Tryz.prog [("errors.errorType",Rows.laid_errors_errorType)] W:=h
 obtain ⟨h0,h2⟩:=h'
 have hty:=W9 h2
 have htab:=Go.Lib.tabIs_of_head (k:=.u64) (zs:=Go.Lib.pow10Tab) (g:=13) (t:=253) (e:=222) (n:=20) (by kernel_rfl) (by kernel_rfl) Tryz.underlying253 Tryz.underlying222 (by kernel_rfl) (by kernel_rfl) h0.tail.tail
 have h1:=h0.tail.tail.tail.tail
 obtain ⟨a0,s0,v0,c0,t0,b0⟩:=Cs (g:=1) h1 rfl (by kernel_rfl) (by kernel_rfl)
 obtain ⟨a1,s1,v1,c1,t1,b1⟩:=Cs (g:=0) h1.tail rfl (by kernel_rfl) (by kernel_rfl)
 obtain ⟨a2,s2,v2,c2,t2,b2⟩:=Cs (g:=2) h1.tail.tail rfl (by kernel_rfl) (by kernel_rfl)
 obtain ⟨a3,s3,v3,c3,t3,b3⟩:=Cs (g:=3) h1.tail.tail.tail rfl (by kernel_rfl) (by kernel_rfl)
 obtain ⟨a4,s4,v4,c4,t4,b4⟩:=Cs (g:=4) h1.tail.tail.tail.tail rfl (by kernel_rfl) (by kernel_rfl)
 obtain ⟨a8,s8,v8,c8,t8,b8⟩:=Cs (g:=8) h1.tail.tail.tail.tail.tail rfl (by kernel_rfl) (by kernel_rfl)
 have htx:∀ i,six i → ∃ s:ByteArray,W.cell? (aZ a0 a1 a2 a3 a4 a0 a0 a0 a8 i)=some (.string s) ∧ s.data.toList=Di ((i:Int)+1):=fun i hi=>by
  have hi':i=0 ∨ i=1 ∨ i=2 ∨ i=3 ∨ i=4 ∨ i=8:=by unfold six at hi;omega
  rcases hi' with rfl | rfl | rfl | rfl | rfl | rfl
  · exact ⟨s0,c0,t0⟩
  · exact ⟨s1,c1,t1⟩
  · exact ⟨s2,c2,t2⟩
  · exact ⟨s3,c3,t3⟩
  · exact ⟨s4,c4,t4⟩
  · exact ⟨s8,c8,t8⟩
 refine ⟨aZ a0 a1 a2 a3 a4 a0 a0 a0 a8,⟨⟨hty,v0,v1,v2,v3,v4,v8,?_,?_,htx⟩,Wo hs,ZC fun V hV=>Go.Lib.tabBelow_of_tabIs htab V hV⟩⟩
 ·
  intro i j hi hj hij
  obtain ⟨s,e1,e2⟩:=htx i hi
  obtain ⟨u,e3,e4⟩:=htx j hj
  exact Un e1 e3 e2 e4 (Sv i j hi hj hij)
 ·
  intro i hi
  have hi':i=0 ∨ i=1 ∨ i=2 ∨ i=3 ∨ i=4 ∨ i=8:=by unfold six at hi;omega
  rcases hi' with rfl | rfl | rfl | rfl | rfl | rfl
  · exact b0
  · exact b1
  · exact b2
  · exact b3
  · exact b4
  · exact b8
theorem Ur (os:Os) (args:Array Value):laidMetH Tryz.prog Rows.scriptAgainRow.laid ((IJ Tryz.prog os Rows.scriptAgainRow.laid).forCall (fun _ _=>0) ⟨#[],args,[]⟩).memory:=
 laidMetH_of_parts3 (fuel:=8) (Ui args (by kernel_rfl) (by kernel_rfl)) (by kernel_rfl) (by kernel_rfl)
end Go.Proofs.YtipdclphpkgceaaGreatDoor
