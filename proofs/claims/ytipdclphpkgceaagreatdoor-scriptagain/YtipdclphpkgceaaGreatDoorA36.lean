/- Own facts, put together: no statement of its own. -/
import Derived.Test.YtipdclphpkgceaaGreatDoorA28
import Derived.Test.YtipdclphpkgceaaGreatDoorA32
import Derived.Test.YtipdclphpkgceaaGreatDoorA34
import Derived.Test.YtipdclphpkgceaaGreatDoorA35
import Derived.Test.YtipdclphpkgceaaGreatDoorA21
set_option maxHeartbeats 4000000
set_option maxRecDepth 100000

namespace Go.Proofs.YtipdclphpkgceaaGreatDoor
open Go.RowKit
def TV (la lb:List (Int × Int)) (w:World) (e:Ending) (w':World):Prop:=∃ a n cap E code L,e=.returned (.tuple #[.slice a n cap,E]) ∧ BK la lb code L ∧ Below w.heap.size w w' ∧ (code=0 → E=.nilIface ∧ n=L.length ∧ AL w' a L ∧ L.length ≤ cap ∧ cap ≤ maxLen) ∧ (code ≠ 0 → ∃ ty v,E=.iface ty v)
theorem Td (a1 a2:Option Addr) (cap1 cap2:Nat) (la lb:List (Int × Int)) (w:World) (ad:Nat → Addr) (he:AP w ad) (h1:AL w a1 la) (h2:AL w a2 lb) (k1:Ag la) (k2:Ag lb) :
  Calls Tryz.prog 119 #[.slice a1 la.length cap1,.slice a2 lb.length cap2] w fun e w'=>TV la lb w e w':=by
 rcases Tn (Bi la lb) with h | ⟨j,hj,hn,hb⟩
 ·
  refine (aM a1 a2 cap1 cap2 la lb w (ad 2) he.c2 h1 h2 k1 k2 h).mono ?_
  rintro e w' ⟨ls',hp,hs,hb,⟨h6,rfl⟩ | ⟨h6,v,rfl,ho⟩⟩
  · exact ⟨none,0,0,_,3,[],rfl,.inr ⟨h,_,⟨ls',hp,hs,rfl⟩,.inl ⟨by rw [List.length_reverse];exact h6,rfl,rfl⟩⟩,hb,fun h=>absurd h (by decide),fun _=>⟨_,_,rfl⟩⟩
  ·
   obtain ⟨a,n,cap,rfl⟩:∃ a n cap,v=.slice a n cap:=by
    obtain ⟨-,⟨rfl,-⟩ | ⟨g,cap,cur,rfl,-⟩⟩:=ho
    · exact ⟨_,_,_,rfl⟩
    · exact ⟨_,_,_,rfl⟩
   obtain ⟨e1,e2,e3,e4⟩:=ho.lies
   exact ⟨a,n,cap,_,0,_,rfl,.inr ⟨h,_,⟨ls',hp,hs,rfl⟩,.inr ⟨by rw [List.length_reverse];exact h6,rfl,rfl⟩⟩,hb,fun _=>⟨rfl,e1,e4,e2,e3⟩,fun h=>absurd rfl h⟩
 ·
  refine (WU a1 a2 cap1 cap2 la lb w (ad 1) he.c1 h1 h2 k1 k2 j hj hn hb).mono ?_
  rintro e w' ⟨rfl,hbw⟩
  refine ⟨none,0,0,_,2,[],rfl,.inl ⟨fun hok=>?_,rfl,rfl⟩,hbw,fun h=>absurd h (by decide),fun _=>⟨_,_,rfl⟩⟩
  obtain ⟨⟨x,y⟩,hp,hm⟩:=Ai _ j hj
  have:=hb x y hp
  rw [hok _ hm] at this
  cases this
theorem Tryz.callIsEmpty (args:Array Value) (W:World):Sem.run Tryz.prog (callFunc 118 args) W=.ok (.enter 118 args) W:=by kernel_rfl
def Hq (w:World) (b off:Nat) (cs:List (List (Int × Int))):Prop:=∀ (i:Nat) ls,cs[i]? = some ls → ∃ a' cap,w.cell? ⟨b,off+i,none⟩=some (.slice a' ls.length cap) ∧ AL w a' ls ∧ ls.length ≤ cap ∧ cap ≤ maxLen ∧ (a'=none → ls=[] ∧ cap=0)
theorem NN (b off ccap:Nat) (cs:List (List (Int × Int))) (w:World) (h:Hq w b off cs) (h8:cs.length=8) (j:Nat) (hj:Hw cs j) :
  Calls Tryz.prog 117 #[.slice (some ⟨b,off,none⟩) 8 ccap,.func (.func 118) #[] #[]] w fun e w'=>e=.returned (.int .i64 (if j < 8 then (j:Int) else -1)) ∧ w'=w:=by
 have HC:Hid (Hq w b off cs):=h
 have HJ:Hid (Hw cs j):=hj
 have H8:Hid (cs.length=8):=h8
 have hj8:=hj.1
 have hcall:=Tryz.callIsEmpty
 clear h hj h8
 go_enter Tryz.func117,Tryz.ntmps117
 go_wp2_with fail
 go_loopg [8] 8 (fun gk iv wr=>∃ k:Nat,iv=.int .i64 (k:Int) ∧ k ≤ j ∧ 8 - k ≤ gk ∧ w=wr)
 case atStart=>exact ⟨0,rfl,Nat.zero_le _,Nat.le_refl _,rfl⟩
 case round=>
  obtain ⟨k,rfl,hkj,hgk,rfl⟩:=hrel
  by_cases hk8:k < 8
  ·
   have hkz:(k:Int) < 8:=by omega
   obtain ⟨ls,hls,-⟩:=Ai cs k (by rw [H8.out];exact hk8)
   obtain ⟨a',cap,cj,-,-,-,-⟩:=HC.out k ls hls
   have hfl:=Cf hls
   obtain ⟨n,hn⟩:∃ n,ls.length=n:=⟨_,rfl⟩
   rw [hn] at cj
   by_cases hk:k < j
   ·
    have hne:=HJ.out.2.1 k hk
    rw [hfl] at hne
    have HEm:Hid (Calls Tryz.prog 118 #[.slice a' n cap] w fun e w'=>e=.returned (.bool false) ∧ w'=w):=De a' n cap w false (by have:=List.length_pos_iff.2 hne;simp;omega)
    clear hls hfl hne hn
    go_wp2_with fail
    refine HEm.out.mono ?_
    rintro e w1 ⟨rfl,rfl⟩
    go_wp2_with fail
    go_roundg (8 - (k+1))
    case measure=>omega
    case rel=>exact ⟨k+1,by go_num,hk,Nat.le_refl _,rfl⟩
   ·
    obtain rfl:k=j:=by omega
    have he:ls=[]:=by
     rcases HJ.out.2.2 with h | h
     · omega
     · rw [← hfl];exact h
    have HEm:Hid (Calls Tryz.prog 118 #[.slice a' n cap] w fun e w'=>e=.returned (.bool true) ∧ w'=w):=De a' n cap w true (by rw [← hn,he];rfl)
    clear hls hfl he hn
    go_wp2_with fail
    refine HEm.out.mono ?_
    rintro e w1 ⟨rfl,rfl⟩
    go_wp2_with fail
    go_ret
    exact ⟨rfl,rfl⟩
  ·
   have hkz:¬ (k:Int) < 8:=by omega
   obtain rfl:k=8:=by omega
   obtain rfl:j=8:=by omega
   go_wp2_with fail
   go_ret
   exact ⟨rfl,rfl⟩
def Dr (cs:List (List (Int × Int))) (w:World) (e:Ending) (w':World):Prop:=Below w.heap.size w w' ∧ ((∃ a cap L,EA BK cs L ∧ e=.returned (.tuple #[.slice a L.length cap,.nilIface]) ∧ AL w' a L ∧ L.length ≤ cap ∧ cap ≤ maxLen) ∨ (GN BK cs ∧ ∃ ty v,e=.returned (.tuple #[.slice none 0 0,.iface ty v])))
theorem ZJ (cs:List (List (Int × Int))):∃ j,Hw cs j:=by
 by_cases h:∃ i,i < 8 ∧ Af cs i=[]
 ·
  obtain ⟨j,⟨h1,h2⟩,h3⟩:=RD h
  exact ⟨j,by omega,fun i hi he=>h3 i hi ⟨by omega,he⟩,.inr h2⟩
 · exact ⟨8,Nat.le_refl _,fun i hi he=>h ⟨i,hi,he⟩,.inl rfl⟩
theorem Q4 (ca:Option Addr) (ccap:Nat) (cs:List (List (Int × Int))) (w:World) (ad:Nat → Addr) (he:AP w ad) (hl:IB w ca cs) (h8:cs.length=8) (hcc:cs.length ≤ ccap) (hto:Ci cs 8) :
  Calls Tryz.prog 83 #[.slice ca cs.length ccap] w fun e w'=>Dr cs w e w':=by
 obtain ⟨b,off,rfl,-,hcc'⟩:=hl.place (by omega)
 have hcells:Hq w b off cs:=hcc'
 obtain ⟨j,hj⟩:=ZJ cs
 have hj8:=hj.1
 have HIx:=(show Hid (Calls Tryz.prog 117 #[.slice (some ⟨b,off,none⟩) 8 ccap,.func (.func 118) #[] #[]] w fun e w'=>e=.returned (.int .i64 (if j < 8 then (j:Int) else -1)) ∧ w'=w) from NN b off ccap cs w hcells h8 j hj)
 have HC:Hid (Hq w b off cs):=hcells
 have HE:Hid (AP w ad):=he
 have H8:Hid (cs.length=8):=h8
 have HCo:Hid (Cv (Af cs)):=fun f hf=>by
  obtain ⟨ls,hls,-⟩:=Ai cs f (by rw [h8];exact hf)
  rw [Cf hls]
  exact hto f ls hf hls
 have HJ:Hid (Hw cs j):=hj
 rw [h8] at hcc ⊢
 have hcc1:ccap ≠ 1:=by omega
 have hccj:∀ i,i < 8 → i ≠ ccap:=fun i hi=>by omega
 have c3:=he.c3
 clear he hl h8 hto hcc' hcells hj
 by_cases hj0:j=0
 ·
  subst hj0
  have HEnd:Hid (GN BK cs):=by
   rcases HJ.out.2.2 with h | h
   · omega
   · exact .inl h
  rw [if_pos (by omega)] at HIx
  go_enter Tryz.func83,Tryz.ntmps83
  go_wp2_with fail
  refine HIx.out.mono ?_
  rintro e w1 ⟨rfl,rfl⟩
  go_wp2_with fail
  go_quiet (fail)
  go_wp2_with fail
  go_ret2
  exact ⟨below_drewN (Below.refl _ _) nq,.inr ⟨HEnd.out,_,_,rfl⟩⟩
 ·
  have hj1:1 ≤ j:=by omega
  obtain ⟨ls0,hls0,-⟩:=Ai cs 0 (by rw [H8.out];omega)
  obtain ⟨a0,cap0,cj00,hlies0,hlc0,hlm0,-⟩:=HC.out 0 ls0 hls0
  have hfl0:=Cf hls0
  have HL0:Hid ((AL w a0 (Af cs 0) ∧ (Af cs 0).length ≤ cap0 ∧ cap0 ≤ maxLen) ∧ ls0.length=(Af cs 0).length):=by rw [hfl0];exact ⟨⟨hlies0,hlc0,hlm0⟩,rfl⟩
  have HK0:Hid (Af cs 0 ≠ [] ∧ Ag (Af cs 0)):=by
   have h:=HJ.out.2.1 0 hj1
   refine ⟨h,?_⟩
   rcases HCo.out 0 (by omega) with h' | h'
   · exact absurd h' h
   · exact h'
  obtain ⟨n0,hn0⟩:∃ n0,ls0.length=n0:=⟨_,rfl⟩
  rw [hn0] at cj00 HL0
  rw [Nat.add_zero] at cj00
  clear hls0 hlies0 hlc0 hlm0 hfl0 hn0
  have hjne:((j:Int) == 0)=false:=by simp;omega
  have hj1z:(j:Int) - 1=((j - 1:Nat):Int):=by omega
  have hjc:j ≤ ccap:=by omega
  have hcz:(1:Int) ≤ (j:Int):=by omega
  by_cases hjl:j < 8
  ·
   rw [if_pos hjl] at HIx
   have hjcc:j ≠ ccap:=by omega
   go_enter Tryz.func83,Tryz.ntmps83
   go_wp2_with fail
   refine HIx.out.mono ?_
   rintro e w1 ⟨rfl,rfl⟩
   go_wp2_with fail
   go_loopg [5,27] 8 (fun gk sv iv wr=>∃ (q:Nat) (a:Option Addr) (cap:Nat) (M:List (Int × Int)),sv=.slice a M.length cap ∧ iv=.int .i64 (q:Int) ∧ q+1 ≤ j ∧ j - q ≤ gk ∧ Hid (Fx BK cs (q+1) M ∧ Ag M ∧ AL wr a M ∧ M.length ≤ cap ∧ cap ≤ maxLen) ∧ Hid (Below w1.heap.size w1 wr))
   case atStart=>exact ⟨0,a0,cap0,Af cs 0,by rw [HL0.out.2],rfl,by omega,by omega,⟨rfl,HK0.out.2,HL0.out.1.1,HL0.out.1.2.1,HL0.out.1.2.2⟩,Below.refl _ _⟩
   case round=>
    obtain ⟨q,a,cap,M,rfl,rfl,hqj,hgk,HM,HB⟩:=hrel
    by_cases hlt:q+1 < j
    ·
     have hltz:(q:Int) < ((j - 1:Nat):Int):=by omega
     obtain ⟨t,ht⟩:∃ t,j - 1=t:=⟨_,rfl⟩
     rw [ht] at hltz
     obtain ⟨ls,hls,-⟩:=Ai cs (q+1) (by rw [H8.out];omega)
     obtain ⟨a',cap',cj0,hlies,hlc,hlm,-⟩:=HC.out (q+1) ls hls
     have cj:=cell_later HB.out cj0
     have hfl:=Cf hls
     have hne:=HJ.out.2.1 (q+1) hlt
     rw [hfl] at hne
     have hokl:Ag ls:=by
      rcases HCo.out (q+1) (by omega) with h | h
      · rw [hfl] at h;exact absurd h hne
      · rw [hfl] at h;exact h
     have HSu:=(show Hid (Calls Tryz.prog 119 #[.slice a M.length cap,.slice a' ls.length cap'] wr fun e w'=>TV M ls wr e w') from Td a a' cap cap' M ls wr ad (HE.out.below HB.out) HM.out.2.2.1 (hlies.below HB.out) HM.out.2.1 hokl)
     have HLs:Hid (Af cs (q+1)=ls ∧ ls ≠ [] ∧ Ag ls):=⟨hfl,hne,hokl⟩
     rw [show off+(q+1)=off+1+q by omega] at cj
     obtain ⟨n',hn'⟩:∃ n',ls.length=n':=⟨_,rfl⟩
     obtain ⟨m',hm'⟩:∃ m',M.length=m':=⟨_,rfl⟩
     rw [hn'] at cj HSu
     rw [hm'] at HSu ⊢
     clear hls cj0 hlies hlc hlm hfl hne hokl hn' hm' ht
     go_wp2_with fail
     refine HSu.out.mono ?_
     rintro e w2 ⟨sa,sn,scap,E,code,L,rfl,hrel,hb2,hz,hnz⟩
     have HB2:Hid (Below w1.heap.size w1 w2):=HB.out.trans (hb2.mono HB.out.size)
     by_cases hc0:code=0
     ·
      obtain ⟨rfl,hsn,hlL,hL1,hL2⟩:=hz hc0
      have HM2:Hid (Fx BK cs (q+1+1) L ∧ Ag L ∧ AL w2 sa L ∧ L.length ≤ scap ∧ scap ≤ maxLen):=by
       rw [hc0] at hrel
       have hn:=HLs.out
       exact ⟨MF HM.out.1 (by rw [hn.1];exact hn.2.1) (by rw [hn.1];exact hrel),IW.ok M ls L HM.out.2.1 hn.2.2 hrel,hlL,hL1,hL2⟩
      have HSn:Hid (sn=L.length):=hsn
      clear hrel hb2 hz hnz hc0 hsn hlL hL1 hL2 HSu HM HB
      go_wp2_with fail
      go_roundg (j - (q+1))
      case measure=>omega
      case rel=>exact ⟨q+1,sa,scap,L,by rw [HSn.out],by go_num,by omega,Nat.le_refl _,HM2,HB2⟩
     ·
      obtain ⟨ty,v,rfl⟩:=hnz hc0
      have HEnd:Hid (Dr cs w1 (.returned (.tuple #[.slice none 0 0,.iface ty v])) w2):=by
       have hn:=HLs.out
       exact ⟨HB2.out,.inr ⟨.inr ⟨HJ.out.2.1 0 (by omega),q+1,M,code,L,by omega,by omega,HM.out.1,by rw [hn.1];exact hn.2.1,by rw [hn.1];exact hrel,hc0⟩,ty,v,rfl⟩⟩
      clear hrel hb2 hz hnz hc0 HSu HM HB
      go_wp2_with fail
      go_ret2
      exact HEnd.out
    ·
     have hltz:¬ (q:Int) < ((j - 1:Nat):Int):=by omega
     obtain ⟨t,ht⟩:∃ t,j - 1=t:=⟨_,rfl⟩
     rw [ht] at hltz
     obtain rfl:q=t:=by omega
     have HEnd:Hid (Dr cs w1 (.returned (.tuple #[.slice a M.length cap,.nilIface])) wr):=by
      refine ⟨HB.out,.inl ⟨a,cap,M,⟨HJ.out.2.1 0 (by omega),j,hj1,HJ.out.1,?_,HJ.out.2.2⟩,rfl,HM.out.2.2⟩⟩
      rw [show j=q+1 by omega]
      exact HM.out.1
     clear HM HB ht
     go_wp2_with fail
     go_ret2
     exact HEnd.out
  ·
   rw [if_neg hjl] at HIx
   obtain rfl:j=8:=by omega
   go_enter Tryz.func83,Tryz.ntmps83
   go_wp2_with fail
   refine HIx.out.mono ?_
   rintro e w1 ⟨rfl,rfl⟩
   go_wp2_with fail
   go_loopg [5,27] 8 (fun gk sv iv wr=>∃ (q:Nat) (a:Option Addr) (cap:Nat) (M:List (Int × Int)),sv=.slice a M.length cap ∧ iv=.int .i64 (q:Int) ∧ q+1 ≤ 8 ∧ 8 - q ≤ gk ∧ Hid (Fx BK cs (q+1) M ∧ Ag M ∧ AL wr a M ∧ M.length ≤ cap ∧ cap ≤ maxLen) ∧ Hid (Below w1.heap.size w1 wr))
   case atStart=>exact ⟨0,a0,cap0,Af cs 0,by rw [HL0.out.2],rfl,by omega,by omega,⟨rfl,HK0.out.2,HL0.out.1.1,HL0.out.1.2.1,HL0.out.1.2.2⟩,Below.refl _ _⟩
   case round=>
    obtain ⟨q,a,cap,M,rfl,rfl,hqj,hgk,HM,HB⟩:=hrel
    by_cases hlt:q+1 < 8
    ·
     have hltz:(q:Int) < ((8 - 1:Nat):Int):=by omega
     obtain ⟨t,ht⟩:∃ t,8 - 1=t:=⟨_,rfl⟩
     rw [ht] at hltz
     obtain ⟨ls,hls,-⟩:=Ai cs (q+1) (by rw [H8.out];omega)
     obtain ⟨a',cap',cj0,hlies,hlc,hlm,-⟩:=HC.out (q+1) ls hls
     have cj:=cell_later HB.out cj0
     have hfl:=Cf hls
     have hne:=HJ.out.2.1 (q+1) hlt
     rw [hfl] at hne
     have hokl:Ag ls:=by
      rcases HCo.out (q+1) (by omega) with h | h
      · rw [hfl] at h;exact absurd h hne
      · rw [hfl] at h;exact h
     have HSu:=(show Hid (Calls Tryz.prog 119 #[.slice a M.length cap,.slice a' ls.length cap'] wr fun e w'=>TV M ls wr e w') from Td a a' cap cap' M ls wr ad (HE.out.below HB.out) HM.out.2.2.1 (hlies.below HB.out) HM.out.2.1 hokl)
     have HLs:Hid (Af cs (q+1)=ls ∧ ls ≠ [] ∧ Ag ls):=⟨hfl,hne,hokl⟩
     rw [show off+(q+1)=off+1+q by omega] at cj
     obtain ⟨n',hn'⟩:∃ n',ls.length=n':=⟨_,rfl⟩
     obtain ⟨m',hm'⟩:∃ m',M.length=m':=⟨_,rfl⟩
     rw [hn'] at cj HSu
     rw [hm'] at HSu ⊢
     clear hls cj0 hlies hlc hlm hfl hne hokl hn' hm' ht
     go_wp2_with fail
     refine HSu.out.mono ?_
     rintro e w2 ⟨sa,sn,scap,E,code,L,rfl,hrel,hb2,hz,hnz⟩
     have HB2:Hid (Below w1.heap.size w1 w2):=HB.out.trans (hb2.mono HB.out.size)
     by_cases hc0:code=0
     ·
      obtain ⟨rfl,hsn,hlL,hL1,hL2⟩:=hz hc0
      have HM2:Hid (Fx BK cs (q+1+1) L ∧ Ag L ∧ AL w2 sa L ∧ L.length ≤ scap ∧ scap ≤ maxLen):=by
       rw [hc0] at hrel
       have hn:=HLs.out
       exact ⟨MF HM.out.1 (by rw [hn.1];exact hn.2.1) (by rw [hn.1];exact hrel),IW.ok M ls L HM.out.2.1 hn.2.2 hrel,hlL,hL1,hL2⟩
      have HSn:Hid (sn=L.length):=hsn
      clear hrel hb2 hz hnz hc0 hsn hlL hL1 hL2 HSu HM HB
      go_wp2_with fail
      go_roundg (8 - (q+1))
      case measure=>omega
      case rel=>exact ⟨q+1,sa,scap,L,by rw [HSn.out],by go_num,by omega,Nat.le_refl _,HM2,HB2⟩
     ·
      obtain ⟨ty,v,rfl⟩:=hnz hc0
      have HEnd:Hid (Dr cs w1 (.returned (.tuple #[.slice none 0 0,.iface ty v])) w2):=by
       have hn:=HLs.out
       exact ⟨HB2.out,.inr ⟨.inr ⟨HJ.out.2.1 0 (by omega),q+1,M,code,L,by omega,by omega,HM.out.1,by rw [hn.1];exact hn.2.1,by rw [hn.1];exact hrel,hc0⟩,ty,v,rfl⟩⟩
      clear hrel hb2 hz hnz hc0 HSu HM HB
      go_wp2_with fail
      go_ret2
      exact HEnd.out
    ·
     have hltz:¬ (q:Int) < ((8 - 1:Nat):Int):=by omega
     obtain ⟨t,ht⟩:∃ t,8 - 1=t:=⟨_,rfl⟩
     rw [ht] at hltz
     obtain rfl:q=t:=by omega
     have HEnd:Hid (Dr cs w1 (.returned (.tuple #[.slice a M.length cap,.nilIface])) wr):=by
      refine ⟨HB.out,.inl ⟨a,cap,M,⟨HJ.out.2.1 0 (by omega),8,hj1,HJ.out.1,?_,HJ.out.2.2⟩,rfl,HM.out.2.2⟩⟩
      rw [show 8=q+1 by omega]
      exact HM.out.1
     clear HM HB ht
     go_wp2_with fail
     go_ret2
     exact HEnd.out
theorem XZ (a1 a2:Option Addr) (cap1 cap2:Nat) (la lb:List (Int × Int)) (w:World) (h1:AL w a1 la) (h2:AL w a2 lb) (k1:Ag la) (k2:Ag lb) :
  Calls Tryz.prog 58 #[.slice a1 la.length cap1,.slice a2 lb.length cap2] w fun e w'=>∃ a cap code L,e=.returned (.tuple #[.slice a L.length cap,.int .i64 code]) ∧ BK la lb code L ∧ AL w' a L ∧ L.length ≤ cap ∧ cap ≤ maxLen ∧ Below w.heap.size w w':=by
 refine (YA a1 a2 cap1 cap2 la lb w h1 h2 k1.2.1 k2.2.1 k1.2.2 k2.2.2).mono ?_
 rintro e w' h
 obtain ⟨code,L,hr⟩:∃ code L,BK la lb code L:=by
  obtain ⟨-,⟨hn,-⟩ | ⟨hok,R,hk,-⟩⟩:=h
  · exact ⟨2,[],.inl ⟨hn,rfl,rfl⟩⟩
  ·
   rcases Nat.lt_or_ge 6 R.length with h6 | h6
   · exact ⟨3,[],.inr ⟨hok,R,PH hk,.inl ⟨h6,rfl,rfl⟩⟩⟩
   · exact ⟨0,R,.inr ⟨hok,R,PH hk,.inr ⟨h6,rfl,rfl⟩⟩⟩
 obtain ⟨v,rfl,ho,hb⟩:=YU h hr
 obtain ⟨a,n,cap,rfl⟩:∃ a n cap,v=.slice a n cap:=by
  obtain ⟨-,⟨rfl,-⟩ | ⟨g,cap,cur,rfl,-⟩⟩:=ho
  · exact ⟨_,_,_,rfl⟩
  · exact ⟨_,_,_,rfl⟩
 obtain ⟨rfl,e2,e3,e4⟩:=ho.lies
 exact ⟨a,cap,code,L,rfl,hr,e4,e2,e3,hb⟩
theorem Su (a:Option Addr) (cap:Nat) (L:List (Int × Int)) (per:Int) (w:World) (ad:Nat → Addr) (he:AP w ad) (hl:AL w a L) (hcap:L.length ≤ cap) (hm:cap ≤ maxLen) (hL:Ag L) (h1:1 ≤ per) (h2:per ≤ 1000) :
  Calls Tryz.prog 35 #[.slice a L.length cap,.int .i64 per] w fun e w'=>∃ o,BS per L o ∧ NumEnd o w e w':=by
 by_cases hs:EX L * per ≤ 1000
 ·
  refine (Zc a cap L per w hl hcap hm ⟨hL,h1,h2⟩ hs).mono ?_
  rintro e w' ⟨d,rfl,hd,hb⟩
  exact ⟨some d,.inl ⟨d,rfl,hd,hs⟩,hb,.inr ⟨d,rfl,rfl⟩⟩
 ·
  refine (Ud a cap L per w ad he hl hcap hm ⟨hL,h1,h2⟩ (by omega)).mono ?_
  rintro e w' ⟨rfl,hb⟩
  exact ⟨none,.inr ⟨rfl,by omega⟩,hb,.inl ⟨rfl,_,rfl,AY (he.below hb) 3 (by omega)⟩⟩
theorem VP (a:Option Addr) (cap:Nat) (L:List (Int × Int)) (per:Int) (w:World) (ad:Nat → Addr) (he:AP w ad) (hl:AL w a L) (hcap:L.length ≤ cap) (hm:cap ≤ maxLen) (hL:Ag L) (h1:1 ≤ per) (h2:per ≤ 1000) :
  Calls Tryz.prog 36 #[.slice a L.length cap,.int .i64 per] w fun e w'=>∃ o,CF per L o ∧ NumEnd o w e w':=by
 refine (X7 a cap L per w ad he hl hcap hm ⟨hL,h1,h2⟩).mono ?_
 rintro e w' ⟨hb,⟨n,hn,rfl⟩ | ⟨hn,rfl⟩⟩
 · exact ⟨some (per * n),.inl ⟨n,rfl,hn⟩,hb,.inr ⟨_,rfl,rfl⟩⟩
 · exact ⟨none,.inr ⟨rfl,hn⟩,hb,.inl ⟨rfl,_,rfl,AY (he.below hb) 3 (by omega)⟩⟩
theorem Tryz.callDelay (args:Array Value) (W:World):Sem.run Tryz.prog (callFunc 35 args) W=.ok (.enter 35 args) W:=by kernel_rfl
theorem Tryz.callBusy (args:Array Value) (W:World):Sem.run Tryz.prog (callFunc 36 args) W=.ok (.enter 36 args) W:=by kernel_rfl
section
variable (ca:Option Addr) (m ccap:Nat) (kb:ByteArray) (per:Int) (na:Option Addr) (r ncap:Nat) (w:World)
theorem Ng (c p:Int) (hc:0 < c) (h:Hz w (.agg #[.slice ca m ccap,.string kb,.int .i64 per,.slice na r ncap]) c p) :
  Calls Tryz.prog 46 #[.agg #[.slice ca m ccap,.string kb,.int .i64 per,.slice na r ncap]] w fun e w'=>∃ E,e=.returned (.tuple #[.int .i64 0,E]) ∧ AR w' E c p ∧ Below w.heap.size w w':=by
 have hb1:Below w.heap.size w (w.alloc (.cells #[.slice ca m ccap,.string kb,.int .i64 per,.slice na r ncap] 70)):=(Below.refl _ _).alloc (Nat.le_refl _) _
 have HC:=(show Hid (Calls Tryz.prog 82 #[.agg #[.slice ca m ccap,.string kb,.int .i64 per,.slice na r ncap]] (w.alloc (.cells #[.slice ca m ccap,.string kb,.int .i64 per,.slice na r ncap] 70)) fun e w'=>∃ E,e=.returned E ∧ AR w' E c p ∧ Below (w.alloc (.cells #[.slice ca m ccap,.string kb,.int .i64 per,.slice na r ncap] 70)).heap.size (w.alloc (.cells #[.slice ca m ccap,.string kb,.int .i64 per,.slice na r ncap] 70)) w') from h _ hb1)
 have HB1:Hid (Below w.heap.size w (w.alloc (.cells #[.slice ca m ccap,.string kb,.int .i64 per,.slice na r ncap] 70))):=hb1
 clear h hb1
 go_enter Tryz.func46,Tryz.ntmps46
 go_wp2_with fail
 refine HC.out.mono ?_
 rintro e w1 ⟨E,rfl,h1,h2⟩
 obtain ⟨ty,v,rfl⟩:=h1.some_ (by omega)
 have H1:Hid (AR w1 (.iface ty v) c p ∧ Below w.heap.size w w1):=⟨h1,HB1.out.trans (h2.mono HB1.out.size)⟩
 clear h1 h2 HC
 go_wp2_with fail
 go_ret2
 exact ⟨_,rfl,H1.out⟩
theorem NW (cs:List (List (Int × Int))) (k:Nat) (hkb:kindOf kb.toList=k) (ad:Nat → Addr) (he:AP w ad) (h1:1 ≤ per) (h2:per ≤ 1000) (hco:Cv (Af cs)) (h:Hz w (.agg #[.slice ca m ccap,.string kb,.int .i64 per,.slice na r ncap]) 0 (-1)) (ht:∀ W,Below w.heap.size w W → Calls Tryz.prog 83 #[.slice ca m ccap] W fun e w'=>Dr cs W e w') :
  Calls Tryz.prog 46 #[.agg #[.slice ca m ccap,.string kb,.int .i64 per,.slice na r ncap]] w fun e w'=>∃ o,Co BK BS CF cs k per o ∧ NumEnd o w e w':=by
 have hb1:Below w.heap.size w (w.alloc (.cells #[.slice ca m ccap,.string kb,.int .i64 per,.slice na r ncap] 70)):=(Below.refl _ _).alloc (Nat.le_refl _) _
 have hga:=F5 w (.slice ca m ccap) kb per (.slice na r ncap) 70
 have HC:=(show Hid (Calls Tryz.prog 82 #[.agg #[.slice ca m ccap,.string kb,.int .i64 per,.slice na r ncap]] (w.alloc (.cells #[.slice ca m ccap,.string kb,.int .i64 per,.slice na r ncap] 70)) fun e w'=>∃ E,e=.returned E ∧ AR w' E 0 (-1) ∧ Below (w.alloc (.cells #[.slice ca m ccap,.string kb,.int .i64 per,.slice na r ncap] 70)).heap.size (w.alloc (.cells #[.slice ca m ccap,.string kb,.int .i64 per,.slice na r ncap] 70)) w') from h _ hb1)
 have HB1:Hid (Below w.heap.size w (w.alloc (.cells #[.slice ca m ccap,.string kb,.int .i64 per,.slice na r ncap] 70))):=hb1
 have HG:Hid (El (w.alloc (.cells #[.slice ca m ccap,.string kb,.int .i64 per,.slice na r ncap] 70)) w.heap.size (.slice ca m ccap) kb per (.slice na r ncap)):=hga
 have HT:Hid (∀ W,Below w.heap.size w W → Calls Tryz.prog 83 #[.slice ca m ccap] W fun e w'=>Dr cs W e w'):=ht
 have HE:Hid (AP w ad):=he
 have HCo:Hid (Cv (Af cs)):=hco
 have hkt:=PI kb
 rw [hkb] at hkt
 have t1:=hkt.t1
 have u1:=hkt.u1
 have hcD:=Tryz.callDelay
 have hcB:=Tryz.callBusy
 clear h hb1 hga ht he hco hkt hkb
 obtain ⟨isF,hF⟩:∃ b,decide (k=1)=b:=⟨_,rfl⟩
 rw [hF] at t1 u1
 have HF:Hid (decide (k=1)=isF):=hF
 clear hF
 go_enter Tryz.func46,Tryz.ntmps46
 go_wp2_with fail
 refine HC.out.mono ?_
 rintro e w1 ⟨E,rfl,he1,hb2⟩
 obtain rfl:=he1.none_ rfl
 have HB2:Hid (Below w.heap.size w w1):=HB1.out.trans (hb2.mono HB1.out.size)
 have HG1:Hid (El w1 w.heap.size (.slice ca m ccap) kb per (.slice na r ncap)):=HG.out.later hb2
 have g0:=HG1.out.c0
 clear he1 hb2 HC
 go_wp2_with fail
 refine (HT.out _ HB2.out).mono ?_
 rintro e w2 ⟨hb3,⟨a,cap,L,hall,rfl,hlL,hL1,hL2⟩ | ⟨hnone,ty,v,rfl⟩⟩
 ·
  have HB3:Hid (Below w.heap.size w w2):=HB2.out.trans (hb3.mono HB2.out.size)
  have HG2:Hid (El w2 w.heap.size (.slice ca m ccap) kb per (.slice na r ncap)):=HG1.out.later hb3
  have hokL:Ag L:=by
   obtain ⟨h0,q,-,hq8,hq,-⟩:=hall
   exact GY IW HCo.out h0 q L hq8 hq
  have g1:=HG2.out.c1
  have g2:=HG2.out.c2
  have HAll:Hid (EA BK cs L):=hall
  have HDe:=(show Hid (Calls Tryz.prog 35 #[.slice a L.length cap,.int .i64 per] w2 fun e w'=>∃ o,BS per L o ∧ NumEnd o w2 e w') from Su a cap L per w2 ad (HE.out.below HB3.out) hlL hL1 hL2 hokL h1 h2)
  have HBu:=(show Hid (Calls Tryz.prog 36 #[.slice a L.length cap,.int .i64 per] w2 fun e w'=>∃ o,CF per L o ∧ NumEnd o w2 e w') from VP a cap L per w2 ad (HE.out.below HB3.out) hlL hL1 hL2 hokL h1 h2)
  obtain ⟨n,hn⟩:∃ n,L.length=n:=⟨_,rfl⟩
  rw [hn] at HDe HBu ⊢
  have HEndE:Hid (∀ o w3,Co BK BS CF cs k per o → Below w2.heap.size w2 w3 → o=none → ∃ ad3,w3.cell? ⟨3,0,none⟩=some (.iface 312 (.pointer (some ad3))) ∧ ∀ q,∃ o,Co BK BS CF cs k per o ∧ NumEnd o w (.returned (.tuple #[.int .i64 0,.iface 312 (.pointer (some ad3))])) (w3.drewN q)):=fun o w3 ho hb hn=>by
   have hb':=HB3.out.trans (hb.mono HB3.out.size)
   refine ⟨ad 3,(HE.out.below hb').c3,fun q=>⟨none,by rw [hn] at ho;exact ho,below_drewN hb' q,.inl ⟨rfl,_,rfl,AY (HE.out.below (below_drewN hb' q)) 3 (by omega)⟩⟩⟩
  have HEndN:Hid (∀ d w3,Co BK BS CF cs k per (some d) → Below w2.heap.size w2 w3 → ∃ o,Co BK BS CF cs k per o ∧ NumEnd o w (.returned (.tuple #[.int .i64 d,.nilIface])) w3):=fun d w3 ho hb=>⟨some d,ho,HB3.out.trans (hb.mono HB3.out.size),.inr ⟨d,rfl,rfl⟩⟩
  clear hb3 hall hlL hL1 hL2 hokL hn
  cases isF with
  | true=>
   have hk1:k=1:=by have:=HF.out;simpa using this
   have HBd:Hid (∀ o,BS per L o → Co BK BS CF cs k per o):=fun o ho=>.inr ⟨L,HAll.out,.inl ⟨hk1,ho⟩⟩
   clear hk1 HBu
   go_wp2_with fail
   refine HDe.out.mono ?_
   rintro e w3 ⟨o,ho,hb4,⟨hon,E,rfl,hE⟩ | ⟨d,hod,rfl⟩⟩
   ·
    obtain ⟨ty,v,rfl⟩:=hE.some_ (by decide)
    obtain ⟨ad3,c3,hend⟩:=HEndE.out o w3 (HBd.out o ho) hb4 hon
    have HEd:Hid (∀ q,∃ o,Co BK BS CF cs k per o ∧ NumEnd o w (.returned (.tuple #[.int .i64 0,.iface 312 (.pointer (some ad3))])) (w3.drewN q)):=hend
    clear ho hb4 hon hE hend HDe
    go_wp2_with fail
    go_quiet (fail)
    go_wp2_with fail
    go_ret2
    exact HEd.out nq
   ·
    rw [hod] at ho
    have HEd:Hid (∃ o,Co BK BS CF cs k per o ∧ NumEnd o w (.returned (.tuple #[.int .i64 d,.nilIface])) w3):=HEndN.out d w3 (HBd.out _ ho) hb4
    clear ho hb4 hod HDe
    go_wp2_with fail
    go_ret2
    exact HEd.out
  | false=>
   have hk1:k ≠ 1:=by have:=HF.out;simpa using this
   have HBd:Hid (∀ o,CF per L o → Co BK BS CF cs k per o):=fun o ho=>.inr ⟨L,HAll.out,.inr ⟨hk1,ho⟩⟩
   clear hk1 HDe
   go_wp2_with fail
   refine HBu.out.mono ?_
   rintro e w3 ⟨o,ho,hb4,⟨hon,E,rfl,hE⟩ | ⟨d,hod,rfl⟩⟩
   ·
    obtain ⟨ty,v,rfl⟩:=hE.some_ (by decide)
    obtain ⟨ad3,c3,hend⟩:=HEndE.out o w3 (HBd.out o ho) hb4 hon
    have HEd:Hid (∀ q,∃ o,Co BK BS CF cs k per o ∧ NumEnd o w (.returned (.tuple #[.int .i64 0,.iface 312 (.pointer (some ad3))])) (w3.drewN q)):=hend
    clear ho hb4 hon hE hend HBu
    go_wp2_with fail
    go_quiet (fail)
    go_wp2_with fail
    go_ret2
    exact HEd.out nq
   ·
    rw [hod] at ho
    have HEd:Hid (∃ o,Co BK BS CF cs k per o ∧ NumEnd o w (.returned (.tuple #[.int .i64 d,.nilIface])) w3):=HEndN.out d w3 (HBd.out _ ho) hb4
    clear ho hb4 hod HBu
    go_wp2_with fail
    go_ret2
    exact HEd.out
 ·
  have HB3:Hid (Below w.heap.size w w2):=HB2.out.trans (hb3.mono HB2.out.size)
  have c3:=(HE.out.below HB3.out).c3
  have HEd:Hid (∀ q,∃ o,Co BK BS CF cs k per o ∧ NumEnd o w (.returned (.tuple #[.int .i64 0,.iface 312 (.pointer (some (ad 3)))])) (w2.drewN q)):=fun q=>⟨none,.inl ⟨hnone,rfl⟩,below_drewN HB3.out q,.inl ⟨rfl,_,rfl,AY (HE.out.below (below_drewN HB3.out q)) 3 (by omega)⟩⟩
  clear hb3 hnone
  go_wp2_with fail
  go_quiet (fail)
  go_wp2_with fail
  go_ret2
  exact HEd.out nq
end
theorem Iw:UQ BK BS CF where
 way:=IW
 sumOf:=XZ
 delay1:=QS
 busy1:=Rw
 delay:=Su
 busy:=VP
 bad:=fun ca ccap cs kb per na ncap ns w ad c p he hg h hc=>Ng ca _ ccap kb per na _ ncap w c p hc fun W hW=>DK ca ccap cs kb per na ncap ns W ad c p (he.below hW) (hg.below hW) h
 good:=fun ca ccap cs kb per na ncap ns w ad he hg hok=>by
  refine NW ca _ ccap kb per na _ ncap w cs _ rfl ad he hok.per.1 hok.per.2 (fun f hf=>?_) (fun W hW=>DK ca ccap cs kb per na ncap ns W ad 0 (-1) (he.below hW) (hg.below hW) ?_) (fun W hW=>Q4 ca ccap cs W ad (he.below hW) (hg.curves.below hW) hok.len hg.cfit hok.curves)
  ·
   obtain ⟨ls,hls,-⟩:=Ai cs f (by rw [hok.len];exact hf)
   rw [Cf hls]
   exact hok.curves f ls hf hls
  · exact .inr (.inr ⟨hok.len,hok.curves,rfl,.inr ⟨hok.kind.1,hok.kind.2,.inr ⟨hok.per.1,hok.per.2,0,hok.nums,rfl⟩⟩⟩)
def Cx (c n:Int) (w:World) (e:Ending) (w':World):Prop:=∃ z E p,e=.returned (.tuple #[.int .i64 z,E]) ∧ AR w' E c p ∧ (c=0 → z=n) ∧ Below w.heap.size w w'
def Mj (c:Int) (l:List Sn) (w:World) (e:Ending) (w':World):Prop:=
 ∃ la n lcap E p,e=.returned (.tuple #[.slice la n lcap,E]) ∧ AR w' E c p ∧ (c=0 → n=l.length ∧ GL w' la lcap l) ∧ Below w.heap.size w w'
theorem TZ {s:Scr} {f:Nat} {ls:List (Int × Int)} (h:s.cs[f]? = some ls):Af s.cs f=ls:=Cf h
section
variable (w0:World) (ad:Nat → Addr) (N g cb:Nat) (hS:Site w0 ad N g cb) (s:Scr) (w:World) (hw:Below w0.heap.size w0 w) (hp:Aw w N g cb s) (ho:Bo s)
theorem Wv (w0:World) (ad:Nat → Addr) (N g cb:Nat) (hS:Site w0 ad N g cb) (s:Scr) (w:World) (hw:Below w0.heap.size w0 w) (hp:Aw w N g cb s) (ho:Bo s) (wb:Nat) (ws:List (List UInt8)) (hl:Bp w (some ⟨wb,0,none⟩) ws) (hs:DU ws) (c n:Int) (hc:Zu s ws c n) :
  Calls Tryz.prog 77 #[.pointer (some ⟨g,0,none⟩),.slice (some ⟨wb,0,none⟩) ws.length ws.length] w fun e w'=>Cx c n w e w':=by
 have he:=hS.env.below hw
 have HEt:Hid (∀ W,Below w.heap.size w W → c=1 → Cx c n w (.returned (.tuple #[.int .i64 0,.iface 312 (.pointer (some (ad 0)))])) W):=fun W hW h1=>by
  subst h1
  exact ⟨0,_,-1,rfl,AY (he.below hW).errs 0 (by decide),(fun h=>by cases h),hW⟩
 have c0:=he.errs.c0
 have HS:Hid (Aw w N g cb s ∧ Bo s ∧ Env w ad):=⟨hp,ho,he⟩
 by_cases h2:ws.length=2
 ·
  obtain ⟨x,y,rfl⟩:∃ x y,ws=[x,y]:=by
   match ws,h2 with
   | [x,y],_=>exact ⟨x,y,rfl⟩
  obtain ⟨x0,x1⟩:w.cell? ⟨wb,0,none⟩=some (Ah x) ∧ w.cell? ⟨wb,1,none⟩=some (Ah y):=by
   obtain ⟨b,off,e,hlt,hc⟩:=hl.place (by simp)
   cases e
   exact ⟨hc 0 x rfl,hc 1 y rfl⟩
  have HRf:Hid (Calls Tryz.prog 98 #[Ah x] w fun e w'=>BO (ad 0) (DN x) w e w'):=Lv ⟨x.toArray⟩ w (ad 0) he.errs.c0 (by have:=hs.2 x (by simp);show x.toArray.size ≤ _;simp;omega)
  have HRn:Hid (∀ W,Below w.heap.size w W → Calls Tryz.prog 100 #[Ah y] W fun e w'=>BO (ad 0) (Ev y) W e w'):=fun W hW=>Fj ⟨y.toArray⟩ W (ad 0) (he.below hW).errs.c0 (by have:=hs.2 y (by simp);show y.toArray.size ≤ _;simp;omega)
  have HC:Hid (Zu s [x,y] c n):=hc
  clear hl hs hc h2 hS hw hp ho he
  go_enter Tryz.func77,Tryz.ntmps77
  go_wp2_with fail
  refine HRf.out.mono ?_
  rintro e w1 ⟨hb1,⟨hf,rfl⟩ | ⟨f,hf,rfl⟩⟩
  ·
   have HE:Hid (Cx c n w (.returned (.tuple #[.int .i64 0,.iface 312 (.pointer (some (ad 0)))])) w1):=by
    refine HEt.out w1 hb1 ?_
    obtain ⟨h,-⟩ | ⟨x',y',e,⟨-,h⟩ | ⟨f,h,-⟩⟩:=HC.out
    · exact absurd rfl h
    · exact h
    ·
     cases e
     rw [hf] at h;cases h
   clear hf hb1
   go_wp2_with fail
   go_ret2
   exact HE.out
  ·
   have hf8:0 ≤ f ∧ f < 8:=by
    unfold DN at hf
    obtain ⟨z,-,hz⟩:=Option.bind_eq_some_iff.1 hf
    split at hz
    · rename_i h8;cases hz;exact h8
    · cases hz
   have HB1:Hid (Below w.heap.size w w1 ∧ DN x=some f):=⟨hb1,hf⟩
   have z1:=cell_later hb1 x1
   clear hf hb1 c0 x0 x1
   go_wp2_with fail
   refine (HRn.out w1 HB1.out.1).mono ?_
   rintro e w2 ⟨hb2,⟨hn,rfl⟩ | ⟨t,hn,rfl⟩⟩
   ·
    have HE:Hid (Cx c n w (.returned (.tuple #[.int .i64 0,.iface 312 (.pointer (some (ad 0)))])) w2):=by
     refine HEt.out w2 (HB1.out.1.trans (hb2.mono HB1.out.1.size)) ?_
     obtain ⟨h,-⟩ | ⟨x',y',e,⟨h,-⟩ | ⟨f',h,⟨-,h1⟩ | ⟨t,p,h1,-⟩⟩⟩:=HC.out
     · exact absurd rfl h
     ·
      cases e
      rw [HB1.out.2] at h;cases h
     · exact h1
     ·
      cases e
      rw [hn] at h1;cases h1
    clear hn hb2
    go_wp2_with fail
    go_ret2
    exact HE.out
   ·
    have hb:=HB1.out.1.trans (hb2.mono HB1.out.1.size)
    obtain ⟨p,hfl,hcn⟩:∃ p,CW (Af s.cs f.toNat) c p ∧ (c=0 → n=Bt t (Af s.cs f.toNat)):=by
     obtain ⟨h,-⟩ | ⟨x',y',e,⟨h,-⟩ | ⟨f',h,⟨h1,-⟩ | ⟨t',p,h1,h2,h3⟩⟩⟩:=HC.out
     · exact absurd rfl h
     ·
      cases e
      rw [HB1.out.2] at h;cases h
     ·
      cases e
      rw [hn] at h1;cases h1
     ·
      cases e
      rw [HB1.out.2] at h
      obtain rfl:=Option.some.inj h
      rw [hn] at h1
      obtain rfl:=Option.some.inj h1
      exact ⟨p,h2,h3⟩
    have ht:=Nc hn
    obtain ⟨fn,rfl⟩:∃ fn:Nat,f=fn:=⟨f.toNat,by omega⟩
    have hfn:fn < 8:=by omega
    obtain ⟨na,nc,pv,hpi⟩:=HS.out.1
    have hp2:=hpi.below hb
    obtain ⟨ls,hls,-⟩:=Ai s.cs fn (by rw [HS.out.2.1.gate.len];exact hfn)
    obtain ⟨a,cap,hcv⟩:=hp2.curves fn ls hls
    rw [Int.toNat_natCast,TZ hls] at hfl hcn
    have HAt:Hid (Calls Tryz.prog 106 #[.slice a ls.length cap,.int .i64 t] w2 fun e w'=>Cx c n w e w'):=by
     by_cases h0:c=0
     ·
      subst h0
      refine (aY a cap ls t w2 hcv.lies hfl.ok.1 hcv.le hcv.max ht.1 (by omega)).mono ?_
      rintro e w' ⟨rfl,hb3⟩
      exact ⟨_,_,-1,rfl,CG _,fun _=>(hcn rfl).symm,hb.trans (hb3.mono hb.size)⟩
     ·
      refine (Yw a cap ls t w2 ad (HS.out.2.2.below hb).errs hcv.lies hcv.le hcv.max c p hfl h0).mono ?_
      rintro e w' ⟨ty,v,rfl,hE,hb3⟩
      exact ⟨0,_,p,rfl,hE,fun h=>absurd h h0,hb.trans (hb3.mono hb.size)⟩
    have y0:=hp2.c0
    have y1:=hcv.cell
    obtain ⟨m,hm⟩:∃ m,ls.length=m:=⟨_,rfl⟩
    rw [hm] at y1 HAt
    clear hn hb2 hb hfl hcn hpi hp2 hcv hls hm z1 HB1 HRn HRf hf8
    go_wp2_with fail
    refine HAt.out.mono ?_
    rintro e w3 ⟨z,E,q,rfl,hE⟩
    have HE:Hid (Cx c n w (.returned (.tuple #[.int .i64 z,E])) w3):=⟨z,E,q,rfl,hE⟩
    clear hE
    go_wp2_with fail
    go_ret2
    exact HE.out
 ·
  have h2':((ws.length:Int) == 2)=false:=by simp;omega
  have HE:Hid (∀ q,Cx c n w (.returned (.tuple #[.int .i64 0,.iface 312 (.pointer (some (ad 0)))])) (w.drewN q)):=fun q=>by
   refine HEt.out _ (below_drewN (Below.refl _ _) q) ?_
   obtain ⟨-,h⟩ | ⟨x,y,h,-⟩:=hc
   · exact h
   · rw [h] at h2;exact absurd rfl h2
  obtain ⟨m,hm⟩:∃ m,ws.length=m:=⟨_,rfl⟩
  rw [hm] at h2' ⊢
  clear h2 hl hs hc hm hS hw hp ho he
  go_enter Tryz.func77,Tryz.ntmps77
  go_wp2_with fail
  go_quiet (fail)
  go_wp2_with fail
  go_ret2
  exact HE.out nq
theorem RU {cs:List (List (Int × Int))} {k:Nat} {per:Int} {ns:List Int} {ps:List Pk} {p:Int} (h:JG cs k per ns ps 0 p):FD cs k per ns ∧ Aj ps ∧ ∀ i,¬ Be (Af cs) ps i:=by
 rcases h with ⟨-,h⟩ | ⟨-,-,h⟩ | ⟨-,-,i,-,-,h,-⟩ | ⟨h1,h2,h3,-,-⟩
 · omega
 · omega
 · omega
 · exact ⟨h1,h2,h3⟩
theorem Xi {cs:List (List (Int × Int))} {k:Nat} {per:Int} {ns:List Int} {ps:List Pk} {c p:Int} (h:JG cs k per ns ps c p) (hc:c ≠ 0):0 < c:=by
 rcases h with ⟨-,h⟩ | ⟨-,-,h⟩ | ⟨-,-,i,-,-,h,-⟩ | ⟨-,-,-,h,-⟩ <;> omega
def Q0 (c:Int) (qs:List Pk) (l:List Sn) (w:World) (e:Ending) (w':World):Prop:=
 ∃ qa qn qcap la n lcap E p,e=.returned (.tuple #[.slice qa qn qcap,.slice la n lcap,E]) ∧ AR w' E c p ∧ (c=0 → qn=qs.length ∧ n=l.length ∧ CE w' qa qcap qs ∧ GL w' la lcap l) ∧ Below w.heap.size w w'
theorem Le (w0:World) (ad:Nat → Addr) (N g cb:Nat) (hS:Site w0 ad N g cb) (s:Scr) (w:World) (hw:Below w0.heap.size w0 w) (ho:Bo s) (na:Option Addr) (ncap:Nat) (pv:Value) (hpi:BP w N g cb na ncap pv s) (c p:Int) (qs:List Pk) (l:List Sn) (hr:JG s.cs (kindOf s.kb) s.per s.ns s.ps c p) (hq:c=0 → CV (Af s.cs) (kindOf s.kb) s.per s.ns s.ps qs l) :
  Calls Tryz.prog 81 #[.agg #[.slice (some ⟨cb,0,none⟩) 8 8,Ah s.kb,.int .i64 s.per,.slice na s.ns.length ncap],pv] w fun e w'=>Q0 c qs l w e w':=by
 have he:=hS.env.below hw
 have hg:=hpi.gate ho.gate.len (Jk ho (ns:=s.ns) (by rcases ho.gate.nums.len with h | h;rw [h.2];decide;omega))
 obtain ⟨pa,pcap,rfl,hpl⟩:=DC.value hpi.pks
 by_cases h0:c=0
 ·
  subst h0
  obtain ⟨k1,k2,k3⟩:=RU hr
  have:=Jo.good (some ⟨cb,0,none⟩) 8 s.cs ⟨s.kb.toArray⟩ s.per na ncap s.ns pa pcap s.ps w ad he.errs hg hpl (by rw [ByteArray.toList_mk];exact k1) k2 k3
  rw [ho.gate.len] at this
  refine this.mono ?_
  rintro e w' ⟨qa,qcap,la,lcap,qs',l',rfl,q1,q2,q3,q4⟩
  rw [ByteArray.toList_mk] at q3
  obtain ⟨rfl,rfl⟩:=q3.same k2 (hq rfl)
  exact ⟨qa,_,qcap,la,_,lcap,_,-1,rfl,CG _,fun _=>⟨rfl,rfl,q1,q2⟩,q4⟩
 ·
  have:=Jo.bad (some ⟨cb,0,none⟩) 8 s.cs ⟨s.kb.toArray⟩ s.per na ncap s.ns pa pcap s.ps w ad c p he.errs hg hpl (by rw [ByteArray.toList_mk];exact hr) (Xi hr h0)
  rw [ho.gate.len] at this
  refine this.mono ?_
  rintro e w' ⟨qa,qcap,la,lcap,E,rfl,q1,q2⟩
  exact ⟨qa,0,qcap,la,0,lcap,E,p,rfl,q1,fun h=>absurd h h0,q2⟩
theorem Ul (w0:World) (ad:Nat → Addr) (N g cb:Nat) (hS:Site w0 ad N g cb) (s:Scr) (w:World) (hw:Below w0.heap.size w0 w) (hp:Aw w N g cb s) (ho:Bo s) (c:Int) (l:List Sn) (hc:XY s c l) :
  Calls Tryz.prog 44 #[.pointer (some ⟨g,0,none⟩)] w fun e w'=>Mj c l w e w':=by
 obtain ⟨p,hr,hq⟩:=hc
 obtain ⟨qs,hqs⟩:∃ qs,c=0 → CV (Af s.cs) (kindOf s.kb) s.per s.ns s.ps qs l:=by
  by_cases h0:c=0
  ·
   obtain ⟨qs,h⟩:=hq h0
   exact ⟨qs,fun _=>h⟩
  · exact ⟨[],fun h=>absurd h h0⟩
 obtain ⟨na,nc,pv,hpi⟩:=hp
 have HR:Hid (∀ W,Below w.heap.size w W → Calls Tryz.prog 81 #[.agg #[.slice (some ⟨cb,0,none⟩) 8 8,Ah s.kb,.int .i64 s.per,.slice na s.ns.length nc],pv] W fun e w'=>Q0 c qs l W e w'):=fun W hW=>Le w0 ad N g cb hS s W (hw.trans (hW.mono hw.size)) ho na nc pv (hpi.below hW) c p qs l hr hqs
 have y0:=hpi.c0
 have y1:=hpi.c1
 have y2:=hpi.c2
 have y3:=hpi.c3
 have y4:=hpi.c4
 have HSb:Hid (∀ W,Below w.heap.size w W → W.cell? ⟨g,0,none⟩=some (.slice (some ⟨cb,0,none⟩) 8 8) ∧ W.cell? ⟨g,1,none⟩=some (Ah s.kb) ∧ W.cell? ⟨g,2,none⟩=some (.int .i64 s.per) ∧ W.cell? ⟨g,3,none⟩=some (.slice na s.ns.length nc) ∧ W.cell? ⟨g,4,none⟩=some pv):=fun W hW=>⟨cell_later hW y0,cell_later hW y1,cell_later hW y2,cell_later hW y3,cell_later hW y4⟩
 obtain ⟨kb,hkb⟩:∃ kb,s.kb=kb:=⟨_,rfl⟩
 obtain ⟨per,hper⟩:∃ per,s.per=per:=⟨_,rfl⟩
 obtain ⟨r,hr'⟩:∃ r,s.ns.length=r:=⟨_,rfl⟩
 rw [hkb] at HSb HR
 rw [hper] at HSb HR
 rw [hr'] at HSb HR
 have HB:Hid (Below w.heap.size w w.drew):=below_drewN (Below.refl _ _) 1
 have hS:=HSb.out _ HB.out
 clear hr hq hqs hpi y0 y1 y2 y3 y4 hkb hper hr' hw ho
 go_enter Tryz.func44,Tryz.ntmps44
 go_wp2_with fail
 go_region_held3 (fun w'=>w'.cell? ⟨g,0,none⟩=some (.slice (some ⟨cb,0,none⟩) 8 8) ∧ w'.cell? ⟨g,1,none⟩=some (Ah kb) ∧ w'.cell? ⟨g,2,none⟩=some (.int .i64 per) ∧ w'.cell? ⟨g,3,none⟩=some (.slice na r nc) ∧ w'.cell? ⟨g,4,none⟩=some pv)
  (first | exact hS)
  (first
  | (go_at_call 81;refine (HR.out _ HB.out).mono ?_;rintro e w6 ⟨qa,qn,qcap,la,n,lcap,E,q,rfl,q1,q2,q3⟩;have HE:Hid (Mj c l w (.returned (.tuple #[.slice la n lcap,E])) w6):=⟨la,n,lcap,E,q,rfl,q1,(fun h=>⟨(q2 h).2.1,(q2 h).2.2.2⟩),HB.out.trans (q3.mono HB.out.size)⟩;have hS:=HSb.out w6 (HB.out.trans (q3.mono HB.out.size));clear q1 q2 q3))
 all_goals
  clear hS HSb HR HB
  go_wp2_with fail
  go_ret2
  exact HE.out
end
end Go.Proofs.YtipdclphpkgceaaGreatDoor
