/- Own facts, put together: no statement of its own. -/
import Derived.Test.YtipdclphpkgceaaGreatDoorA33
import Derived.OwnWalk
import Derived.Test.YtipdclphpkgceaaGreatDoorA32
import Derived.Test.YtipdclphpkgceaaGreatDoorA30
set_option maxHeartbeats 4000000
set_option maxRecDepth 100000

namespace Go.Proofs.YtipdclphpkgceaaGreatDoor
open Go.RowKit
theorem OA (ca:Option Addr) (ccap:Nat) (cs:List (List (Int × Int))) (pa:Option Addr) (pcap:Nat) (w:World) (ad:Nat → Addr) (he:AP w ad) (hl:IB w ca cs) (h8:cs.length=8) (hto:Ci cs 8) (hp:CE w pa pcap []) :
  Calls Tryz.prog 114 #[.slice ca cs.length ccap,.slice pa 0 pcap] w fun e w'=>Dp cs [] ad w e w':=by
 have HC:=(show Hid (Calls Tryz.prog 137 #[.slice pa 0 pcap] w fun e w'=>∃ v,e=.returned v ∧ DC w' w.heap.size v [] ∧ Below w.heap.size w w') from Ju pa pcap [] w hp.pks (by simp) hp.none_)
 have HE:Hid (AP w ad):=he
 have HTo:Hid (Ci cs 8):=hto
 have H8:Hid (cs.length=8):=h8
 obtain ⟨b,off,rfl,-,hcc⟩:=hl.place (by omega)
 have HCc:Hid (∀ (i:Nat) ls,cs[i]? = some ls → ∃ a' cap,w.cell? ⟨b,off+i,none⟩=some (.slice a' ls.length cap) ∧ AL w a' ls ∧ ls.length ≤ cap ∧ cap ≤ maxLen ∧ (a'=none → ls=[] ∧ cap=0)):=hcc
 have HEnd:Hid (∀ (qa:Option Addr) (qcap:Nat) (W:World),Below w.heap.size w W → qcap ≤ maxLen → (qa=none → qcap=0) → Dp cs [] ad w (.returned (.tuple #[.slice qa 0 qcap,.nilIface])) W):=fun qa qcap W hb h1 h2=>by
  have hn:∀ i,¬ Be (Af cs) [] i:=fun i h=>by obtain ⟨p,s,h1,-⟩:=h;simp at h1
  obtain ⟨at_,hs⟩:=Wu (cs:=Af cs) Eh hn
  exact ⟨hb,.inr ⟨qa,qcap,at_,[],hn,hs,Bg.start at_,rfl,.inl rfl,Nat.zero_le _,h1,fun h=>⟨rfl,h2 h⟩⟩⟩
 rw [h8]
 clear he hto hl hp hcc h8
 go_enter Tryz.func114,Tryz.ntmps114
 go_wp2_with fail
 refine HC.out.mono ?_
 rintro e w1 ⟨v,rfl,hown,hb1⟩
 obtain ⟨qa,qcap,rfl,-,hqm,-,-,hqn⟩:=hown.open
 have HQ:Hid (qcap ≤ maxLen ∧ (qa=none → qcap=0)):=⟨hqm,fun h=>(hqn h).2⟩
 have HB1:Hid (Below w.heap.size w w1):=hb1
 simp only [List.length_nil] at *
 clear hown hqm hqn hb1 HC
 go_wp2_with fail
 go_loopg [7,16] 8 (fun gk sv iv wr=>∃ k:Nat,sv=.int .i64 0 ∧ iv=.int .i64 (k:Int) ∧ k ≤ 8 ∧ 8 - k ≤ gk ∧ Hid (Below w.heap.size w wr))
 case atStart=>exact ⟨0,rfl,rfl,Nat.zero_le _,Nat.le_refl _,HB1⟩
 case round=>
  clear HB1
  obtain ⟨k,rfl,rfl,hk8',hgk,HB⟩:=hrel
  by_cases hk8:k < 8
  ·
   have hkz:(k:Int) < 8:=by omega
   obtain ⟨ls,hls,-⟩:=Ai cs k (by rw [H8.out];exact hk8)
   obtain ⟨a',cap,cj0,hlies,hlc,hlm,-⟩:=HCc.out k ls hls
   have cj:=cell_later HB.out cj0
   have HG:Hid (cs[k]? = some ls ∧ AL w a' ls):=⟨hls,hlies⟩
   obtain ⟨n,hn⟩:∃ n,ls.length=n:=⟨_,rfl⟩
   have HN:Hid (ls.length=n):=hn
   rw [hn] at cj
   clear hls cj0 hlies hlc hlm hn
   by_cases hn0:n=0
   ·
    have HEm:Hid (Calls Tryz.prog 118 #[.slice a' n cap] wr fun e w'=>e=.returned (.bool true) ∧ w'=wr):=De a' n cap wr true (by simp;exact hn0)
    clear hn0
    go_wp2_with fail
    refine HEm.out.mono ?_
    rintro e w2 ⟨rfl,rfl⟩
    go_wp2_with fail
    go_roundg (8 - (k+1))
    case measure=>omega
    case rel=>exact ⟨k+1,rfl,by go_num,by omega,Nat.le_refl _,HB⟩
   ·
    have HEm:Hid (Calls Tryz.prog 118 #[.slice a' n cap] wr fun e w'=>e=.returned (.bool false) ∧ w'=wr):=De a' n cap wr false (by simp;omega)
    have hok:Ag ls:=by
     rcases HTo.out k ls hk8 HG.out.1 with h | h
     · exact absurd (by rw [← HN.out,h];rfl) hn0
     · exact h
    have HFl:Hid (Calls Tryz.prog 138 #[.slice a' n cap,.slice qa 0 qcap,.int .i64 (k:Int)] wr fun e w'=>e=.returned (.int .i64 0) ∧ Below wr.heap.size wr w'):=by
     have:=NR a' cap ls qa qcap (k:Int) wr ad (HE.out.below HB.out) (HG.out.2.below HB.out) hok
     rwa [HN.out] at this
    clear hok hn0
    go_wp2_with fail
    refine HEm.out.mono ?_
    rintro e w2 ⟨rfl,rfl⟩
    go_wp2_with fail
    refine HFl.out.mono ?_
    rintro e w3 ⟨rfl,hb3⟩
    have HB3:Hid (Below w.heap.size w w3):=HB.out.trans (hb3.mono HB.out.size)
    clear hb3
    go_wp2_with fail
    go_roundg (8 - (k+1))
    case measure=>omega
    case rel=>exact ⟨k+1,rfl,by go_num,by omega,Nat.le_refl _,HB3⟩
  ·
   have hkz:¬ (k:Int) < 8:=by omega
   have HSo:Hid (Calls Tryz.prog 139 #[.slice qa 0 qcap,.func (.func 140) #[] #[]] wr fun e w'=>e=.returned (.tuple #[]) ∧ w'=wr):=LW qa qcap _ wr
   go_wp2_with fail
   refine HSo.out.mono ?_
   rintro e w2 ⟨rfl,rfl⟩
   go_wp2_with fail
   go_ret2
   exact HEnd.out qa qcap _ HB.out HQ.out.1 HQ.out.2
theorem OU (ca:Option Addr) (ccap:Nat) (cs:List (List (Int × Int))) (pa:Option Addr) (pcap:Nat) (ps:List Pk) (w:World) (ad:Nat → Addr) (he:AP w ad) (hl:IB w ca cs) (h8:cs.length=8) (hto:Ci cs 8) (hp:CE w pa pcap ps) (ho:Aj ps) (hpos:0 < ps.length) :
  Calls Tryz.prog 114 #[.slice ca cs.length ccap,.slice pa ps.length pcap] w fun e w'=>Dp cs ps ad w e w':=by
 have hn3:=ho.few
 have HC:=(show Hid (Calls Tryz.prog 137 #[.slice pa ps.length pcap] w fun e w'=>∃ v,e=.returned v ∧ DC w' w.heap.size v ps ∧ Below w.heap.size w w') from Ju pa pcap ps w hp.pks (by omega) hp.none_)
 have HE:Hid (AP w ad):=he
 have HTo:Hid (Ci cs 8):=hto
 have H8:Hid (cs.length=8):=h8
 have HO:Hid (Aj ps):=ho
 obtain ⟨b,off,rfl,-,hcc⟩:=hl.place (by omega)
 have HCc:Hid (∀ (i:Nat) ls,cs[i]? = some ls → ∃ a' cap,w.cell? ⟨b,off+i,none⟩=some (.slice a' ls.length cap) ∧ AL w a' ls ∧ ls.length ≤ cap ∧ cap ≤ maxLen ∧ (a'=none → ls=[] ∧ cap=0)):=hcc
 obtain ⟨N,hN⟩:∃ N,ps.length=N:=⟨_,rfl⟩
 have HNN:Hid (ps.length=N):=hN
 rw [h8]
 rw [hN] at HC hpos hn3 ⊢
 clear he hto hl hp ho hcc h8 hN
 go_enter Tryz.func114,Tryz.ntmps114
 go_wp2_with fail
 refine HC.out.mono ?_
 rintro e w1 ⟨v,rfl,hown,hb1⟩
 obtain ⟨g,qcap,rfl,hgB,hg⟩:∃ g cap1,v=.slice (some ⟨g,0,none⟩) ps.length cap1 ∧ w.heap.size ≤ g ∧ g < w1.heap.size:=by
  obtain ⟨g,cap1,hv,hb1,hb2⟩:=World.ownsRow.form hown (by rw [HNN.out];exact hpos)
  exact ⟨g,cap1,hv,hb1,hb2⟩
 have hrow:=U9 hown hg
 obtain ⟨qa',qcap',hqe,hqc,hqm,-,-,-⟩:=hown.open
 injection hqe with hqe1 hqe2 hqe3
 subst hqe3
 rw [HNN.out] at hrow hqc ⊢
 have HQ:Hid (N ≤ qcap ∧ qcap ≤ maxLen):=⟨hqc,hqm⟩
 have HB1:Hid (Below w.heap.size w w1 ∧ w.heap.size ≤ g):=⟨hb1,hgB⟩
 have HRow:Hid (Ew w1 g 0 N (fun i=>ps.getD i ⟨0,0,0⟩) (fun i=>i)):=hrow
 clear hown hqm hqc hb1 HC hrow hqe1 hgB hg
 go_wp2_with fail
 go_loopg [7,16] 8 (fun gk sv iv wr=>∃ (k:Nat) (z:Int) (xs:Nat → Pk),sv=.int .i64 (D9 N z) ∧ iv=.int .i64 (k:Int) ∧ k ≤ 8 ∧ 8 - k ≤ gk ∧ Hid (Dm ps k xs ∧ BA (Af cs) ps k z (Ch N xs)) ∧ Hid (Ew wr g 0 N xs (fun i=>i) ∧ But (fun q=>q=g) w1 wr))
 case atStart=>
  refine ⟨0,-1,fun i=>ps.getD i ⟨0,0,0⟩,rfl,rfl,Nat.zero_le _,Nat.le_refl _,⟨⟨fun i p hi=>?_,fun i p hi _=>?_⟩,MZ _⟩,HRow.out,But.refl _ _⟩
  · simp [List.getD,hi]
  · simp [List.getD,hi]
 case round=>
  clear HRow
  obtain ⟨k,z,xs,rfl,rfl,hk8',hgk,HD,H⟩:=hrel
  have HB:Hid (Below w.heap.size w wr):=HB1.out.1.trans (H.out.2.below HB1.out.1.size fun q hq=>by rw [hq];exact HB1.out.2)
  have hzr:0 ≤ D9 N z ∧ D9 N z ≤ N:=by
   unfold D9
   rcases HD.out.2.range with h | ⟨i,h1,h2⟩
   · rw [if_pos (by omega)];omega
   · rw [if_neg (by omega)];rw [HNN.out] at h2;omega
  by_cases hk8:k < 8
  ·
   have hkz:(k:Int) < 8:=by omega
   obtain ⟨ls,hls,-⟩:=Ai cs k (by rw [H8.out];exact hk8)
   obtain ⟨a',cap,cj0,hlies,hlc,hlm,-⟩:=HCc.out k ls hls
   have cj:=cell_later HB.out cj0
   have HG:Hid (cs[k]? = some ls ∧ AL w a' ls ∧ Af cs k=ls):=⟨hls,hlies,Cf hls⟩
   obtain ⟨n,hn⟩:∃ n,ls.length=n:=⟨_,rfl⟩
   have HN:Hid (ls.length=n):=hn
   rw [hn] at cj
   obtain ⟨S,hS⟩:∃ S,D9 N z=S:=⟨_,rfl⟩
   have HS:Hid (D9 N z=S):=hS
   rw [hS] at hzr ⊢
   clear hls cj0 hlies hlc hlm hn hS
   by_cases hn0:n=0
   ·
    have HEm:Hid (Calls Tryz.prog 118 #[.slice a' n cap] wr fun e w'=>e=.returned (.bool true) ∧ w'=wr):=De a' n cap wr true (by simp;exact hn0)
    have HD':Hid (Dm ps (k+1) xs ∧ BA (Af cs) ps (k+1) z (Ch N xs)):=by
     have h0:Af cs k=[]:=by rw [HG.out.2.2];exact List.length_eq_zero_iff.1 (HN.out.trans hn0)
     have:=HD.out
     rw [← HNN.out] at this ⊢
     exact Vp HO.out h0 this.1 this.2
    clear hn0
    go_wp2_with fail
    refine HEm.out.mono ?_
    rintro e w2 ⟨rfl,rfl⟩
    go_wp2_with fail
    go_roundg (8 - (k+1))
    case measure=>omega
    case rel=>exact ⟨k+1,z,xs,by rw [HS.out],by go_num,by omega,Nat.le_refl _,HD',H⟩
   ·
    have HEm:Hid (Calls Tryz.prog 118 #[.slice a' n cap] wr fun e w'=>e=.returned (.bool false) ∧ w'=wr):=De a' n cap wr false (by simp;omega)
    have hne:Af cs k ≠ []:=fun h=>hn0 (by rw [← HN.out,← HG.out.2.2,h];rfl)
    have hok:Ag ls:=by
     rcases HTo.out k ls hk8 HG.out.1 with h | h
     · exact absurd (by rw [← HN.out,h];rfl) hn0
     · exact h
    have HFl:Hid (Calls Tryz.prog 138 #[.slice a' n cap,.slice (some ⟨g,0,none⟩) N qcap,.int .i64 (k:Int)] wr fun e w'=>Ml g 0 N xs ps k ls wr e w'):=by
     have h1:=HD.out.1.nums HO.out
     have h2:=HD.out.1.own HO.out
     rw [HNN.out] at h1 h2
     have:=OZ a' cap ls g 0 N qcap xs ps k wr ad (HE.out.below HB.out) (HG.out.2.1.below HB.out) hok H.out.1 HNN.out HO.out h1 h2
     rwa [HN.out] at this
    have HOk:Hid (Ag ls ∧ Af cs k ≠ []):=⟨hok,hne⟩
    clear hok hn0 hne
    go_wp2_with fail
    refine HEm.out.mono ?_
    rintro e w2 ⟨rfl,rfl⟩
    go_wp2_with fail
    refine HFl.out.mono ?_
    rintro e w3 ⟨hbt,⟨s,ys,hs,rfl,hry,hy1,hy2⟩ | ⟨r,i,p,s,hr,hw,hs,hst,rfl,hry⟩⟩
    ·
     have HD':Hid (Dm ps (k+1) ys ∧ BA (Af cs) ps (k+1) z (Ch N ys)):=by
      have h1:=HD.out
      have h2:=HOk.out
      have h3:=HG.out.2.2
      rw [← HNN.out] at h1 hs hy1 hy2 ⊢
      rw [← h3] at h2 hs
      exact Sc HO.out h2.1 h2.2 h1.1 h1.2 hs hy1 hy2
     have H':Hid (Ew w3 g 0 N ys (fun i=>i) ∧ But (fun q=>q=g) w1 w3):=⟨hry,H.out.2.trans hbt⟩
     clear hbt hs hry hy1 hy2 HFl
     go_wp2_with fail
     go_roundg (8 - (k+1))
     case measure=>omega
     case rel=>exact ⟨k+1,z,ys,by rw [HS.out,show min S (N:Int)=S by omega],by go_num,by omega,Nat.le_refl _,HD',H'⟩
    ·
     have hiN:i < N:=by
      have:=(Jm.1 (List.mem_of_getElem? hr)).1
      exact this
     have HD':Hid (Dm ps (k+1) xs ∧ BA (Af cs) ps (k+1) (if z < 0 ∨ (i:Int) < z then (i:Int) else z) (Ch N xs)):=by
      have h1:=HD.out
      have h2:=HOk.out
      have h3:=HG.out.2.2
      rw [← HNN.out] at h1 hr hw hs ⊢
      rw [← h3] at hs
      exact R9 HO.out h2.2 h1.1 h1.2 hr hw hs hst
     have H':Hid (Ew w3 g 0 N xs (fun i=>i) ∧ But (fun q=>q=g) w1 w3):=⟨hry,H.out.2.trans hbt⟩
     have HMi:Hid (D9 N (if z < 0 ∨ (i:Int) < z then (i:Int) else z)=min S (i:Int)):=by
      show _=_
      rw [← HS.out]
      unfold D9
      by_cases h1:z < 0
      ·
       have e:(if z < 0 ∨ (i:Int) < z then (i:Int) else z)=(i:Int):=if_pos (.inl h1)
       rw [e,if_neg (by omega),if_pos h1];omega
      ·
       by_cases h2:(i:Int) < z
       ·
        have e:(if z < 0 ∨ (i:Int) < z then (i:Int) else z)=(i:Int):=if_pos (.inr h2)
        rw [e,if_neg (by omega),if_neg h1];omega
       ·
        have e:(if z < 0 ∨ (i:Int) < z then (i:Int) else z)=z:=if_neg (by omega)
        rw [e,if_neg h1];omega
     clear hbt hs hry hr hw hst HFl
     go_wp2_with fail
     go_roundg (8 - (k+1))
     case measure=>omega
     case rel=>exact ⟨k+1,_,xs,by rw [HMi.out],by go_num,by omega,Nat.le_refl _,HD',H'⟩
  ·
   have hkz:¬ (k:Int) < 8:=by omega
   obtain rfl:k=8:=by omega
   by_cases hz0:z < 0
   ·
    have hsN:D9 N z=N:=by unfold D9;rw [if_pos hz0]
    rw [hsN]
    have hlt:¬ (N:Int) < (N:Int):=by omega
    have hfd:∀ f,f < 8 → ∃ out,CY (Af cs) ps f=some out ∧ ∀ (r i:Nat),(A7 ps f ps.length)[r]? = some i → Ch N xs i=Ay out r:=by
     rcases HD.out.2 with ⟨-,h⟩ | ⟨i,h,-⟩
     · exact h
     · omega
    have hnev:∀ i,¬ Be (Af cs) ps i:=fun i hi=>by
     have hil:i < ps.length:=by obtain ⟨p,s,h1,-⟩:=hi;exact Ad h1
     obtain ⟨out,h1,-⟩:=hfd _ (Iq HO.out hil)
     exact K5 HO.out h1 rfl hi
    have HNev:Hid ((∀ i,¬ Be (Af cs) ps i) ∧ Shaped (Af cs) ps (Ch N xs)):=⟨hnev,hfd⟩
    have HSta:Hid (Ab wr g 0 N (FI ps (Ch N xs)) (fun i=>i) wr):=by
     have e:∀ i,i < N → FI ps (Ch N xs) i=xs i:=fun i hi=>by
      have:=Xn HD.out.1.flow (i:=i) (by rw [HNN.out];exact hi)
      rwa [HNN.out] at this
     refine ⟨⟨H.out.1.lt,fun i hi=>?_,fun i hi=>?_,fun i hi=>?_,H.out.1.fz⟩,But.refl _ _⟩
     · rw [e i hi];exact H.out.1.c0 i hi
     · rw [e i hi];exact H.out.1.c1 i hi
     · rw [e i hi];exact H.out.1.c2 i hi
    have HSo:Hid (Calls Tryz.prog 139 #[.slice (some ⟨g,0,none⟩) N qcap,.func (.func 140) #[] #[]] wr fun e w'=>e=.returned (.tuple #[]) ∧ ∃ h,Bg (Aa (FI ps (Ch N xs))) N ((List.range N).map h) ∧ Ab wr g 0 N (FI ps (Ch N xs)) h w'):=OE wr g 0 N qcap _ wr HSta.out (by omega)
    clear hsN hfd hnev hz0 hzr
    go_wp2_with fail
    refine HSo.out.mono ?_
    rintro e w2 ⟨rfl,h,hord,hsta⟩
    have HEnd:Hid (Dp cs ps ad w (.returned (.tuple #[.slice (some ⟨g,0,none⟩) N qcap,.nilIface])) w2):=by
     have hord2:Bg (Ch N xs) N ((List.range N).map h):=hord.turn fun i hi=>by
      show (FI ps (Ch N xs) i).tick=_
      have e:ps[i]? = some (ps[i]'(by rw [HNN.out];exact hi)):=List.getElem?_eq_getElem _
      rw [Ee e]
     have hlie:=WT hsta.row
     have hlen:(BQ ps (Ch N xs) ((List.range N).map h)).length=N:=by simp [BQ]
     refine ⟨HB.out.trans (hsta.but.below HB.out.size fun q hq=>by rw [hq];exact HB1.out.2),.inr ⟨some ⟨g,0,none⟩,qcap,Ch N xs,(List.range N).map h,HNev.out.1,HNev.out.2,by rw [HNN.out];exact hord2,by rw [hlen],⟨hlie,by rw [hlen];exact HQ.out.1,HQ.out.2,fun h=>by cases h⟩⟩⟩
    clear hord hsta HSo HSta
    go_wp2_with fail
    go_ret2
    exact HEnd.out
   ·
    obtain ⟨i,hzi,hni,-,hall⟩:∃ i:Nat,z=i ∧ Be (Af cs) ps i ∧ Ae ps i < 8 ∧ ∀ j,Be (Af cs) ps j → Ae ps j < 8 → i ≤ j:=by
     rcases HD.out.2 with ⟨h,-⟩ | h
     · omega
     · exact h
    have hsi:D9 N z=(i:Int):=by unfold D9;rw [if_neg hz0];exact hzi
    have hiN:i < N:=by obtain ⟨p,s,h1,-⟩:=hni;have:=Ad h1;rw [HNN.out] at this;exact this
    have hilt:(i:Int) < (N:Int):=by omega
    have HNev:Hid (Be (Af cs) ps i ∧ ∀ j,j < i → ¬ Be (Af cs) ps j):=⟨hni,fun j hj hnj=>by
     have hjl:j < ps.length:=by obtain ⟨p,s,h1,-⟩:=hnj;exact Ad h1
     have:=hall j hnj (Iq HO.out hjl)
     omega⟩
    have c3:=(HE.out.below HB.out).c3
    rw [hsi]
    clear hzi hni hall hsi hz0 hzr
    go_wp2_with fail
    go_region
    have HEnd:Hid (Dp cs ps ad w (.returned (.tuple #[.slice none 0 0,.iface 75 (.pointer (some ⟨wr.heap.size,0,none⟩))])) (wr.alloc (.cells #[.int .i64 (i:Int),.iface 312 (.pointer (some (ad 3)))] 79)).drew):=⟨below_drewN (HB.out.alloc HB.out.size _) 1,.inl ⟨i,wr.heap.size,HNev.out.1,HNev.out.2,rfl,by simp,by simp⟩⟩
    go_wp2_with fail
    go_ret2
    exact HEnd.out
theorem P9 (ca:Option Addr) (ccap:Nat) (cs:List (List (Int × Int))) (pa:Option Addr) (pcap:Nat) (ps:List Pk) (w:World) (ad:Nat → Addr) (he:AP w ad) (hl:IB w ca cs) (h8:cs.length=8) (hto:Ci cs 8) (hp:CE w pa pcap ps) (ho:Aj ps) :
  Calls Tryz.prog 114 #[.slice ca cs.length ccap,.slice pa ps.length pcap] w fun e w'=>Dp cs ps ad w e w':=by
 rcases Nat.eq_zero_or_pos ps.length with h0 | h0
 ·
  obtain rfl:ps=[]:=List.length_eq_zero_iff.1 h0
  exact OA ca ccap cs pa pcap w ad he hl h8 hto hp
 · exact OU ca ccap cs pa pcap ps w ad he hl h8 hto hp ho h0
def Hz (w:World) (g:Value) (c p:Int):Prop:=∀ W,Below w.heap.size w W → Calls Tryz.prog 82 #[g] W fun e w'=>∃ E,e=.returned E ∧ AR w' E c p ∧ Below W.heap.size W w'
section
variable (ca:Option Addr) (m ccap:Nat) (kb:ByteArray) (per:Int) (na:Option Addr) (r ncap:Nat) (pa:Option Addr) (n pcap:Nat) (w:World)
theorem Qk (c p:Int) (hc:0 < c) (h:Hz w (.agg #[.slice ca m ccap,.string kb,.int .i64 per,.slice na r ncap]) c p) :
  Calls Tryz.prog 81 #[.agg #[.slice ca m ccap,.string kb,.int .i64 per,.slice na r ncap],.slice pa n pcap] w fun e w'=>Hl c p w e w':=by
 have hb1:Below w.heap.size w (w.alloc (.cells #[.slice ca m ccap,.string kb,.int .i64 per,.slice na r ncap] 70)):=(Below.refl _ _).alloc (Nat.le_refl _) _
 have HC:=(show Hid (Calls Tryz.prog 82 #[.agg #[.slice ca m ccap,.string kb,.int .i64 per,.slice na r ncap]] (w.alloc (.cells #[.slice ca m ccap,.string kb,.int .i64 per,.slice na r ncap] 70)) fun e w'=>∃ E,e=.returned E ∧ AR w' E c p ∧ Below (w.alloc (.cells #[.slice ca m ccap,.string kb,.int .i64 per,.slice na r ncap] 70)).heap.size (w.alloc (.cells #[.slice ca m ccap,.string kb,.int .i64 per,.slice na r ncap] 70)) w') from h _ hb1)
 have HB1:Hid (Below w.heap.size w (w.alloc (.cells #[.slice ca m ccap,.string kb,.int .i64 per,.slice na r ncap] 70))):=hb1
 clear h hb1
 go_enter Tryz.func81,Tryz.ntmps81
 go_wp2_with fail
 refine HC.out.mono ?_
 rintro e w1 ⟨E,rfl,h1,h2⟩
 obtain ⟨ty,v,rfl⟩:=h1.some_ (by omega)
 have H1:Hid (Hl c p w (.returned (.tuple #[.slice none 0 0,.slice none 0 0,.iface ty v])) w1):=⟨none,0,none,0,_,rfl,h1,HB1.out.trans (h2.mono HB1.out.size)⟩
 clear h1 h2 HC
 go_wp2_with fail
 (try simp only [Exit.inBlock,Exit.then])
 refine bodyPost_ret (results_tmp3 rfl _ _ _) rfl ?_
 exact H1.out
theorem Rx (c p:Int) (hc:0 < c) (h:Hz w (.agg #[.slice ca m ccap,.string kb,.int .i64 per,.slice na r ncap]) 0 (-1)) (hp:∀ W,Below w.heap.size w W → Calls Tryz.prog 105 #[.slice pa n pcap] W fun e w'=>∃ E,e=.returned E ∧ AR w' E c p ∧ Below W.heap.size W w') :
  Calls Tryz.prog 81 #[.agg #[.slice ca m ccap,.string kb,.int .i64 per,.slice na r ncap],.slice pa n pcap] w fun e w'=>Hl c p w e w':=by
 have hb1:Below w.heap.size w (w.alloc (.cells #[.slice ca m ccap,.string kb,.int .i64 per,.slice na r ncap] 70)):=(Below.refl _ _).alloc (Nat.le_refl _) _
 have HC:=(show Hid (Calls Tryz.prog 82 #[.agg #[.slice ca m ccap,.string kb,.int .i64 per,.slice na r ncap]] (w.alloc (.cells #[.slice ca m ccap,.string kb,.int .i64 per,.slice na r ncap] 70)) fun e w'=>∃ E,e=.returned E ∧ AR w' E 0 (-1) ∧ Below (w.alloc (.cells #[.slice ca m ccap,.string kb,.int .i64 per,.slice na r ncap] 70)).heap.size (w.alloc (.cells #[.slice ca m ccap,.string kb,.int .i64 per,.slice na r ncap] 70)) w') from h _ hb1)
 have HB1:Hid (Below w.heap.size w (w.alloc (.cells #[.slice ca m ccap,.string kb,.int .i64 per,.slice na r ncap] 70))):=hb1
 have HP:Hid (∀ W,Below w.heap.size w W → Calls Tryz.prog 105 #[.slice pa n pcap] W fun e w'=>∃ E,e=.returned E ∧ AR w' E c p ∧ Below W.heap.size W w'):=hp
 clear h hb1 hp
 go_enter Tryz.func81,Tryz.ntmps81
 go_wp2_with fail
 refine HC.out.mono ?_
 rintro e w1 ⟨E,rfl,h1,h2⟩
 obtain rfl:=h1.none_ rfl
 have HB2:Hid (Below w.heap.size w w1):=HB1.out.trans (h2.mono HB1.out.size)
 clear h1 h2 HC
 go_wp2_with fail
 refine (HP.out _ HB2.out).mono ?_
 rintro e w2 ⟨E,rfl,h1,h2⟩
 obtain ⟨ty,v,rfl⟩:=h1.some_ (by omega)
 have H1:Hid (Hl c p w (.returned (.tuple #[.slice none 0 0,.slice none 0 0,.iface ty v])) w2):=⟨none,0,none,0,_,rfl,h1,HB2.out.trans (h2.mono HB2.out.size)⟩
 clear h1 h2
 go_wp2_with fail
 (try simp only [Exit.inBlock,Exit.then])
 refine bodyPost_ret (results_tmp3 rfl _ _ _) rfl ?_
 exact H1.out
end
theorem Kl (ca:Option Addr) (ccap:Nat) (cs:List (List (Int × Int))) (kb:ByteArray) (per:Int) (na:Option Addr) (ncap:Nat) (ns:List Int) (pa:Option Addr) (pcap:Nat) (ps:List Pk) (w:World) (ad:Nat → Addr) (he:AP w ad) (hg:Dk w ca ccap cs na ncap ns) (hp:CE w pa pcap ps) (hok:FD cs (kindOf kb.toList) per ns) (ho:Aj ps) :
  Calls Tryz.prog 81 #[.agg #[.slice ca cs.length ccap,.string kb,.int .i64 per,.slice na ns.length ncap],.slice pa ps.length pcap] w fun e w'=>
   (∀ i:Nat,Be (Af cs) ps i → (∀ j,j < i → ¬ Be (Af cs) ps j) → Hl 4 i w e w') ∧ ((∀ i,¬ Be (Af cs) ps i) → NI cs (kindOf kb.toList) per ns ps w e w'):=by
 obtain ⟨k,hk⟩:∃ k,kindOf kb.toList=k:=⟨_,rfl⟩
 rw [hk] at hok ⊢
 obtain ⟨m,hm⟩:∃ m,cs.length=m:=⟨_,rfl⟩
 obtain ⟨r,hr⟩:∃ r,ns.length=r:=⟨_,rfl⟩
 obtain ⟨n,hn⟩:∃ n,ps.length=n:=⟨_,rfl⟩
 have HCk:Hid (∀ W,Below w.heap.size w W → Calls Tryz.prog 82 #[.agg #[.slice ca m ccap,.string kb,.int .i64 per,.slice na r ncap]] W fun e w'=>e=.returned .nilIface ∧ Below W.heap.size W w'):=fun W hW=>by
  have hi:DT cs (kindOf kb.toList) per ns 0 (-1):=by
   rw [hk]
   exact .inr (.inr ⟨hok.len,hok.curves,rfl,.inr ⟨hok.kind.1,hok.kind.2,.inr ⟨hok.per.1,hok.per.2,0,hok.nums,rfl⟩⟩⟩)
  have:=DK ca ccap cs kb per na ncap ns W ad 0 (-1) (he.below hW) (hg.below hW) hi
  rw [hm,hr] at this
  refine this.mono ?_
  rintro e w' ⟨E,rfl,h1,h2⟩
  rw [h1.none_ rfl]
  exact ⟨rfl,h2⟩
 have HPc:Hid (∀ W,Below w.heap.size w W → Calls Tryz.prog 105 #[.slice pa n pcap] W fun e w'=>e=.returned .nilIface ∧ Below W.heap.size W w'):=fun W hW=>by
  have:=He pa pcap ps W (hp.pks.below hW) ho
  rwa [hn] at this
 have HSa:Hid (∀ W,Below w.heap.size w W → Calls Tryz.prog 114 #[.slice ca m ccap,.slice pa n pcap] W fun e w'=>Dp cs ps ad W e w'):=fun W hW=>by
  have:=P9 ca ccap cs pa pcap ps W ad (he.below hW) (hg.curves.below hW) hok.len hok.curves (hp.below hW) ho
  rwa [hm,hn] at this
 obtain ⟨b,hb⟩:∃ b,decide (k ≠ 0)=b:=⟨_,rfl⟩
 have HSe:Hid (∀ W,Calls Tryz.prog 115 #[] W fun e w'=>JW kb k b W e w'):=fun W=>ML kb k hk b hb W
 have hb1:Below w.heap.size w (w.alloc (.cells #[.slice ca m ccap,.string kb,.int .i64 per,.slice na r ncap] 70)):=(Below.refl _ _).alloc (Nat.le_refl _) _
 have hga:=F5 w (.slice ca m ccap) kb per (.slice na r ncap) 70
 have HG:Hid (El (w.alloc (.cells #[.slice ca m ccap,.string kb,.int .i64 per,.slice na r ncap] 70)) w.heap.size (.slice ca m ccap) kb per (.slice na r ncap)):=hga
 have HB1:Hid (Below w.heap.size w (w.alloc (.cells #[.slice ca m ccap,.string kb,.int .i64 per,.slice na r ncap] 70))):=hb1
 have HE:Hid (AP w ad):=he
 have HN:Hid (AV w na ns):=hg.nums
 have HK:Hid (FD cs k per ns ∧ Aj ps ∧ ns.length=r):=⟨hok,ho,hr⟩
 have HCo:Hid (Cv (Af cs)):=fun f hf=>by
  obtain ⟨ls,hls,-⟩:=Ai cs f (by rw [hok.len];exact hf)
  rw [Cf hls]
  exact hok.curves f ls hf hls
 rw [hm,hr,hn]
 clear he hg hp hok ho hk hm hr hn hb hb1 hga
 go_enter Tryz.func81,Tryz.ntmps81
 go_wp2_with fail
 refine (HCk.out _ HB1.out).mono ?_
 rintro e w1 ⟨rfl,h1⟩
 have HB2:Hid (Below w.heap.size w w1):=HB1.out.trans (h1.mono HB1.out.size)
 have HG1:Hid (El w1 w.heap.size (.slice ca m ccap) kb per (.slice na r ncap)):=HG.out.later h1
 clear h1
 go_wp2_with fail
 refine (HPc.out _ HB2.out).mono ?_
 rintro e w2 ⟨rfl,h2⟩
 have HB3:Hid (Below w.heap.size w w2):=HB2.out.trans (h2.mono HB2.out.size)
 have HG2:Hid (El w2 w.heap.size (.slice ca m ccap) kb per (.slice na r ncap)):=HG1.out.later h2
 have g0:=HG2.out.c0
 clear h2
 go_wp2_with fail
 refine (HSa.out _ HB3.out).mono ?_
 rintro e w3 ⟨hb3,⟨i,F,hni,hall,rfl,hF0,hF1⟩ | ⟨qa,qcap,at_,L,hnev,hsh,hord,rfl,hpl⟩⟩
 ·
  have HB4:Hid (Below w.heap.size w w3):=HB3.out.trans (hb3.mono HB3.out.size)
  have HEnd:Hid (Hl 4 i w (.returned (.tuple #[.slice none 0 0,.slice none 0 0,.iface 75 (.pointer (some ⟨F,0,none⟩))])) w3):=by
   refine ⟨none,0,none,0,_,rfl,⟨?_,fun h=>absurd h (by decide),fun _=>⟨_,_,rfl⟩⟩,HB4.out⟩
   have:=FN (HE.out.below HB4.out) 3 (by omega) (i:Int) F hF0 hF1
   simpa using this
  have HNi:Hid (Be (Af cs) ps i ∧ ∀ j,j < i → ¬ Be (Af cs) ps j):=⟨hni,hall⟩
  clear hb3 hni hall hF0 hF1 g0
  go_wp2_with fail
  (try simp only [Exit.inBlock,Exit.then])
  refine bodyPost_ret (results_tmp3 rfl _ _ _) rfl ?_
  refine ⟨fun i' h1 h2=>?_,fun h=>absurd HNi.out.1 (h i)⟩
  obtain rfl:i'=i:=by
   rcases Nat.lt_trichotomy i' i with h | h | h
   · exact absurd h1 (HNi.out.2 i' h)
   · exact h
   · exact absurd HNi.out.1 (h2 i h)
  exact HEnd.out
 ·
  have HB4:Hid (Below w.heap.size w w3):=HB3.out.trans (hb3.mono HB3.out.size)
  have HG3:Hid (El w3 w.heap.size (.slice ca m ccap) kb per (.slice na r ncap)):=HG2.out.later hb3
  have HQ:Hid ((∀ i,¬ Be (Af cs) ps i) ∧ Shaped (Af cs) ps at_ ∧ Bg at_ ps.length L):=⟨hnev,hsh,hord⟩
  have HQo:Hid (Aj (BQ ps at_ L)):=hsh.ok HK.out.2.1 HCo.out hord
  have HPl:Hid (CE w3 qa qcap (BQ ps at_ L)):=hpl
  obtain ⟨q,hq⟩:∃ q,(BQ ps at_ L).length=q:=⟨_,rfl⟩
  have HQn:Hid ((BQ ps at_ L).length=q):=hq
  rw [hq]
  have g1:=HG3.out.c1
  have g2:=HG3.out.c2
  have g3:=HG3.out.c3
  have HSb:Hid (∀ W,Below w3.heap.size w3 W → W.cell? ⟨w.heap.size,1,none⟩=some (.string kb) ∧ W.cell? ⟨w.heap.size,2,none⟩=some (.int .i64 per) ∧ W.cell? ⟨w.heap.size,3,none⟩=some (.slice na r ncap)):=fun W hW=>⟨cell_later hW HG3.out.c1,cell_later hW HG3.out.c2,cell_later hW HG3.out.c3⟩
  have HD:Hid (Below w3.heap.size w3 w3.drew):=below_drewN (Below.refl _ _) 1
  have HSend:Hid (∀ F bd W,Below w3.heap.size w3 W → Mx W k F bd → Calls Tryz.prog F (#[.slice qa q qcap,.int .i64 per,.slice na r ncap] ++ bd) W fun e w'=>Fh k per ns (BQ ps at_ L) 0 W e w'):=fun F bd W hW hby=>by
   have hbw:=HB4.out.trans (hW.mono HB4.out.size)
   have:=hby.send qa qcap (BQ ps at_ L) per na ncap ns W ad 0 (Below.refl _ _) (HE.out.below hbw) (HPl.out.below hW) (HN.out.below hbw) HQo.out (.inr ⟨HK.out.1.per.1,HK.out.1.per.2,0,HK.out.1.nums,rfl⟩)
   rwa [HQn.out,HK.out.2.2] at this
  clear hb3 hnev hsh hord hpl hq g0
  go_wp2_with fail
  go_region_held3 (fun w'=>w'.cell? ⟨w.heap.size,1,none⟩=some (.string kb) ∧ w'.cell? ⟨w.heap.size,2,none⟩=some (.int .i64 per) ∧ w'.cell? ⟨w.heap.size,3,none⟩=some (.slice na r ncap))
   (first | exact hS | exact HSb.out _ HD.out)
   (first
   | (go_at_call 115;refine (HSe.out _).mono ?_;rintro e w4 ⟨M,fv,rfl,hb4,hlk1,hlk,hfv⟩;have HB5:Hid (Below w3.heap.size w3 w4):=(by exact HD.out.trans (hb4.mono HD.out.size));have hS:=HSb.out w4 HB5.out;obtain ⟨F,bd,rfl,hby⟩:=hfv HK.out.1.kind.1;have hcF:=hby.call;have HBy:Hid (Mx w4 k F bd):=hby;clear hb4 hlk1 hby)
   | (refine (HSend.out F bd w4 HB5.out HBy.out).mono ?_;rintro e w5 ⟨la,nl,lcap,E,rfl,hE,hb5,hl5⟩;have hS:=HSb.out w5 (HB5.out.trans (hb5.mono HB5.out.size));have HX:Hid (AR w5 E 0 (-1) ∧ Below w4.heap.size w4 w5 ∧ ∃ l,nl=l.length ∧ GL w5 la lcap l ∧ CZ k per (BQ ps at_ L) ns l):=⟨hE,hb5,hl5 rfl⟩;clear hE hb5 hl5))
  all_goals
   obtain ⟨hE,hb5,l,hln,hsl,hls⟩:=HX.out
   obtain rfl:=hE.none_ rfl
   have HEnd:Hid (NI cs k per ns ps w (.returned (.tuple #[.slice qa q qcap,.slice la nl lcap,.nilIface])) w5):=by
    have hb35:=HB5.out.trans (hb5.mono HB5.out.size)
    refine ⟨qa,qcap,la,lcap,BQ ps at_ L,l,by rw [HQn.out,hln],HPl.out.below hb35,hsl,⟨at_,L,HQ.out.2.1,HQ.out.2.2,rfl,hls⟩,HB4.out.trans (hb35.mono HB4.out.size)⟩
   clear hE hb5 hln hsl hls HX hS g1 g2 g3
   go_wp2_with fail
   (try simp only [Exit.inBlock,Exit.then])
   refine bodyPost_ret (results_tmp3 rfl _ _ _) rfl ?_
   exact ⟨fun i h _=>absurd h (HQ.out.1 i),fun _=>HEnd.out⟩
theorem Jo:Xb where
 check:=DK
 bad:=fun ca ccap cs kb per na ncap ns pa pcap ps w ad c p he hg hp h hc=>by
  rcases h with ⟨h,-⟩ | ⟨hok,h,-⟩ | ⟨hok,ho,i,hn,hall,rfl,rfl⟩ | ⟨-,-,-,rfl,-⟩
  · exact Qk ca _ ccap kb per na _ ncap pa _ pcap w c p hc fun W hW=>DK ca ccap cs kb per na ncap ns W ad c p (he.below hW) (hg.below hW) h
  ·
   refine Rx ca _ ccap kb per na _ ncap pa _ pcap w c p hc (fun W hW=>DK ca ccap cs kb per na ncap ns W ad 0 (-1) (he.below hW) (hg.below hW) ?_) (fun W hW=>K7 pa pcap ps W ad (he.below hW) (hp.pks.below hW) hp.cap hp.max c p h)
   exact .inr (.inr ⟨hok.len,hok.curves,rfl,.inr ⟨hok.kind.1,hok.kind.2,.inr ⟨hok.per.1,hok.per.2,0,hok.nums,rfl⟩⟩⟩)
  · exact (Kl ca ccap cs kb per na ncap ns pa pcap ps w ad he hg hp hok ho).mono fun _ _ h=>h.1 i hn hall
  · omega
 good:=fun ca ccap cs kb per na ncap ns pa pcap ps w ad he hg hp hok ho hn=>(Kl ca ccap cs kb per na ncap ns pa pcap ps w ad he hg hp hok ho).mono fun _ _ h=>h.2 hn
def SA (w:World) (b:Nat) (v0 v1 v2 v3:Value):World:=(((w.setCell ⟨b,0,none⟩ v0).setCell ⟨b,1,none⟩ v1).setCell ⟨b,2,none⟩ v2).setCell ⟨b,3,none⟩ v3
section
variable {w:World} {b:Nat} {v0 v1 v2 v3:Value}
theorem Y3:But (fun k=>k=b) w (SA w b v0 v1 v2 v3):=
 But.setCell (p:=⟨b,3,none⟩) (But.setCell (p:=⟨b,2,none⟩) (But.setCell (p:=⟨b,1,none⟩) (But.setCell (p:=⟨b,0,none⟩) (But.refl (fun k=>k=b) w) rfl _) rfl _) rfl _) rfl _
theorem RO (i:Nat):(SA w b v0 v1 v2 v3).frozen? ⟨b,i,none⟩=w.frozen? ⟨b,i,none⟩:=by
 unfold SA
 rw [World.frozen?_setCell,World.frozen?_setCell,World.frozen?_setCell,World.frozen?_setCell]
theorem Uh {u0 u1 u2 u3 u4:Value} (h0:w.cell? ⟨b,0,none⟩=some u0) (h1:w.cell? ⟨b,1,none⟩=some u1) (h2:w.cell? ⟨b,2,none⟩=some u2) (h3:w.cell? ⟨b,3,none⟩=some u3) (h4:w.cell? ⟨b,4,none⟩=some u4) (i:Nat) (hi:i < 5) :
  (SA w b v0 v1 v2 v3).cell? ⟨b,i,none⟩=(#[v0,v1,v2,v3,u4]:Array Value)[i]?:=by
 have e:∀ (W:World) (j k:Nat) (v:Value),j ≠ k → (W.setCell ⟨b,j,none⟩ v).cell? ⟨b,k,none⟩=W.cell? ⟨b,k,none⟩:=fun W j k v h=>World.cell?_setCell_other _ _ _ _ (by intro e';cases e';exact h rfl)
 unfold SA
 match i,hi with
 | 0,_=>
  rw [e _ 3 0 _ (by decide),e _ 2 0 _ (by decide),e _ 1 0 _ (by decide)]
  exact World.cell?_setCell_same' _ _ _ (by rw [h0];rfl)
 | 1,_=>
  rw [e _ 3 1 _ (by decide),e _ 2 1 _ (by decide)]
  exact World.cell?_setCell_same' _ _ _ (by rw [e _ 0 1 _ (by decide),h1];rfl)
 | 2,_=>
  rw [e _ 3 2 _ (by decide)]
  exact World.cell?_setCell_same' _ _ _ (by rw [e _ 1 2 _ (by decide),e _ 0 2 _ (by decide),h2];rfl)
 | 3,_=>exact World.cell?_setCell_same' _ _ _ (by rw [e _ 2 3 _ (by decide),e _ 1 3 _ (by decide),e _ 0 3 _ (by decide),h3];rfl)
 | 4,_=>
  rw [e _ 3 4 _ (by decide),e _ 2 4 _ (by decide),e _ 1 4 _ (by decide),e _ 0 4 _ (by decide),h4]
  rfl
end
theorem Jk {s:Scr} (h:Bo s) {ns:List Int} (hn:ns.length ≤ 30):ay s.cs ns:=by
 refine ⟨by rw [h.gate.len];decide,hn,fun i ls hi=>?_⟩
 rcases h.gate.curves i ls (by have:=Ad hi;rw [h.gate.len] at this;exact this) hi with rfl | hk
 · simp
 · have:=hk.2.1;omega
section
variable (w0:World) (ad:Nat → Addr) (N g cb:Nat) (hS:Site w0 ad N g cb) (s:Scr) (w:World) (hw:Below w0.heap.size w0 w) (hp:Aw w N g cb s) (ho:Bo s)
theorem Pn (w0:World) (ad:Nat → Addr) (N g cb:Nat) (hS:Site w0 ad N g cb) (s:Scr) (w:World) (hw:Below w0.heap.size w0 w) (hp:Aw w N g cb s) (ho:Bo s) (kb:List UInt8) (per:Int) (na:Option Addr) (ncap:Nat) (ns:List Int) (hn:AV w na ns) (h1:ns.length ≤ ncap) (h2:ncap ≤ maxLen) (h3:na=none → ns=[] ∧ ncap=0) (hfar:∀ ad,na=some ad → N ≤ ad.block ∧ ad.block < w.heap.size ∧ ∀ na1 nc1 pv,BP w N g cb na1 nc1 pv s → pv.ownBlock ≠ some ad.block) (h30:ns.length ≤ 30)
  (c p:Int) (hc:DT s.cs (kindOf kb) per ns c p) :
  Calls Tryz.prog 102 #[.pointer (some ⟨g,0,none⟩),.agg #[.slice (some ⟨cb,0,none⟩) 8 8,Ah kb,.int .i64 per,.slice na ns.length ncap]] w fun e w'=>Bh N g cb s { s with kb:=kb,per:=per,ns:=ns } c w e w':=by
 have he:=hS.env.below hw
 obtain ⟨na1,nc1,pv,hpi⟩:=hp
 have hb1:Below w.heap.size w (w.alloc (.cells #[.slice (some ⟨cb,0,none⟩) 8 8,Ah kb,.int .i64 per,.slice na ns.length ncap] 70)):=(Below.refl _ _).alloc (Nat.le_refl _) _
 have hga:=F5 w (.slice (some ⟨cb,0,none⟩) 8 8) ⟨kb.toArray⟩ per (.slice na ns.length ncap) 70
 obtain ⟨V,hV⟩:∃ V,w.alloc (.cells #[.slice (some ⟨cb,0,none⟩) 8 8,Ah kb,.int .i64 per,.slice na ns.length ncap] 70)=V:=⟨_,rfl⟩
 rw [hV] at hb1 hga
 have HCh:Hid (Calls Tryz.prog 82 #[.agg #[.slice (some ⟨cb,0,none⟩) 8 8,Ah kb,.int .i64 per,.slice na ns.length ncap]] V fun e w'=>∃ E,e=.returned E ∧ AR w' E c p ∧ Below V.heap.size V w'):=by
  have hg:=hpi.gate ho.gate.len (Jk ho (ns:=s.ns) (by rcases ho.gate.nums.len with h | h;rw [h.2];decide;omega))
  have hg':Dk V (some ⟨cb,0,none⟩) 8 s.cs na ncap ns:=⟨hg.curves.below hb1,hg.cfit,hg.cmax,hn.below hb1,h1,h2,h3,Jk ho h30⟩
  have:=Jo.check (some ⟨cb,0,none⟩) 8 s.cs ⟨kb.toArray⟩ per na ncap ns V ad c p (he.below hb1).errs hg' (by rw [ByteArray.toList_mk];exact hc)
  rw [ho.gate.len] at this
  exact this
 have HEnd:Hid (∀ W,Below V.heap.size V W → El W w.heap.size (.slice (some ⟨cb,0,none⟩) 8 8) ⟨kb.toArray⟩ per (.slice na ns.length ncap) ∧ (∀ i,i < 4 → ∃ u,W.cell? ⟨g,i,none⟩=some u) ∧ (∀ i,W.frozen? ⟨g,i,none⟩=false) ∧ (c=0 → Bh N g cb s { s with kb:=kb,per:=per,ns:=ns } c w (.returned .nilIface) (SA W g (.slice (some ⟨cb,0,none⟩) 8 8) (Ah kb) (.int .i64 per) (.slice na ns.length ncap)))):=fun W hW=>by
  have hbW:=hb1.trans (hW.mono hb1.size)
  have hpW:=hpi.below hbW
  refine ⟨hga.later hW,fun i hi=>?_,hpW.fg,fun h0=>?_⟩
  ·
   match i,hi with
   | 0,_=>exact ⟨_,hpW.c0⟩
   | 1,_=>exact ⟨_,hpW.c1⟩
   | 2,_=>exact ⟨_,hpW.c2⟩
   | 3,_=>exact ⟨_,hpW.c3⟩
  ·
   obtain ⟨k1,k2⟩:=hpW.setGate kb per (hn.below hbW) h1 h2 h3 (fun a e=>⟨(hfar a e).1,Nat.lt_of_lt_of_le (hfar a e).2.1 hbW.size,(hfar a e).2.2 _ _ _ hpi⟩) (Y3 (w:=W) (b:=g) (v0:=.slice (some ⟨cb,0,none⟩) 8 8) (v1:=Ah kb) (v2:=.int .i64 per) (v3:=.slice na ns.length ncap)) (Uh hpW.c0 hpW.c1 hpW.c2 hpW.c3 hpW.c4) (fun i=>by rw [RO];exact hpW.fg i)
   subst h0
   exact ⟨.nilIface,-1,rfl,CG _,(But.ofBelow hbW).trans k2,.inl ⟨rfl,na,ncap,pv,k1⟩⟩
 have HEr:Hid (∀ W E,Below V.heap.size V W → AR W E c p → c ≠ 0 → Bh N g cb s { s with kb:=kb,per:=per,ns:=ns } c w (.returned E) W):=fun W E hW hE h0=>Ei ⟨na1,nc1,pv,hpi⟩ (hb1.trans (hW.mono hb1.size)) hE h0
 obtain ⟨r,hr⟩:∃ r,ns.length=r:=⟨_,rfl⟩
 rw [hr] at HCh HEnd hV ⊢
 obtain ⟨y0,y1,y2,y3⟩:=(HEnd.out V (Below.refl _ _)).1
 clear hn h1 h2 h3 hfar h30 hc he hpi hb1 hga hr hw ho hS
 go_enter Tryz.func102,Tryz.ntmps102
 go_wp2_with fail
 refine HCh.out.mono ?_
 rintro e w1 ⟨E,rfl,hE,hb2⟩
 clear y0 y1 y2 y3
 by_cases hc0:c=0
 ·
  obtain rfl:=hE.none_ hc0
  obtain ⟨⟨z0,z1,z2,z3⟩,hu,hf,hend⟩:=HEnd.out w1 hb2
  obtain ⟨u0,x0⟩:=hu 0 (by decide)
  obtain ⟨u1,x1⟩:=hu 1 (by decide)
  obtain ⟨u2,x2⟩:=hu 2 (by decide)
  obtain ⟨u3,x3⟩:=hu 3 (by decide)
  have f0:=hf 0
  have f1:=hf 1
  have f2:=hf 2
  have f3:=hf 3
  have HE:=(show Hid (Bh N g cb s { s with kb:=kb,per:=per,ns:=ns } c w (.returned .nilIface) (SA w1 g (.slice (some ⟨cb,0,none⟩) 8 8) (Ah kb) (.int .i64 per) (.slice na r ncap))) from hend hc0)
  unfold SA at HE
  clear hE hb2 hu hf hend hc0 HEnd hV HCh HEr
  go_wp2_with fail
  go_ret
  exact HE.out
 ·
  have HE:=(show Hid (Bh N g cb s { s with kb:=kb,per:=per,ns:=ns } c w (.returned E) w1) from HEr.out w1 E hb2 hE hc0)
  obtain ⟨ty,v,rfl⟩:=hE.some_ hc0
  clear hE hb2 hc0 HEnd HCh HEr
  go_wp2_with fail
  go_ret
  exact HE.out
theorem VT {w W:World} {N g cb:Nat} {s:Scr} (hp:Aw w N g cb s) (hb:Below w.heap.size w W) {b:Nat} (hb1:w.heap.size ≤ b):N ≤ b ∧ ∀ na1 nc1 pv,BP W N g cb na1 nc1 pv s → pv.ownBlock ≠ some b:=by
 obtain ⟨na,nc,pv,h⟩:=hp
 refine ⟨Nat.le_trans h.wN hb1,fun na1 nc1 pv1 h1 e=>?_⟩
 have:pv=pv1:=Option.some.inj ((cell_later hb h.c4).symm.trans h1.c4)
 subst this
 have:=(AX h.pks e).2
 omega
theorem OP (w0:World) (ad:Nat → Addr) (N g cb:Nat) (hS:Site w0 ad N g cb) (s:Scr) (w:World) (hw:Below w0.heap.size w0 w) (hp:Aw w N g cb s) (ho:Bo s) (wb:Nat) (ws:List (List UInt8)) (hl:Bp w (some ⟨wb,0,none⟩) ws) (hs:DU ws) (c:Int) (s1:Scr) (hc:Jg s ws c s1) :
  Calls Tryz.prog 75 #[.pointer (some ⟨g,0,none⟩),.slice (some ⟨wb,0,none⟩) ws.length ws.length] w fun e w'=>Bh N g cb s s1 c w e w':=by
 have he:=hS.env.below hw
 have HRn:Hid (Calls Tryz.prog 103 #[.slice (some ⟨wb,0,none⟩) ws.length ws.length] w fun e w'=>GX (ad 0) (Du ws) w e w'):=F4 _ _ ws w (ad 0) he.errs.c0 hl hs
 have HEt:Hid (∀ W,Below w.heap.size w W → c=1 → Bh N g cb s s1 c w (.returned (.iface 312 (.pointer (some (ad 0))))) W):=fun W hW h1=>by
  subst h1
  exact Ei hp hW (AY (he.below hW).errs 0 (by decide)) (by decide)
 obtain ⟨n,hn⟩:∃ n,ws.length=n:=⟨_,rfl⟩
 have HC:Hid (Jg s ws c s1 ∧ ws.length=n):=⟨hc,hn⟩
 have c0:=he.errs.c0
 have HS:Hid (Site w0 ad N g cb ∧ Below w0.heap.size w0 w ∧ Aw w N g cb s ∧ Bo s):=⟨hS,hw,hp,ho⟩
 rw [hn] at HRn ⊢
 clear hl hs hn he hc hS hw hp ho
 by_cases h8:n=8
 ·
  subst h8
  go_enter Tryz.func75,Tryz.ntmps75
  go_wp2_with fail
  refine HRn.out.mono ?_
  rintro e w1 ⟨hb1,⟨hns,rfl⟩ | ⟨ns,G,hns,rfl,hG,hGl,hln⟩⟩
  ·
   have HE:Hid (Bh N g cb s s1 c w (.returned (.iface 312 (.pointer (some (ad 0))))) w1):=by
    refine HEt.out w1 hb1 ?_
    obtain ⟨h,-⟩ | ⟨-,⟨-,h,-⟩ | ⟨ns,p,h,-⟩⟩:=HC.out.1
    · exact absurd HC.out.2 h
    · exact h
    · rw [hns] at h;cases h
   clear hns hb1
   go_wp2_with fail
   go_ret
   exact HE.out
  ·
   obtain ⟨p,hs1,hgi⟩:∃ p,s1={ s with ns:=ns } ∧ DT s.cs (kindOf s.kb) s.per ns c p:=by
    obtain ⟨h,-⟩ | ⟨-,⟨h,-⟩ | ⟨ns',p,h,e1,e2⟩⟩:=HC.out.1
    · exact absurd HC.out.2 h
    · rw [hns] at h;cases h
    ·
     rw [hns] at h
     obtain rfl:=Option.some.inj h
     exact ⟨p,e1,e2⟩
   have hl8:ns.length=8:=by rw [DI hns,HC.out.2]
   obtain ⟨na1,nc1,pv,hpi⟩:=HS.out.2.2.1
   have hp1:=hpi.below hb1
   have y0:=hp1.c0
   have y1:=hp1.c1
   have y2:=hp1.c2
   have y3:=hp1.c3
   have HCh:Hid (∀ W,Below w1.heap.size w1 W → Calls Tryz.prog 102 #[.pointer (some ⟨g,0,none⟩),.agg #[.slice (some ⟨cb,0,none⟩) 8 8,Ah s.kb,.int .i64 s.per,.slice (some ⟨G,0,none⟩) 8 8]] W fun e w'=>∃ E,e=.returned E ∧ Bh N g cb s s1 c w (.returned E) w'):=fun W hW=>by
    have hbW:=hb1.trans (hW.mono hb1.size)
    have hf:=VT HS.out.2.2.1 hbW (b:=G) hG
    have:=Pn w0 ad N g cb HS.out.1 s W (HS.out.2.1.trans (hbW.mono HS.out.2.1.size)) (HS.out.2.2.1.below hbW) HS.out.2.2.2 s.kb s.per (some ⟨G,0,none⟩) 8 ns (hln.below hW) (by omega) (by simp [maxLen]) (fun e=>by cases e) (fun a e=>by cases e;exact ⟨hf.1,Nat.lt_of_lt_of_le hGl hW.size,hf.2⟩) (by omega) c p hgi
    rw [hl8] at this
    refine this.mono ?_
    rintro e w' ⟨E,q,rfl,hE,hbt,hend⟩
    refine ⟨E,rfl,E,q,rfl,hE,(But.ofBelow hbW).trans hbt,?_⟩
    rw [hs1]
    exact hend
   rw [hl8]
   obtain ⟨kb,hkb⟩:∃ kb,s.kb=kb:=⟨_,rfl⟩
   obtain ⟨per,hper⟩:∃ per,s.per=per:=⟨_,rfl⟩
   obtain ⟨r,hr⟩:∃ r,s.ns.length=r:=⟨_,rfl⟩
   rw [hkb] at y1 HCh
   rw [hper] at y2 HCh
   rw [hr] at y3
   clear hns hb1 hG hGl hln hs1 hgi hl8 hpi hp1 hkb hper hr
   go_wp2_with fail
   refine (HCh.out _ ?_).mono ?_
   · exact (Below.refl _ _).alloc (Nat.le_refl _) _
   rintro e w2 ⟨E,rfl,hE⟩
   have HE:Hid (Bh N g cb s s1 c w (.returned E) w2):=hE
   clear hE
   go_wp2_with fail
   go_ret
   exact HE.out
 ·
  have h8':((n:Int) == 8)=false:=by simp;omega
  have HE:Hid (Bh N g cb s s1 c w (.returned (.iface 312 (.pointer (some (ad 0))))) w):=by
   refine HEt.out w (Below.refl _ _) ?_
   obtain ⟨-,h,-⟩ | ⟨h,-⟩:=HC.out.1
   · exact h
   · exact absurd (HC.out.2.symm.trans h) h8
  clear h8
  go_enter Tryz.func75,Tryz.ntmps75
  go_wp2_with fail
  go_ret
  exact HE.out
end
end Go.Proofs.YtipdclphpkgceaaGreatDoor
