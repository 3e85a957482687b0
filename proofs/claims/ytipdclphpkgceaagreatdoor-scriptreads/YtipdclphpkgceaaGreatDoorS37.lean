/- Own facts, put together: no statement of its own. -/
import Derived.Test.YtipdclphpkgceaaGreatDoorS36
import Derived.OwnWalk
import Derived.Test.YtipdclphpkgceaaGreatDoorS35
set_option maxHeartbeats 4000000
set_option maxRecDepth 100000

namespace Go.Proofs.YtipdclphpkgceaaGreatDoor
open Go.RowKit
theorem shapeAll_none (ca:Option Addr) (ccap:Nat) (cs:List (List (Int × Int))) (pa:Option Addr) (pcap:Nat) (w:World) (ad:Nat → Addr) (he:Errs9 w ad) (hl:LiesC w ca cs) (h8:cs.length=8) (hto:CurvesTo cs 8) (hp:PksLie w pa pcap []) :
  Calls Tryz.prog 114 #[.slice ca cs.length ccap,.slice pa 0 pcap] w fun e w'=>ShapeAllEnd cs [] ad w e w':=by
 have HC:=(show Hid (Calls Tryz.prog 137 #[.slice pa 0 pcap] w fun e w'=>∃ v,e=.returned v ∧ OwnP w' w.heap.size v [] ∧ Below w.heap.size w w') from clonePkts_any pa pcap [] w hp.pks (by simp) hp.none_)
 have HE:Hid (Errs9 w ad):=he
 have HTo:Hid (CurvesTo cs 8):=hto
 have H8:Hid (cs.length=8):=h8
 obtain ⟨b,off,rfl,-,hcc⟩:=hl.place (by omega)
 have HCc:Hid (∀ (i:Nat) ls,cs[i]? = some ls → ∃ a' cap,w.cell? ⟨b,off+i,none⟩=some (.slice a' ls.length cap) ∧ Lies w a' ls ∧ ls.length ≤ cap ∧ cap ≤ maxLen ∧ (a'=none → ls=[] ∧ cap=0)):=hcc
 have HEnd:Hid (∀ (qa:Option Addr) (qcap:Nat) (W:World),Below w.heap.size w W → qcap ≤ maxLen → (qa=none → qcap=0) → ShapeAllEnd cs [] ad w (.returned (.tuple #[.slice qa 0 qcap,.nilIface])) W):=fun qa qcap W hb h1 h2=>by
  have hn:∀ i,¬ NeverAt (curveFl cs) [] i:=fun i h=>by obtain ⟨p,s,h1,-⟩:=h;simp at h1
  obtain ⟨at_,hs⟩:=shaped_is (cs:=curveFl cs) okPks_none hn
  exact ⟨hb,.inr ⟨qa,qcap,at_,[],hn,hs,IsOrder.start at_,rfl,.inl rfl,Nat.zero_le _,h1,fun h=>⟨rfl,h2 h⟩⟩⟩
 rw [h8]
 clear he hto hl hp hcc h8
 go_enter Tryz.func114,Tryz.ntmps114
 go_wp2_with fail
 refine HC.out.mono ?_
 rintro e w1 ⟨v,rfl,hown,hb1⟩
 obtain ⟨qa,qcap,rfl,-,hqm,-,-,hqn⟩:=hown.open
 have HQ:Hid (qcap ≤ maxLen ∧ (qa=none → qcap=0)):=⟨hqm,fun h=>(hqn h).2⟩
 have HB1:Hid (Below w.heap.size w w1):=hb1
 simp only [List.length_nil] at *
 clear hown hqm hqn hb1 HC
 go_wp2_with fail
 go_loopg [7,16] 8 (fun gk sv iv wr=>∃ k:Nat,sv=.int .i64 0 ∧ iv=.int .i64 (k:Int) ∧ k ≤ 8 ∧ 8 - k ≤ gk ∧ Hid (Below w.heap.size w wr))
 case atStart=>exact ⟨0,rfl,rfl,Nat.zero_le _,Nat.le_refl _,HB1⟩
 case round=>
  clear HB1
  obtain ⟨k,rfl,rfl,hk8',hgk,HB⟩:=hrel
  by_cases hk8:k < 8
  ·
   have hkz:(k:Int) < 8:=by omega
   obtain ⟨ls,hls,-⟩:=get_some cs k (by rw [H8.out];exact hk8)
   obtain ⟨a',cap,cj0,hlies,hlc,hlm,-⟩:=HCc.out k ls hls
   have cj:=cell_later HB.out cj0
   have HG:Hid (cs[k]? = some ls ∧ Lies w a' ls):=⟨hls,hlies⟩
   obtain ⟨n,hn⟩:∃ n,ls.length=n:=⟨_,rfl⟩
   have HN:Hid (ls.length=n):=hn
   rw [hn] at cj
   clear hls cj0 hlies hlc hlm hn
   by_cases hn0:n=0
   ·
    have HEm:Hid (Calls Tryz.prog 118 #[.slice a' n cap] wr fun e w'=>e=.returned (.bool true) ∧ w'=wr):=isEmpty_any a' n cap wr true (by simp;exact hn0)
    clear hn0
    go_wp2_with fail
    refine HEm.out.mono ?_
    rintro e w2 ⟨rfl,rfl⟩
    go_wp2_with fail
    go_roundg (8 - (k+1))
    case measure=>omega
    case rel=>exact ⟨k+1,rfl,by go_num,by omega,Nat.le_refl _,HB⟩
   ·
    have HEm:Hid (Calls Tryz.prog 118 #[.slice a' n cap] wr fun e w'=>e=.returned (.bool false) ∧ w'=wr):=isEmpty_any a' n cap wr false (by simp;omega)
    have hok:okCurve ls:=by
     rcases HTo.out k ls hk8 HG.out.1 with h | h
     · exact absurd (by rw [← HN.out,h];rfl) hn0
     · exact h
    have HFl:Hid (Calls Tryz.prog 138 #[.slice a' n cap,.slice qa 0 qcap,.int .i64 (k:Int)] wr fun e w'=>e=.returned (.int .i64 0) ∧ Below wr.heap.size wr w'):=by
     have:=shapeFlow_none a' cap ls qa qcap (k:Int) wr ad (HE.out.below HB.out) (HG.out.2.below HB.out) hok
     rwa [HN.out] at this
    clear hok hn0
    go_wp2_with fail
    refine HEm.out.mono ?_
    rintro e w2 ⟨rfl,rfl⟩
    go_wp2_with fail
    refine HFl.out.mono ?_
    rintro e w3 ⟨rfl,hb3⟩
    have HB3:Hid (Below w.heap.size w w3):=HB.out.trans (hb3.mono HB.out.size)
    clear hb3
    go_wp2_with fail
    go_roundg (8 - (k+1))
    case measure=>omega
    case rel=>exact ⟨k+1,rfl,by go_num,by omega,Nat.le_refl _,HB3⟩
  ·
   have hkz:¬ (k:Int) < 8:=by omega
   have HSo:Hid (Calls Tryz.prog 139 #[.slice qa 0 qcap,.func (.func 140) #[] #[]] wr fun e w'=>e=.returned (.tuple #[]) ∧ w'=wr):=sortStable_none qa qcap _ wr
   go_wp2_with fail
   refine HSo.out.mono ?_
   rintro e w2 ⟨rfl,rfl⟩
   go_wp2_with fail
   go_ret2
   exact HEnd.out qa qcap _ HB.out HQ.out.1 HQ.out.2
theorem shapeAll_some (ca:Option Addr) (ccap:Nat) (cs:List (List (Int × Int))) (pa:Option Addr) (pcap:Nat) (ps:List Pk) (w:World) (ad:Nat → Addr) (he:Errs9 w ad) (hl:LiesC w ca cs) (h8:cs.length=8) (hto:CurvesTo cs 8) (hp:PksLie w pa pcap ps) (ho:OkPks ps) (hpos:0 < ps.length) :
  Calls Tryz.prog 114 #[.slice ca cs.length ccap,.slice pa ps.length pcap] w fun e w'=>ShapeAllEnd cs ps ad w e w':=by
 have hn3:=ho.few
 have HC:=(show Hid (Calls Tryz.prog 137 #[.slice pa ps.length pcap] w fun e w'=>∃ v,e=.returned v ∧ OwnP w' w.heap.size v ps ∧ Below w.heap.size w w') from clonePkts_any pa pcap ps w hp.pks (by omega) hp.none_)
 have HE:Hid (Errs9 w ad):=he
 have HTo:Hid (CurvesTo cs 8):=hto
 have H8:Hid (cs.length=8):=h8
 have HO:Hid (OkPks ps):=ho
 obtain ⟨b,off,rfl,-,hcc⟩:=hl.place (by omega)
 have HCc:Hid (∀ (i:Nat) ls,cs[i]? = some ls → ∃ a' cap,w.cell? ⟨b,off+i,none⟩=some (.slice a' ls.length cap) ∧ Lies w a' ls ∧ ls.length ≤ cap ∧ cap ≤ maxLen ∧ (a'=none → ls=[] ∧ cap=0)):=hcc
 obtain ⟨N,hN⟩:∃ N,ps.length=N:=⟨_,rfl⟩
 have HNN:Hid (ps.length=N):=hN
 rw [h8]
 rw [hN] at HC hpos hn3 ⊢
 clear he hto hl hp ho hcc h8 hN
 go_enter Tryz.func114,Tryz.ntmps114
 go_wp2_with fail
 refine HC.out.mono ?_
 rintro e w1 ⟨v,rfl,hown,hb1⟩
 obtain ⟨g,qcap,rfl,hgB,hg⟩:∃ g cap1,v=.slice (some ⟨g,0,none⟩) ps.length cap1 ∧ w.heap.size ≤ g ∧ g < w1.heap.size:=by
  obtain ⟨g,cap1,hv,hb1,hb2⟩:=World.ownsRow.form hown (by rw [HNN.out];exact hpos)
  exact ⟨g,cap1,hv,hb1,hb2⟩
 have hrow:=row_of_own hown hg
 obtain ⟨qa',qcap',hqe,hqc,hqm,-,-,-⟩:=hown.open
 injection hqe with hqe1 hqe2 hqe3
 subst hqe3
 rw [HNN.out] at hrow hqc ⊢
 have HQ:Hid (N ≤ qcap ∧ qcap ≤ maxLen):=⟨hqc,hqm⟩
 have HB1:Hid (Below w.heap.size w w1 ∧ w.heap.size ≤ g):=⟨hb1,hgB⟩
 have HRow:Hid (RowP w1 g 0 N (fun i=>ps.getD i ⟨0,0,0⟩) (fun i=>i)):=hrow
 clear hown hqm hqc hb1 HC hrow hqe1 hgB hg
 go_wp2_with fail
 go_loopg [7,16] 8 (fun gk sv iv wr=>∃ (k:Nat) (z:Int) (xs:Nat → Pk),sv=.int .i64 (stuckAt N z) ∧ iv=.int .i64 (k:Int) ∧ k ≤ 8 ∧ 8 - k ≤ gk ∧ Hid (FlowsAt ps k xs ∧ FlowsDone (curveFl cs) ps k z (tickAt N xs)) ∧ Hid (RowP wr g 0 N xs (fun i=>i) ∧ But (fun q=>q=g) w1 wr))
 case atStart=>
  refine ⟨0,-1,fun i=>ps.getD i ⟨0,0,0⟩,rfl,rfl,Nat.zero_le _,Nat.le_refl _,⟨⟨fun i p hi=>?_,fun i p hi _=>?_⟩,flowsDone_none _⟩,HRow.out,But.refl _ _⟩
  · simp [List.getD,hi]
  · simp [List.getD,hi]
 case round=>
  clear HRow
  obtain ⟨k,z,xs,rfl,rfl,hk8',hgk,HD,H⟩:=hrel
  have HB:Hid (Below w.heap.size w wr):=HB1.out.1.trans (H.out.2.below HB1.out.1.size fun q hq=>by rw [hq];exact HB1.out.2)
  have hzr:0 ≤ stuckAt N z ∧ stuckAt N z ≤ N:=by
   unfold stuckAt
   rcases HD.out.2.range with h | ⟨i,h1,h2⟩
   · rw [if_pos (by omega)];omega
   · rw [if_neg (by omega)];rw [HNN.out] at h2;omega
  by_cases hk8:k < 8
  ·
   have hkz:(k:Int) < 8:=by omega
   obtain ⟨ls,hls,-⟩:=get_some cs k (by rw [H8.out];exact hk8)
   obtain ⟨a',cap,cj0,hlies,hlc,hlm,-⟩:=HCc.out k ls hls
   have cj:=cell_later HB.out cj0
   have HG:Hid (cs[k]? = some ls ∧ Lies w a' ls ∧ curveFl cs k=ls):=⟨hls,hlies,curveFl_get hls⟩
   obtain ⟨n,hn⟩:∃ n,ls.length=n:=⟨_,rfl⟩
   have HN:Hid (ls.length=n):=hn
   rw [hn] at cj
   obtain ⟨S,hS⟩:∃ S,stuckAt N z=S:=⟨_,rfl⟩
   have HS:Hid (stuckAt N z=S):=hS
   rw [hS] at hzr ⊢
   clear hls cj0 hlies hlc hlm hn hS
   by_cases hn0:n=0
   ·
    have HEm:Hid (Calls Tryz.prog 118 #[.slice a' n cap] wr fun e w'=>e=.returned (.bool true) ∧ w'=wr):=isEmpty_any a' n cap wr true (by simp;exact hn0)
    have HD':Hid (FlowsAt ps (k+1) xs ∧ FlowsDone (curveFl cs) ps (k+1) z (tickAt N xs)):=by
     have h0:curveFl cs k=[]:=by rw [HG.out.2.2];exact List.length_eq_zero_iff.1 (HN.out.trans hn0)
     have:=HD.out
     rw [← HNN.out] at this ⊢
     exact flows_skip HO.out h0 this.1 this.2
    clear hn0
    go_wp2_with fail
    refine HEm.out.mono ?_
    rintro e w2 ⟨rfl,rfl⟩
    go_wp2_with fail
    go_roundg (8 - (k+1))
    case measure=>omega
    case rel=>exact ⟨k+1,z,xs,by rw [HS.out],by go_num,by omega,Nat.le_refl _,HD',H⟩
   ·
    have HEm:Hid (Calls Tryz.prog 118 #[.slice a' n cap] wr fun e w'=>e=.returned (.bool false) ∧ w'=wr):=isEmpty_any a' n cap wr false (by simp;omega)
    have hne:curveFl cs k ≠ []:=fun h=>hn0 (by rw [← HN.out,← HG.out.2.2,h];rfl)
    have hok:okCurve ls:=by
     rcases HTo.out k ls hk8 HG.out.1 with h | h
     · exact absurd (by rw [← HN.out,h];rfl) hn0
     · exact h
    have HFl:Hid (Calls Tryz.prog 138 #[.slice a' n cap,.slice (some ⟨g,0,none⟩) N qcap,.int .i64 (k:Int)] wr fun e w'=>FlowEnd g 0 N xs ps k ls wr e w'):=by
     have h1:=HD.out.1.nums HO.out
     have h2:=HD.out.1.own HO.out
     rw [HNN.out] at h1 h2
     have:=shapeFlow_any a' cap ls g 0 N qcap xs ps k wr ad (HE.out.below HB.out) (HG.out.2.1.below HB.out) hok H.out.1 HNN.out HO.out h1 h2
     rwa [HN.out] at this
    have HOk:Hid (okCurve ls ∧ curveFl cs k ≠ []):=⟨hok,hne⟩
    clear hok hn0 hne
    go_wp2_with fail
    refine HEm.out.mono ?_
    rintro e w2 ⟨rfl,rfl⟩
    go_wp2_with fail
    refine HFl.out.mono ?_
    rintro e w3 ⟨hbt,⟨s,ys,hs,rfl,hry,hy1,hy2⟩ | ⟨r,i,p,s,hr,hw,hs,hst,rfl,hry⟩⟩
    ·
     have HD':Hid (FlowsAt ps (k+1) ys ∧ FlowsDone (curveFl cs) ps (k+1) z (tickAt N ys)):=by
      have h1:=HD.out
      have h2:=HOk.out
      have h3:=HG.out.2.2
      rw [← HNN.out] at h1 hs hy1 hy2 ⊢
      rw [← h3] at h2 hs
      exact flows_shape HO.out h2.1 h2.2 h1.1 h1.2 hs hy1 hy2
     have H':Hid (RowP w3 g 0 N ys (fun i=>i) ∧ But (fun q=>q=g) w1 w3):=⟨hry,H.out.2.trans hbt⟩
     clear hbt hs hry hy1 hy2 HFl
     go_wp2_with fail
     go_roundg (8 - (k+1))
     case measure=>omega
     case rel=>exact ⟨k+1,z,ys,by rw [HS.out,show min S (N:Int)=S by omega],by go_num,by omega,Nat.le_refl _,HD',H'⟩
    ·
     have hiN:i < N:=by
      have:=(num_mem.1 (List.mem_of_getElem? hr)).1
      exact this
     have HD':Hid (FlowsAt ps (k+1) xs ∧ FlowsDone (curveFl cs) ps (k+1) (if z < 0 ∨ (i:Int) < z then (i:Int) else z) (tickAt N xs)):=by
      have h1:=HD.out
      have h2:=HOk.out
      have h3:=HG.out.2.2
      rw [← HNN.out] at h1 hr hw hs ⊢
      rw [← h3] at hs
      exact flows_stuck HO.out h2.2 h1.1 h1.2 hr hw hs hst
     have H':Hid (RowP w3 g 0 N xs (fun i=>i) ∧ But (fun q=>q=g) w1 w3):=⟨hry,H.out.2.trans hbt⟩
     have HMi:Hid (stuckAt N (if z < 0 ∨ (i:Int) < z then (i:Int) else z)=min S (i:Int)):=by
      show _=_
      rw [← HS.out]
      unfold stuckAt
      by_cases h1:z < 0
      ·
       have e:(if z < 0 ∨ (i:Int) < z then (i:Int) else z)=(i:Int):=if_pos (.inl h1)
       rw [e,if_neg (by omega),if_pos h1];omega
      ·
       by_cases h2:(i:Int) < z
       ·
        have e:(if z < 0 ∨ (i:Int) < z then (i:Int) else z)=(i:Int):=if_pos (.inr h2)
        rw [e,if_neg (by omega),if_neg h1];omega
       ·
        have e:(if z < 0 ∨ (i:Int) < z then (i:Int) else z)=z:=if_neg (by omega)
        rw [e,if_neg h1];omega
     clear hbt hs hry hr hw hst HFl
     go_wp2_with fail
     go_roundg (8 - (k+1))
     case measure=>omega
     case rel=>exact ⟨k+1,_,xs,by rw [HMi.out],by go_num,by omega,Nat.le_refl _,HD',H'⟩
  ·
   have hkz:¬ (k:Int) < 8:=by omega
   obtain rfl:k=8:=by omega
   by_cases hz0:z < 0
   ·
    have hsN:stuckAt N z=N:=by unfold stuckAt;rw [if_pos hz0]
    rw [hsN]
    have hlt:¬ (N:Int) < (N:Int):=by omega
    have hfd:∀ f,f < 8 → ∃ out,shapedFl (curveFl cs) ps f=some out ∧ ∀ (r i:Nat),(numTo ps f ps.length)[r]? = some i → tickAt N xs i=tickOf out r:=by
     rcases HD.out.2 with ⟨-,h⟩ | ⟨i,h,-⟩
     · exact h
     · omega
    have hnev:∀ i,¬ NeverAt (curveFl cs) ps i:=fun i hi=>by
     have hil:i < ps.length:=by obtain ⟨p,s,h1,-⟩:=hi;exact lt_of_get h1
     obtain ⟨out,h1,-⟩:=hfd _ (flow_range HO.out hil)
     exact never_not HO.out h1 rfl hi
    have HNev:Hid ((∀ i,¬ NeverAt (curveFl cs) ps i) ∧ Shaped (curveFl cs) ps (tickAt N xs)):=⟨hnev,hfd⟩
    have HSta:Hid (StaAt wr g 0 N (gatePk ps (tickAt N xs)) (fun i=>i) wr):=by
     have e:∀ i,i < N → gatePk ps (tickAt N xs) i=xs i:=fun i hi=>by
      have:=gatePk_at HD.out.1.flow (i:=i) (by rw [HNN.out];exact hi)
      rwa [HNN.out] at this
     refine ⟨⟨H.out.1.lt,fun i hi=>?_,fun i hi=>?_,fun i hi=>?_,H.out.1.fz⟩,But.refl _ _⟩
     · rw [e i hi];exact H.out.1.c0 i hi
     · rw [e i hi];exact H.out.1.c1 i hi
     · rw [e i hi];exact H.out.1.c2 i hi
    have HSo:Hid (Calls Tryz.prog 139 #[.slice (some ⟨g,0,none⟩) N qcap,.func (.func 140) #[] #[]] wr fun e w'=>e=.returned (.tuple #[]) ∧ ∃ h,IsOrder (tickBy (gatePk ps (tickAt N xs))) N ((List.range N).map h) ∧ StaAt wr g 0 N (gatePk ps (tickAt N xs)) h w'):=sortStable_ok wr g 0 N qcap _ wr HSta.out (by omega)
    clear hsN hfd hnev hz0 hzr
    go_wp2_with fail
    refine HSo.out.mono ?_
    rintro e w2 ⟨rfl,h,hord,hsta⟩
    have HEnd:Hid (ShapeAllEnd cs ps ad w (.returned (.tuple #[.slice (some ⟨g,0,none⟩) N qcap,.nilIface])) w2):=by
     have hord2:IsOrder (tickAt N xs) N ((List.range N).map h):=hord.turn fun i hi=>by
      show (gatePk ps (tickAt N xs) i).tick=_
      have e:ps[i]? = some (ps[i]'(by rw [HNN.out];exact hi)):=List.getElem?_eq_getElem _
      rw [gatePk_get e]
     have hlie:=liesP_row hsta.row
     have hlen:(gatePks ps (tickAt N xs) ((List.range N).map h)).length=N:=by simp [gatePks]
     refine ⟨HB.out.trans (hsta.but.below HB.out.size fun q hq=>by rw [hq];exact HB1.out.2),.inr ⟨some ⟨g,0,none⟩,qcap,tickAt N xs,(List.range N).map h,HNev.out.1,HNev.out.2,by rw [HNN.out];exact hord2,by rw [hlen],⟨hlie,by rw [hlen];exact HQ.out.1,HQ.out.2,fun h=>by cases h⟩⟩⟩
    clear hord hsta HSo HSta
    go_wp2_with fail
    go_ret2
    exact HEnd.out
   ·
    obtain ⟨i,hzi,hni,-,hall⟩:∃ i:Nat,z=i ∧ NeverAt (curveFl cs) ps i ∧ flowOf ps i < 8 ∧ ∀ j,NeverAt (curveFl cs) ps j → flowOf ps j < 8 → i ≤ j:=by
     rcases HD.out.2 with ⟨h,-⟩ | h
     · omega
     · exact h
    have hsi:stuckAt N z=(i:Int):=by unfold stuckAt;rw [if_neg hz0];exact hzi
    have hiN:i < N:=by obtain ⟨p,s,h1,-⟩:=hni;have:=lt_of_get h1;rw [HNN.out] at this;exact this
    have hilt:(i:Int) < (N:Int):=by omega
    have HNev:Hid (NeverAt (curveFl cs) ps i ∧ ∀ j,j < i → ¬ NeverAt (curveFl cs) ps j):=⟨hni,fun j hj hnj=>by
     have hjl:j < ps.length:=by obtain ⟨p,s,h1,-⟩:=hnj;exact lt_of_get h1
     have:=hall j hnj (flow_range HO.out hjl)
     omega⟩
    have c3:=(HE.out.below HB.out).c3
    rw [hsi]
    clear hzi hni hall hsi hz0 hzr
    go_wp2_with fail
    go_region
    have HEnd:Hid (ShapeAllEnd cs ps ad w (.returned (.tuple #[.slice none 0 0,.iface 75 (.pointer (some ⟨wr.heap.size,0,none⟩))])) (wr.alloc (.cells #[.int .i64 (i:Int),.iface 312 (.pointer (some (ad 3)))] 79)).drew):=⟨below_drewN (HB.out.alloc HB.out.size _) 1,.inl ⟨i,wr.heap.size,HNev.out.1,HNev.out.2,rfl,by simp,by simp⟩⟩
    go_wp2_with fail
    go_ret2
    exact HEnd.out
theorem shapeAll_any (ca:Option Addr) (ccap:Nat) (cs:List (List (Int × Int))) (pa:Option Addr) (pcap:Nat) (ps:List Pk) (w:World) (ad:Nat → Addr) (he:Errs9 w ad) (hl:LiesC w ca cs) (h8:cs.length=8) (hto:CurvesTo cs 8) (hp:PksLie w pa pcap ps) (ho:OkPks ps) :
  Calls Tryz.prog 114 #[.slice ca cs.length ccap,.slice pa ps.length pcap] w fun e w'=>ShapeAllEnd cs ps ad w e w':=by
 rcases Nat.eq_zero_or_pos ps.length with h0 | h0
 ·
  obtain rfl:ps=[]:=List.length_eq_zero_iff.1 h0
  exact shapeAll_none ca ccap cs pa pcap w ad he hl h8 hto hp
 · exact shapeAll_some ca ccap cs pa pcap ps w ad he hl h8 hto hp ho h0
def CheckTells (w:World) (g:Value) (c p:Int):Prop:=∀ W,Below w.heap.size w W → Calls Tryz.prog 82 #[g] W fun e w'=>∃ E,e=.returned E ∧ ErrIs w' E c p ∧ Below W.heap.size W w'
section
variable (ca:Option Addr) (m ccap:Nat) (kb:ByteArray) (per:Int) (na:Option Addr) (r ncap:Nat) (pa:Option Addr) (n pcap:Nat) (w:World)
theorem gateRun_gate (c p:Int) (hc:0 < c) (h:CheckTells w (.agg #[.slice ca m ccap,.string kb,.int .i64 per,.slice na r ncap]) c p) :
  Calls Tryz.prog 81 #[.agg #[.slice ca m ccap,.string kb,.int .i64 per,.slice na r ncap],.slice pa n pcap] w fun e w'=>GateBad c p w e w':=by
 have hb1:Below w.heap.size w (w.alloc (.cells #[.slice ca m ccap,.string kb,.int .i64 per,.slice na r ncap] 70)):=(Below.refl _ _).alloc (Nat.le_refl _) _
 have HC:=(show Hid (Calls Tryz.prog 82 #[.agg #[.slice ca m ccap,.string kb,.int .i64 per,.slice na r ncap]] (w.alloc (.cells #[.slice ca m ccap,.string kb,.int .i64 per,.slice na r ncap] 70)) fun e w'=>∃ E,e=.returned E ∧ ErrIs w' E c p ∧ Below (w.alloc (.cells #[.slice ca m ccap,.string kb,.int .i64 per,.slice na r ncap] 70)).heap.size (w.alloc (.cells #[.slice ca m ccap,.string kb,.int .i64 per,.slice na r ncap] 70)) w') from h _ hb1)
 have HB1:Hid (Below w.heap.size w (w.alloc (.cells #[.slice ca m ccap,.string kb,.int .i64 per,.slice na r ncap] 70))):=hb1
 clear h hb1
 go_enter Tryz.func81,Tryz.ntmps81
 go_wp2_with fail
 refine HC.out.mono ?_
 rintro e w1 ⟨E,rfl,h1,h2⟩
 obtain ⟨ty,v,rfl⟩:=h1.some_ (by omega)
 have H1:Hid (GateBad c p w (.returned (.tuple #[.slice none 0 0,.slice none 0 0,.iface ty v])) w1):=⟨none,0,none,0,_,rfl,h1,HB1.out.trans (h2.mono HB1.out.size)⟩
 clear h1 h2 HC
 go_wp2_with fail
 (try simp only [Exit.inBlock,Exit.then])
 refine bodyPost_ret (results_tmp3 rfl _ _ _) rfl ?_
 exact H1.out
theorem gateRun_pks (c p:Int) (hc:0 < c) (h:CheckTells w (.agg #[.slice ca m ccap,.string kb,.int .i64 per,.slice na r ncap]) 0 (-1)) (hp:∀ W,Below w.heap.size w W → Calls Tryz.prog 105 #[.slice pa n pcap] W fun e w'=>∃ E,e=.returned E ∧ ErrIs w' E c p ∧ Below W.heap.size W w') :
  Calls Tryz.prog 81 #[.agg #[.slice ca m ccap,.string kb,.int .i64 per,.slice na r ncap],.slice pa n pcap] w fun e w'=>GateBad c p w e w':=by
 have hb1:Below w.heap.size w (w.alloc (.cells #[.slice ca m ccap,.string kb,.int .i64 per,.slice na r ncap] 70)):=(Below.refl _ _).alloc (Nat.le_refl _) _
 have HC:=(show Hid (Calls Tryz.prog 82 #[.agg #[.slice ca m ccap,.string kb,.int .i64 per,.slice na r ncap]] (w.alloc (.cells #[.slice ca m ccap,.string kb,.int .i64 per,.slice na r ncap] 70)) fun e w'=>∃ E,e=.returned E ∧ ErrIs w' E 0 (-1) ∧ Below (w.alloc (.cells #[.slice ca m ccap,.string kb,.int .i64 per,.slice na r ncap] 70)).heap.size (w.alloc (.cells #[.slice ca m ccap,.string kb,.int .i64 per,.slice na r ncap] 70)) w') from h _ hb1)
 have HB1:Hid (Below w.heap.size w (w.alloc (.cells #[.slice ca m ccap,.string kb,.int .i64 per,.slice na r ncap] 70))):=hb1
 have HP:Hid (∀ W,Below w.heap.size w W → Calls Tryz.prog 105 #[.slice pa n pcap] W fun e w'=>∃ E,e=.returned E ∧ ErrIs w' E c p ∧ Below W.heap.size W w'):=hp
 clear h hb1 hp
 go_enter Tryz.func81,Tryz.ntmps81
 go_wp2_with fail
 refine HC.out.mono ?_
 rintro e w1 ⟨E,rfl,h1,h2⟩
 obtain rfl:=h1.none_ rfl
 have HB2:Hid (Below w.heap.size w w1):=HB1.out.trans (h2.mono HB1.out.size)
 clear h1 h2 HC
 go_wp2_with fail
 refine (HP.out _ HB2.out).mono ?_
 rintro e w2 ⟨E,rfl,h1,h2⟩
 obtain ⟨ty,v,rfl⟩:=h1.some_ (by omega)
 have H1:Hid (GateBad c p w (.returned (.tuple #[.slice none 0 0,.slice none 0 0,.iface ty v])) w2):=⟨none,0,none,0,_,rfl,h1,HB2.out.trans (h2.mono HB2.out.size)⟩
 clear h1 h2
 go_wp2_with fail
 (try simp only [Exit.inBlock,Exit.then])
 refine bodyPost_ret (results_tmp3 rfl _ _ _) rfl ?_
 exact H1.out
end
theorem gateRun_main (ca:Option Addr) (ccap:Nat) (cs:List (List (Int × Int))) (kb:ByteArray) (per:Int) (na:Option Addr) (ncap:Nat) (ns:List Int) (pa:Option Addr) (pcap:Nat) (ps:List Pk) (w:World) (ad:Nat → Addr) (he:Errs9 w ad) (hg:GateLies w ca ccap cs na ncap ns) (hp:PksLie w pa pcap ps) (hok:GateOk cs (kindOf kb.toList) per ns) (ho:OkPks ps) :
  Calls Tryz.prog 81 #[.agg #[.slice ca cs.length ccap,.string kb,.int .i64 per,.slice na ns.length ncap],.slice pa ps.length pcap] w fun e w'=>
   (∀ i:Nat,NeverAt (curveFl cs) ps i → (∀ j,j < i → ¬ NeverAt (curveFl cs) ps j) → GateBad 4 i w e w') ∧ ((∀ i,¬ NeverAt (curveFl cs) ps i) → GateGood cs (kindOf kb.toList) per ns ps w e w'):=by
 obtain ⟨k,hk⟩:∃ k,kindOf kb.toList=k:=⟨_,rfl⟩
 rw [hk] at hok ⊢
 obtain ⟨m,hm⟩:∃ m,cs.length=m:=⟨_,rfl⟩
 obtain ⟨r,hr⟩:∃ r,ns.length=r:=⟨_,rfl⟩
 obtain ⟨n,hn⟩:∃ n,ps.length=n:=⟨_,rfl⟩
 have HCk:Hid (∀ W,Below w.heap.size w W → Calls Tryz.prog 82 #[.agg #[.slice ca m ccap,.string kb,.int .i64 per,.slice na r ncap]] W fun e w'=>e=.returned .nilIface ∧ Below W.heap.size W w'):=fun W hW=>by
  have hi:GateIs cs (kindOf kb.toList) per ns 0 (-1):=by
   rw [hk]
   exact .inr (.inr ⟨hok.len,hok.curves,rfl,.inr ⟨hok.kind.1,hok.kind.2,.inr ⟨hok.per.1,hok.per.2,0,hok.nums,rfl⟩⟩⟩)
  have:=gateCheck_is ca ccap cs kb per na ncap ns W ad 0 (-1) (he.below hW) (hg.below hW) hi
  rw [hm,hr] at this
  refine this.mono ?_
  rintro e w' ⟨E,rfl,h1,h2⟩
  rw [h1.none_ rfl]
  exact ⟨rfl,h2⟩
 have HPc:Hid (∀ W,Below w.heap.size w W → Calls Tryz.prog 105 #[.slice pa n pcap] W fun e w'=>e=.returned .nilIface ∧ Below W.heap.size W w'):=fun W hW=>by
  have:=pcheck_ok pa pcap ps W (hp.pks.below hW) ho
  rwa [hn] at this
 have HSa:Hid (∀ W,Below w.heap.size w W → Calls Tryz.prog 114 #[.slice ca m ccap,.slice pa n pcap] W fun e w'=>ShapeAllEnd cs ps ad W e w'):=fun W hW=>by
  have:=shapeAll_any ca ccap cs pa pcap ps W ad (he.below hW) (hg.curves.below hW) hok.len hok.curves (hp.below hW) ho
  rwa [hm,hn] at this
 obtain ⟨b,hb⟩:∃ b,decide (k ≠ 0)=b:=⟨_,rfl⟩
 have HSe:Hid (∀ W,Calls Tryz.prog 115 #[] W fun e w'=>SendersEnd kb k b W e w'):=fun W=>senders_is kb k hk b hb W
 have hb1:Below w.heap.size w (w.alloc (.cells #[.slice ca m ccap,.string kb,.int .i64 per,.slice na r ncap] 70)):=(Below.refl _ _).alloc (Nat.le_refl _) _
 have hga:=gateAt_new w (.slice ca m ccap) kb per (.slice na r ncap) 70
 have HG:Hid (GateAt (w.alloc (.cells #[.slice ca m ccap,.string kb,.int .i64 per,.slice na r ncap] 70)) w.heap.size (.slice ca m ccap) kb per (.slice na r ncap)):=hga
 have HB1:Hid (Below w.heap.size w (w.alloc (.cells #[.slice ca m ccap,.string kb,.int .i64 per,.slice na r ncap] 70))):=hb1
 have HE:Hid (Errs9 w ad):=he
 have HN:Hid (LiesN w na ns):=hg.nums
 have HK:Hid (GateOk cs k per ns ∧ OkPks ps ∧ ns.length=r):=⟨hok,ho,hr⟩
 have HCo:Hid (CurvesOk (curveFl cs)):=fun f hf=>by
  obtain ⟨ls,hls,-⟩:=get_some cs f (by rw [hok.len];exact hf)
  rw [curveFl_get hls]
  exact hok.curves f ls hf hls
 rw [hm,hr,hn]
 clear he hg hp hok ho hk hm hr hn hb hb1 hga
 go_enter Tryz.func81,Tryz.ntmps81
 go_wp2_with fail
 refine (HCk.out _ HB1.out).mono ?_
 rintro e w1 ⟨rfl,h1⟩
 have HB2:Hid (Below w.heap.size w w1):=HB1.out.trans (h1.mono HB1.out.size)
 have HG1:Hid (GateAt w1 w.heap.size (.slice ca m ccap) kb per (.slice na r ncap)):=HG.out.later h1
 clear h1
 go_wp2_with fail
 refine (HPc.out _ HB2.out).mono ?_
 rintro e w2 ⟨rfl,h2⟩
 have HB3:Hid (Below w.heap.size w w2):=HB2.out.trans (h2.mono HB2.out.size)
 have HG2:Hid (GateAt w2 w.heap.size (.slice ca m ccap) kb per (.slice na r ncap)):=HG1.out.later h2
 have g0:=HG2.out.c0
 clear h2
 go_wp2_with fail
 refine (HSa.out _ HB3.out).mono ?_
 rintro e w3 ⟨hb3,⟨i,F,hni,hall,rfl,hF0,hF1⟩ | ⟨qa,qcap,at_,L,hnev,hsh,hord,rfl,hpl⟩⟩
 ·
  have HB4:Hid (Below w.heap.size w w3):=HB3.out.trans (hb3.mono HB3.out.size)
  have HEnd:Hid (GateBad 4 i w (.returned (.tuple #[.slice none 0 0,.slice none 0 0,.iface 75 (.pointer (some ⟨F,0,none⟩))])) w3):=by
   refine ⟨none,0,none,0,_,rfl,⟨?_,fun h=>absurd h (by decide),fun _=>⟨_,_,rfl⟩⟩,HB4.out⟩
   have:=codeIs_fault (HE.out.below HB4.out) 3 (by omega) (i:Int) F hF0 hF1
   simpa using this
  have HNi:Hid (NeverAt (curveFl cs) ps i ∧ ∀ j,j < i → ¬ NeverAt (curveFl cs) ps j):=⟨hni,hall⟩
  clear hb3 hni hall hF0 hF1 g0
  go_wp2_with fail
  (try simp only [Exit.inBlock,Exit.then])
  refine bodyPost_ret (results_tmp3 rfl _ _ _) rfl ?_
  refine ⟨fun i' h1 h2=>?_,fun h=>absurd HNi.out.1 (h i)⟩
  obtain rfl:i'=i:=by
   rcases Nat.lt_trichotomy i' i with h | h | h
   · exact absurd h1 (HNi.out.2 i' h)
   · exact h
   · exact absurd HNi.out.1 (h2 i h)
  exact HEnd.out
 ·
  have HB4:Hid (Below w.heap.size w w3):=HB3.out.trans (hb3.mono HB3.out.size)
  have HG3:Hid (GateAt w3 w.heap.size (.slice ca m ccap) kb per (.slice na r ncap)):=HG2.out.later hb3
  have HQ:Hid ((∀ i,¬ NeverAt (curveFl cs) ps i) ∧ Shaped (curveFl cs) ps at_ ∧ IsOrder at_ ps.length L):=⟨hnev,hsh,hord⟩
  have HQo:Hid (OkPks (gatePks ps at_ L)):=hsh.ok HK.out.2.1 HCo.out hord
  have HPl:Hid (PksLie w3 qa qcap (gatePks ps at_ L)):=hpl
  obtain ⟨q,hq⟩:∃ q,(gatePks ps at_ L).length=q:=⟨_,rfl⟩
  have HQn:Hid ((gatePks ps at_ L).length=q):=hq
  rw [hq]
  have g1:=HG3.out.c1
  have g2:=HG3.out.c2
  have g3:=HG3.out.c3
  have HSb:Hid (∀ W,Below w3.heap.size w3 W → W.cell? ⟨w.heap.size,1,none⟩=some (.string kb) ∧ W.cell? ⟨w.heap.size,2,none⟩=some (.int .i64 per) ∧ W.cell? ⟨w.heap.size,3,none⟩=some (.slice na r ncap)):=fun W hW=>⟨cell_later hW HG3.out.c1,cell_later hW HG3.out.c2,cell_later hW HG3.out.c3⟩
  have HD:Hid (Below w3.heap.size w3 w3.drew):=below_drewN (Below.refl _ _) 1
  have HSend:Hid (∀ F bd W,Below w3.heap.size w3 W → SendBy W k F bd → Calls Tryz.prog F (#[.slice qa q qcap,.int .i64 per,.slice na r ncap] ++ bd) W fun e w'=>SendEnd k per ns (gatePks ps at_ L) 0 W e w'):=fun F bd W hW hby=>by
   have hbw:=HB4.out.trans (hW.mono HB4.out.size)
   have:=hby.send qa qcap (gatePks ps at_ L) per na ncap ns W ad 0 (Below.refl _ _) (HE.out.below hbw) (HPl.out.below hW) (HN.out.below hbw) HQo.out (.inr ⟨HK.out.1.per.1,HK.out.1.per.2,0,HK.out.1.nums,rfl⟩)
   rwa [HQn.out,HK.out.2.2] at this
  clear hb3 hnev hsh hord hpl hq g0
  go_wp2_with fail
  go_region_held3 (fun w'=>w'.cell? ⟨w.heap.size,1,none⟩=some (.string kb) ∧ w'.cell? ⟨w.heap.size,2,none⟩=some (.int .i64 per) ∧ w'.cell? ⟨w.heap.size,3,none⟩=some (.slice na r ncap))
   (first | exact hS | exact HSb.out _ HD.out)
   (first
   | (go_at_call 115;refine (HSe.out _).mono ?_;rintro e w4 ⟨M,fv,rfl,hb4,hlk1,hlk,hfv⟩;have HB5:Hid (Below w3.heap.size w3 w4):=(by exact HD.out.trans (hb4.mono HD.out.size));have hS:=HSb.out w4 HB5.out;obtain ⟨F,bd,rfl,hby⟩:=hfv HK.out.1.kind.1;have hcF:=hby.call;have HBy:Hid (SendBy w4 k F bd):=hby;clear hb4 hlk1 hby)
   | (refine (HSend.out F bd w4 HB5.out HBy.out).mono ?_;rintro e w5 ⟨la,nl,lcap,E,rfl,hE,hb5,hl5⟩;have hS:=HSb.out w5 (HB5.out.trans (hb5.mono HB5.out.size));have HX:Hid (ErrIs w5 E 0 (-1) ∧ Below w4.heap.size w4 w5 ∧ ∃ l,nl=l.length ∧ SntLie w5 la lcap l ∧ LinkSends k per (gatePks ps at_ L) ns l):=⟨hE,hb5,hl5 rfl⟩;clear hE hb5 hl5))
  all_goals
   obtain ⟨hE,hb5,l,hln,hsl,hls⟩:=HX.out
   obtain rfl:=hE.none_ rfl
   have HEnd:Hid (GateGood cs k per ns ps w (.returned (.tuple #[.slice qa q qcap,.slice la nl lcap,.nilIface])) w5):=by
    have hb35:=HB5.out.trans (hb5.mono HB5.out.size)
    refine ⟨qa,qcap,la,lcap,gatePks ps at_ L,l,by rw [HQn.out,hln],HPl.out.below hb35,hsl,⟨at_,L,HQ.out.2.1,HQ.out.2.2,rfl,hls⟩,HB4.out.trans (hb35.mono HB4.out.size)⟩
   clear hE hb5 hln hsl hls HX hS g1 g2 g3
   go_wp2_with fail
   (try simp only [Exit.inBlock,Exit.then])
   refine bodyPost_ret (results_tmp3 rfl _ _ _) rfl ?_
   exact ⟨fun i h _=>absurd h (HQ.out.1 i),fun _=>HEnd.out⟩
theorem gateWalks:GateWalks where
 check:=gateCheck_is
 bad:=fun ca ccap cs kb per na ncap ns pa pcap ps w ad c p he hg hp h hc=>by
  rcases h with ⟨h,-⟩ | ⟨hok,h,-⟩ | ⟨hok,ho,i,hn,hall,rfl,rfl⟩ | ⟨-,-,-,rfl,-⟩
  · exact gateRun_gate ca _ ccap kb per na _ ncap pa _ pcap w c p hc fun W hW=>gateCheck_is ca ccap cs kb per na ncap ns W ad c p (he.below hW) (hg.below hW) h
  ·
   refine gateRun_pks ca _ ccap kb per na _ ncap pa _ pcap w c p hc (fun W hW=>gateCheck_is ca ccap cs kb per na ncap ns W ad 0 (-1) (he.below hW) (hg.below hW) ?_) (fun W hW=>pcheck_is pa pcap ps W ad (he.below hW) (hp.pks.below hW) hp.cap hp.max c p h)
   exact .inr (.inr ⟨hok.len,hok.curves,rfl,.inr ⟨hok.kind.1,hok.kind.2,.inr ⟨hok.per.1,hok.per.2,0,hok.nums,rfl⟩⟩⟩)
  · exact (gateRun_main ca ccap cs kb per na ncap ns pa pcap ps w ad he hg hp hok ho).mono fun _ _ h=>h.1 i hn hall
  · omega
 good:=fun ca ccap cs kb per na ncap ns pa pcap ps w ad he hg hp hok ho hn=>(gateRun_main ca ccap cs kb per na ncap ns pa pcap ps w ad he hg hp hok ho).mono fun _ _ h=>h.2 hn
end Go.Proofs.YtipdclphpkgceaaGreatDoor
