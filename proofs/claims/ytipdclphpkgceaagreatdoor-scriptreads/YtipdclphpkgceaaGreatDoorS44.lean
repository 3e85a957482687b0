/- ScriptReads: from the walk to the given statement. -/
import Derived.Deep.DeepCutAuto
import Derived.Test.YtipdclphpkgceaaGreatDoorS43
import Derived.Test.YtipdclphpkgceaaGreatDoorS18
import Derived.Test.YtipdclphpkgceaaGreatDoorCards
import Derived.Test.YtipdclphpkgceaaGreatDoorS23
set_option maxHeartbeats 8000000
set_option maxRecDepth 100000

namespace Go.Proofs.YtipdclphpkgceaaGreatDoor
open Go.RowKit
theorem strSlice (x:List UInt8) (j:Nat) (b:UInt8) (h:x[j]? = some b) (W:World):(Instr.slice 9 (.string ⟨x.toArray⟩) (some (.int .i64 (j:Int))) (some (.int .i64 ((j:Int)+1))) none).run Tryz.prog W=.ok (strW [b]) W:=by
 have hj:=lt_of_get h
 have hs:(⟨x.toArray⟩:ByteArray).size=x.length:=by show x.toArray.size=_;simp
 rw [run_slice_string W 9 ⟨x.toArray⟩ .i64 .i64 (j:Int) ((j:Int)+1) Tryz.underlying9 (by omega) (by omega) (by rw [hs];omega)]
 have e:(ByteArray.mk x.toArray).extract (j:Int).toNat ((j:Int)+1).toNat=⟨[b].toArray⟩:=by
  apply Go.WideShapes.bytes_inj
  rw [Go.Lib.extract_data,show ((j:Int)+1).toNat=j+1 by omega,show (j:Int).toNat=j by omega]
  show (x.drop j).take (j+1 - j)=[b]
  rw [show j+1 - j=1 by omega,List.drop_eq_getElem_cons hj]
  simp only [List.take_succ_cons,List.take_zero]
  rw [List.getElem?_eq_getElem hj] at h
  rw [Option.some.inj h]
 rw [e]
theorem take_no {x:List UInt8} {j:Nat} {b:UInt8} (hno:∀ (i:Nat) c,i < j → x[i]? = some c → c ≠ 32) (hb:x[j]? = some b) (h:b ≠ 32):∀ (i:Nat) c,i < j+1 → x[i]? = some c → c ≠ 32:=fun i c hi hc=>by
 rcases Nat.lt_or_ge i j with h' | h'
 · exact hno i c h' hc
 ·
  obtain rfl:i=j:=by omega
  rw [hb] at hc
  cases hc
  exact h
theorem scriptReads_any (a:Option Addr) (cap:Nat) (l:List (List UInt8)) (w:World) (ad:Nat → Addr) (he:Env w ad) (hl:LiesW w a l) (hcap:l.length ≤ 9223372036854775807) (hx:∀ x ∈ l,x.length ≤ 9223372036854775807)
  (hcod:∀ W,Below w.heap.size w W → Calls Tryz.prog 8 #[.iface 312 (.pointer (some (ad 1))),.int .i64 2] W fun e w'=>e=.returned (.bool true) ∧ Below W.heap.size W w') :
  Calls Tryz.prog 3 #[.slice a l.length cap] w fun e w'=>e=.returned (.bool true) ∧ Below w.heap.size w w':=by
 have HHe:Hid (Calls Tryz.prog 6 #[] w fun e w'=>e=.returned (.bool true) ∧ Below w.heap.size w w'):=hello_is w ad he
 have HCo:Hid (∀ W,Below w.heap.size w W → Calls Tryz.prog 8 #[.iface 312 (.pointer (some (ad 1))),.int .i64 2] W fun e w'=>e=.returned (.bool true) ∧ Below W.heap.size W w'):=hcod
 have HL:Hid (∀ (i:Nat) x,l[i]? = some x → ∃ b off,a=some ⟨b,off,none⟩ ∧ w.cell? ⟨b,off+i,none⟩=some (strW x)):=fun i x hi=>by
  obtain ⟨b,off,h1,-,h2⟩:=hl.place (by have:=lt_of_get hi;omega)
  exact ⟨b,off,h1,h2 i x hi⟩
 have HEn:Hid (Env w ad):=he
 have HX:Hid (∀ x ∈ l,x.length ≤ 9223372036854775807):=hx
 obtain ⟨n,hn⟩:∃ n,l.length=n:=⟨_,rfl⟩
 have HN:Hid (l.length=n):=hn
 rw [hn] at hcap ⊢
 clear he hl hx hcod hn
 by_cases h110:110 < n
 ·
  have hd:decide ((110:Int) < (n:Int))=true:=decide_eq_true (by omega)
  go_enter Tryz.func3,Tryz.ntmps3
  go_wp2_with fail
  refine HHe.out.mono ?_
  rintro e w1 ⟨rfl,hb⟩
  have HB:Hid (Below w.heap.size w w1):=hb
  clear hb
  go_wp2_with fail
  go_ret
  exact ⟨rfl,HB.out⟩
 have hd:decide ((110:Int) < (n:Int))=false:=decide_eq_false (by omega)
 have hn1:n ≤ 110:=by omega
 clear hcap h110
 go_enter Tryz.func3,Tryz.ntmps3
 go_wp2_with fail
 refine HHe.out.mono ?_
 rintro e w1 ⟨rfl,hb⟩
 have HB1:Hid (Below w.heap.size w w1):=hb
 clear hb HHe
 go_wp2_with fail
 go_loopw [4,5] (fun own i wr=>∃ k:Nat,∃ ov,k ≤ n ∧ ov=own ∧ i=.int .i64 k ∧ Below w.heap.size w wr ∧ OwnW wr w.heap.size ov (l.take k) ∧ ∀ x ∈ l.take k,x.length ≤ 100) (fun _ i _=>n - (intOf i).toNat)
 case atStart=>exact ⟨0,_,Nat.zero_le _,rfl,rfl,HB1.out,ownW_nil _ _,fun x hx=>by simp at hx⟩
 case round=>
  obtain ⟨k,ov,hk,rfl,rfl,hb,hown,hsh⟩:=hrel
  have HR:Hid (Below w.heap.size w wr ∧ OwnW wr w.heap.size ov (l.take k) ∧ ∀ x ∈ l.take k,x.length ≤ 100):=⟨hb,hown,hsh⟩
  by_cases hkn:k < n
  ·
   obtain ⟨x,hx,hxm⟩:=get_some l k (by rw [HN.out];exact hkn)
   obtain ⟨b,off,rfl,hc⟩:=HL.out k x hx
   have hc1:wr.cell? ⟨b,off+k,none⟩=some (strW x):=cell_later hb hc
   by_cases hlong:100 < x.length
   ·
    have hsz:(⟨x.toArray⟩:ByteArray).size=x.length:=by show x.toArray.size=_;simp
    have hxl:=HX.out x hxm
    obtain ⟨sx,hsx⟩:∃ sx:ByteArray,⟨x.toArray⟩=sx:=⟨_,rfl⟩
    have hc2:wr.cell? ⟨b,off+k,none⟩=some (.string sx):=by rw [hc1,← hsx]
    rw [hsx] at hsz
    obtain ⟨m,hm⟩:∃ m,sx.size=m:=⟨_,rfl⟩
    have hd2:decide ((100:Int) < (m:Int))=true:=decide_eq_true (by omega)
    clear hb hown hsh hx hxm hc hc1 hlong hsx hsz hxl
    go_wp2_with fail
    go_ret
    exact ⟨rfl,HR.out.1⟩
   ·
    have hsz:(⟨x.toArray⟩:ByteArray).size=x.length:=by show x.toArray.size=_;simp
    have hlt:(l.take k).length=k:=by rw [List.length_take,HN.out];omega
    have hts:l.take (k+1)=l.take k ++ [x]:=by rw [List.take_add_one,hx];rfl
    have HF:Hid (∀ g5 cap5 w5,TextOn (wr.alloc (.cells #[strW x] 9)) w.heap.size ov (l.take k) x g5 cap5 w5 → Below w.heap.size w w5 ∧ OwnW w5 w.heap.size (.slice (some ⟨g5,0,none⟩) (k+1) cap5) (l.take (k+1)) ∧ ∀ x ∈ l.take (k+1),x.length ≤ 100):=fun g5 cap5 w5 hon=>by
     obtain ⟨q1,q2,q3,q4⟩:=hon
     rw [hlt] at q1
     have hba:=hb.alloc hb.size (.cells #[strW x] 9)
     refine ⟨hba.trans (q2.below hba.size fun j hj=>(ownsRow_lt hown hj).1),by rw [hts];exact q1,fun y hy=>?_⟩
     rw [hts] at hy
     rcases List.mem_append.1 hy with hy | hy
     · exact hsh y hy
     · rw [List.mem_singleton.1 hy];omega
    have HOw:Hid (OwnW (wr.alloc (.cells #[strW x] 9)) w.heap.size ov (l.take k) ∧ w.heap.size ≤ (wr.alloc (.cells #[strW x] 9)).heap.size ∧ (l.take k).length=k ∧ (wr.alloc (.cells #[strW x] 9)).cell? ⟨wr.heap.size,0,none⟩=some (strW x)):=⟨hown.below ((Below.refl _ _).alloc (Nat.le_refl _) _),(hb.alloc hb.size _).size,hlt,by rw [World.cell?_alloc_at _ _ _ _ rfl];rfl⟩
    obtain ⟨m,hm⟩:∃ m,x.length=m:=⟨_,rfl⟩
    have hd2:decide ((100:Int) < (m:Int))=false:=decide_eq_false (by omega)
    rw [hm] at hsz
    clear hb hown hsh hx hxm hc hlong hlt hts hm
    go_wp2_with (at_builtin;go_must (refine wpList_append_text _ rfl rfl _ _ rfl w.heap.size ov (l.take k) x rfl HOw.out.1 HOw.out.2.1 (by rw [HOw.out.2.2.1];omega) ⟨wr.heap.size,0,none⟩ 1 rfl HOw.out.2.2.2 ?_;intro g5 cap5 w5 hon;have HF5:=(show Hid (Below w.heap.size w w5 ∧ OwnW w5 w.heap.size (.slice (some ⟨g5,0,none⟩) (k+1) cap5) (l.take (k+1)) ∧ ∀ x ∈ l.take (k+1),x.length ≤ 100) from HF.out g5 cap5 w5 hon);rw [HOw.out.2.2.1];clear hon))
    go_roundw
    case rel=>exact ⟨k+1,_,by omega,rfl,by go_num,HF5.out⟩
    case measure=>simp [intOf];omega
  ·
   obtain rfl:k=n:=by omega
   have htl:l.take k=l:=by rw [← HN.out,List.take_length]
   rw [htl] at HR
   clear hb hown hsh htl
   obtain ⟨oa,ocap,hov,hol,-⟩:=HR.out.2.1.value
   rw [HN.out] at hov
   subst hov
   by_cases h100:100 < k
   ·
    have HRn:Hid (Calls Tryz.prog 7 #[.slice oa k ocap] wr fun e w'=>e=.returned (.tuple #[.slice none 0 0,.iface 312 (.pointer (some (ad 1)))]) ∧ Below wr.heap.size wr w'):=scriptRun_long oa k ocap wr ad (HEn.out.below HR.out.1).errs.c1 h100
    have hd3:decide ((100:Int) < (k:Int))=true:=decide_eq_true (by omega)
    clear hol h100
    go_wp2_with fail
    refine HRn.out.mono ?_
    rintro e w2 ⟨rfl,hb2⟩
    have hb:=HR.out.1.trans (hb2.mono HR.out.1.size)
    have HCd:Hid (Calls Tryz.prog 8 #[.iface 312 (.pointer (some (ad 1))),.int .i64 2] w2 fun e w'=>e=.returned (.bool true) ∧ Below w2.heap.size w2 w'):=HCo.out w2 hb
    have HB2:Hid (Below w.heap.size w w2):=hb
    clear hb hb2
    go_wp2_with fail
    refine HCd.out.mono ?_
    rintro e w3 ⟨rfl,hb3⟩
    have HB3:Hid (Below w.heap.size w w3):=HB2.out.trans (hb3.mono HB2.out.size)
    clear hb3
    go_wp2_with fail
    go_ret
    exact ⟨rfl,HB3.out⟩
   ·
    have hd3:decide ((100:Int) < (k:Int))=false:=decide_eq_false (by omega)
    have HRn:Hid (Calls Tryz.prog 7 #[.slice oa k ocap] wr fun e w'=>OutsEnd (fun i o=>∀ x,l[i]? = some x → o ≠ [] ∧ (¬ cmdW (cutW x).1 → o=errText 1)) (fun _ _=>True) l wr e w'):=by
     have:=scriptRun_is oa ocap l wr ad (HEn.out.below HR.out.1) hol (by rw [HN.out];omega) (fun x hx=>by have:=HR.out.2.2 x hx;omega) (fun i o=>∀ x,l[i]? = some x → o ≠ [] ∧ (¬ cmdW (cutW x).1 → o=errText 1)) (fun _ _=>True) trivial (fun i x s hi _ _ hex=>by
      obtain ⟨out,s',h⟩:=hex
      refine ⟨out,s',h,fun y hy=>?_,trivial⟩
      rw [hi] at hy
      cases hy
      exact says_least h)
     rw [HN.out] at this
     exact this
    clear hol h100
    go_wp2_with fail
    refine HRn.out.mono ?_
    rintro e w2 ⟨O,outs,s',he2,hlo,htd,-,hsa,hb2⟩
    rw [HN.out] at he2
    obtain ⟨oz,hoz⟩:∃ oz:Nat,0=oz:=⟨_,rfl⟩
    rw [hoz] at he2 hlo
    clear hoz
    subst he2
    have HO:Hid (Below w.heap.size w w2 ∧ LiesW w2 (some ⟨O,oz,none⟩) outs ∧ (∀ (i:Nat) o,outs[i]? = some o → ∀ x,l[i]? = some x → o ≠ [] ∧ (¬ cmdW (cutW x).1 → o=errText 1)) ∧ outs.length=k ∧ (∀ x ∈ l,x.length ≤ 100)):=⟨HR.out.1.trans (hb2.mono HR.out.1.size),hlo,htd,by rw [saysAll_length hsa,HN.out],HR.out.2.2⟩
    have hkk:((k:Int) == (k:Int))=true:=by simp
    clear hlo htd hsa hb2 HR HRn HCo
    go_wp2_with fail
    go_loopw [8] (fun i wr=>∃ q:Nat,q ≤ k ∧ i=.int .i64 q ∧ Below w2.heap.size w2 wr) (fun i _=>k - (intOf i).toNat)
    case atStart=>exact ⟨0,Nat.zero_le _,rfl,Below.refl _ _⟩
    case round=>
     obtain ⟨q,hq,rfl,hbq⟩:=hrel
     obtain ⟨W,hW⟩:∃ W,W=wr:=⟨_,rfl⟩
     subst hW
     by_cases hqk:q < k
     ·
      obtain ⟨x,hx,hxm⟩:=get_some l q (by rw [HN.out];exact hqk)
      obtain ⟨o,hoq,-⟩:=get_some outs q (by rw [HO.out.2.2.2.1];exact hqk)
      obtain ⟨b,off,rfl,hc⟩:=HL.out q x hx
      have hbw:=HO.out.1.trans (hbq.mono HO.out.1.size)
      have hc1:W.cell? ⟨b,off+q,none⟩=some (strW x):=cell_later hbw hc
      have hc2:W.cell? ⟨O,oz+q,none⟩=some (strW o):=by
       rcases HO.out.2.1 with h | ⟨b',off',e,-,h⟩
       · rw [h] at hoq;simp at hoq
       ·
        cases e
        exact cell_later hbq (h q o hoq)
      have hxl:=HO.out.2.2.2.2 x hxm
      obtain ⟨hne,hno⟩:=HO.out.2.2.1 q o hoq x hx
      have HNo:Hid (o ≠ [] ∧ (¬ cmdW (cutW x).1 → o=errText 1)):=⟨hne,hno⟩
      have HB:Hid (Below w2.heap.size w2 W):=hbq
      obtain ⟨m,hm⟩:∃ m,x.length=m:=⟨_,rfl⟩
      have hsz:(⟨x.toArray⟩:ByteArray).size=m:=by show x.toArray.size=_;simp [hm]
      have HM:Hid (x.length=m):=hm
      have hm1:m ≤ 100:=by omega
      clear hbq hx hxm hoq hc hbw hxl hne hno hm
      go_wp2_with fail
      go_loopw [9,10] (fun wv kv wr=>∃ j:Nat,j ≤ m ∧ kv=.int .i64 j ∧ wv=.string ⟨(x.take j).toArray⟩ ∧ W=wr ∧ ∀ (i:Nat) c,i < j → x[i]? = some c → c ≠ 32) (fun _ kv _=>m - (intOf kv).toNat)
      case atStart=>exact ⟨0,Nat.zero_le _,rfl,rfl,rfl,fun i c hi=>by omega⟩
      case round=>
       obtain ⟨j,hj,rfl,rfl,rfl,hno⟩:=hrel
       have HJ:Hid (∀ (i:Nat) c,i < j → x[i]? = some c → c ≠ 32):=hno
       clear hno
       obtain ⟨cond,hcond⟩:∃ cond,decide (∃ c,x[j]? = some c ∧ c ≠ 32)=cond:=⟨_,rfl⟩
       have HCd:Hid (decide (∃ c,x[j]? = some c ∧ c ≠ 32)=cond):=hcond
       clear hcond
       go_upto_region 21 with fail
       go_cut [85] from 70 to 97 (fun s85 wx=>s85=.bool cond ∧ W=wx)
       case first=>
        by_cases hjm:j < m
        ·
         obtain ⟨c,hxc,-⟩:=get_some x j (by rw [HM.out];exact hjm)
         have hix:∀ V:World,(Instr.index 9 (.string ⟨x.toArray⟩) (.int .i64 (j:Int))).run Tryz.prog V=.ok (.int .u8 (c.toNat:Int)) V:=fun V=>strIndex ⟨x.toArray⟩ j c hxc V
         have hlt:decide ((j:Int) < (m:Int))=true:=decide_eq_true (by omega)
         obtain ⟨cz,hcz⟩:∃ cz:Int,(c.toNat:Int)=cz:=⟨_,rfl⟩
         rw [hcz] at hix
         by_cases h32:c=32
         ·
          have HB2:Hid (cond=false):=by
           show cond=false
           rw [← HCd.out]
           refine decide_eq_false ?_
           rintro ⟨c',h1,h2⟩
           rw [hxc] at h1
           exact h2 ((Option.some.inj h1).symm.trans h32)
          have he:(cz == 32)=true:=by rw [← hcz,h32];rfl
          clear hxc h32 hcz
          go_wp2_with fail
          go_meet
          exact ⟨by rw [HB2.out];simp [bne,he],rfl⟩
         ·
          have HB2:Hid (cond=true):=by
           show cond=true
           rw [← HCd.out]
           exact decide_eq_true ⟨c,hxc,h32⟩
          have he:(cz == 32)=false:=by
           have h1:c.toNat ≠ 32:=fun e=>h32 (UInt8.toNat.inj e)
           simp
           omega
          clear hxc h32 hcz
          go_wp2_with fail
          go_meet
          exact ⟨by rw [HB2.out];simp [bne,he],rfl⟩
        ·
         have HB2:Hid (cond=false):=by
          show cond=false
          rw [← HCd.out]
          refine decide_eq_false ?_
          rintro ⟨c',h1,h2⟩
          have:=lt_of_get h1
          have:=HM.out
          omega
         obtain rfl:j=m:=by omega
         clear hjm
         go_wp2_with fail
         go_meet
         exact ⟨by rw [HB2.out],rfl⟩
       case rest=>
       obtain ⟨rfl,hwc⟩:=hcut
       subst hwc
       by_cases hc:cond=true
       ·
        obtain ⟨c,hxc,hc32⟩:∃ c,x[j]? = some c ∧ c ≠ 32:=of_decide_eq_true (HCd.out.trans hc)
        have hjm:j < m:=by have:=lt_of_get hxc;rw [HM.out] at this;exact this
        have hsl:=strSlice x j c hxc
        have hct:=cat_is (x.take j) [c] (by rw [List.length_take];have:=HM.out;omega) (by simp)
        have htk:x.take (j+1)=x.take j ++ [c]:=by rw [List.take_add_one,hxc];rfl
        rw [← htk] at hct
        have HNx:Hid (∀ (i:Nat) c',i < j+1 → x[i]? = some c' → c' ≠ 32):=take_no HJ.out hxc hc32
        obtain ⟨t1,ht1⟩:∃ t1:ByteArray,⟨(x.take j).toArray⟩=t1:=⟨_,rfl⟩
        rw [ht1] at hct ⊢
        clear hxc hc32 htk ht1
        subst hc
        go_wp2_with fail
        go_roundw
        case rel=>exact ⟨j+1,by omega,by go_num,by first | rfl | trivial,by first | rfl | trivial,HNx.out⟩
        case measure=>simp [intOf];omega
       ·
        have hcf:cond=false:=by simpa using hc
        subst hcf
        clear hc
        have hnm:(cutW x).1=x.take j:=by
         refine cutW_take x j HJ.out ?_
         have h1:¬ ∃ c,x[j]? = some c ∧ c ≠ 32:=of_decide_eq_false HCd.out
         rcases Nat.lt_or_ge j m with h2 | h2
         ·
          obtain ⟨c,hc,-⟩:=get_some x j (by rw [HM.out];exact h2)
          by_cases e:c=32
          · rw [e] at hc;exact .inl hc
          · exact absurd ⟨c,hc,e⟩ h1
         · exact .inr (by rw [HM.out];omega)
        obtain ⟨nm,hnmm⟩:∃ nm,x.take j=nm:=⟨_,rfl⟩
        rw [hnm,hnmm] at HNo
        rw [hnmm]
        clear hnm hnmm
        obtain ⟨ks,hks⟩:∃ ks:ByteArray,⟨nm.toArray⟩=ks:=⟨_,rfl⟩
        rw [hks]
        obtain ⟨ob,hob⟩:∃ ob:ByteArray,⟨o.toArray⟩=ob:=⟨_,rfl⟩
        have hc3:∀ g:Later W,g.w.cell? ⟨O,oz+q,none⟩=some (.string ob):=fun g=>by
         rw [← hob]
         exact Later.cell hc2 g
        obtain ⟨v1,v2⟩:=nameIs o [] ob hob false (decide_eq_false HNo.out.1)
        clear hc1 hc2 hsz hm1 HJ HCd HM
        have hnel:Nonempty (Later W):=⟨⟨W,Below.refl _ _⟩⟩
        obtain ⟨eb,heb⟩:∃ eb:ByteArray,⟨(errText 1).toArray⟩=eb:=⟨_,rfl⟩
        have HET:Hid (∀ g:Later W,Calls Tryz.prog 9 #[.int .i64 1] g.w fun e w'=>e=.returned (.string eb) ∧ ∃ g':Later W,w'=g'.w):=fun g=>by
         have h:=Later.calls (V:=W) (v:=strW (errText 1)) (fun V _=>errorText_is 1 V (by omega)) g
         have e:strW (errText 1)=.string eb:=by rw [← heb]
         rw [e] at h
         exact h
        by_cases e0:nm=[99,117,114,118,101]
        ·
         clear HET
         have hname':=e0
         have n0:=nameIs nm [99,117,114,118,101] ks hks true (by rw [hname'];decide)
         obtain ⟨t0,u0⟩:=n0
         clear hname' hks heb e0
         go_wp2_with fail
         refine wp_region_later (by kernel_rfl) (by kernel_rfl) ?_
         repeat (go_big_quiet_step (fail))
         refine wpQuiet_nil ?_
         rintro _ ⟨gq,rfl⟩
         go_wp2_with fail
         go_roundw
         case rel=>exact ⟨q+1,by omega,by go_num,HB.out.trans (gq.bel.mono HB.out.size)⟩
         case measure=>simp [intOf];omega
        by_cases e1:nm=[108,105,110,107]
        ·
         clear HET
         have hname':=e1
         have n0:=nameIs nm [99,117,114,118,101] ks hks false (by rw [hname'];decide)
         have n1:=nameIs nm [108,105,110,107] ks hks true (by rw [hname'];decide)
         obtain ⟨t0,u0⟩:=n0
         obtain ⟨t1,u1⟩:=n1
         clear hname' hks heb e0 e1
         go_wp2_with fail
         refine wp_region_later (by kernel_rfl) (by kernel_rfl) ?_
         repeat (go_big_quiet_step (fail))
         refine wpQuiet_nil ?_
         rintro _ ⟨gq,rfl⟩
         go_wp2_with fail
         go_roundw
         case rel=>exact ⟨q+1,by omega,by go_num,HB.out.trans (gq.bel.mono HB.out.size)⟩
         case measure=>simp [intOf];omega
        by_cases e2:nm=[110,117,109,98,101,114,115]
        ·
         clear HET
         have hname':=e2
         have n0:=nameIs nm [99,117,114,118,101] ks hks false (by rw [hname'];decide)
         have n1:=nameIs nm [108,105,110,107] ks hks false (by rw [hname'];decide)
         have n2:=nameIs nm [110,117,109,98,101,114,115] ks hks true (by rw [hname'];decide)
         obtain ⟨t0,u0⟩:=n0
         obtain ⟨t1,u1⟩:=n1
         obtain ⟨t2,u2⟩:=n2
         clear hname' hks heb e0 e1 e2
         go_wp2_with fail
         refine wp_region_later (by kernel_rfl) (by kernel_rfl) ?_
         repeat (go_big_quiet_step (fail))
         refine wpQuiet_nil ?_
         rintro _ ⟨gq,rfl⟩
         go_wp2_with fail
         go_roundw
         case rel=>exact ⟨q+1,by omega,by go_num,HB.out.trans (gq.bel.mono HB.out.size)⟩
         case measure=>simp [intOf];omega
        by_cases e3:nm=[112,97,99,107,101,116]
        ·
         clear HET
         have hname':=e3
         have n0:=nameIs nm [99,117,114,118,101] ks hks false (by rw [hname'];decide)
         have n1:=nameIs nm [108,105,110,107] ks hks false (by rw [hname'];decide)
         have n2:=nameIs nm [110,117,109,98,101,114,115] ks hks false (by rw [hname'];decide)
         have n3:=nameIs nm [112,97,99,107,101,116] ks hks true (by rw [hname'];decide)
         obtain ⟨t0,u0⟩:=n0
         obtain ⟨t1,u1⟩:=n1
         obtain ⟨t2,u2⟩:=n2
         obtain ⟨t3,u3⟩:=n3
         clear hname' hks heb e0 e1 e2 e3
         go_wp2_with fail
         refine wp_region_later (by kernel_rfl) (by kernel_rfl) ?_
         repeat (go_big_quiet_step (fail))
         refine wpQuiet_nil ?_
         rintro _ ⟨gq,rfl⟩
         go_wp2_with fail
         go_roundw
         case rel=>exact ⟨q+1,by omega,by go_num,HB.out.trans (gq.bel.mono HB.out.size)⟩
         case measure=>simp [intOf];omega
        by_cases e4:nm=[97,116]
        ·
         clear HET
         have hname':=e4
         have n0:=nameIs nm [99,117,114,118,101] ks hks false (by rw [hname'];decide)
         have n1:=nameIs nm [108,105,110,107] ks hks false (by rw [hname'];decide)
         have n2:=nameIs nm [110,117,109,98,101,114,115] ks hks false (by rw [hname'];decide)
         have n3:=nameIs nm [112,97,99,107,101,116] ks hks false (by rw [hname'];decide)
         have n4:=nameIs nm [97,116] ks hks true (by rw [hname'];decide)
         obtain ⟨t0,u0⟩:=n0
         obtain ⟨t1,u1⟩:=n1
         obtain ⟨t2,u2⟩:=n2
         obtain ⟨t3,u3⟩:=n3
         obtain ⟨t4,u4⟩:=n4
         clear hname' hks heb e0 e1 e2 e3 e4
         go_wp2_with fail
         refine wp_region_later (by kernel_rfl) (by kernel_rfl) ?_
         repeat (go_big_quiet_step (fail))
         refine wpQuiet_nil ?_
         rintro _ ⟨gq,rfl⟩
         go_wp2_with fail
         go_roundw
         case rel=>exact ⟨q+1,by omega,by go_num,HB.out.trans (gq.bel.mono HB.out.size)⟩
         case measure=>simp [intOf];omega
        by_cases e5:nm=[99,108,101,97,114]
        ·
         clear HET
         have hname':=e5
         have n0:=nameIs nm [99,117,114,118,101] ks hks false (by rw [hname'];decide)
         have n1:=nameIs nm [108,105,110,107] ks hks false (by rw [hname'];decide)
         have n2:=nameIs nm [110,117,109,98,101,114,115] ks hks false (by rw [hname'];decide)
         have n3:=nameIs nm [112,97,99,107,101,116] ks hks false (by rw [hname'];decide)
         have n4:=nameIs nm [97,116] ks hks false (by rw [hname'];decide)
         have n5:=nameIs nm [99,108,101,97,114] ks hks true (by rw [hname'];decide)
         obtain ⟨t0,u0⟩:=n0
         obtain ⟨t1,u1⟩:=n1
         obtain ⟨t2,u2⟩:=n2
         obtain ⟨t3,u3⟩:=n3
         obtain ⟨t4,u4⟩:=n4
         obtain ⟨t5,u5⟩:=n5
         clear hname' hks heb e0 e1 e2 e3 e4 e5
         go_wp2_with fail
         refine wp_region_later (by kernel_rfl) (by kernel_rfl) ?_
         repeat (go_big_quiet_step (fail))
         refine wpQuiet_nil ?_
         rintro _ ⟨gq,rfl⟩
         go_wp2_with fail
         go_roundw
         case rel=>exact ⟨q+1,by omega,by go_num,HB.out.trans (gq.bel.mono HB.out.size)⟩
         case measure=>simp [intOf];omega
        by_cases e6:nm=[114,117,110]
        ·
         clear HET
         have hname':=e6
         have n0:=nameIs nm [99,117,114,118,101] ks hks false (by rw [hname'];decide)
         have n1:=nameIs nm [108,105,110,107] ks hks false (by rw [hname'];decide)
         have n2:=nameIs nm [110,117,109,98,101,114,115] ks hks false (by rw [hname'];decide)
         have n3:=nameIs nm [112,97,99,107,101,116] ks hks false (by rw [hname'];decide)
         have n4:=nameIs nm [97,116] ks hks false (by rw [hname'];decide)
         have n5:=nameIs nm [99,108,101,97,114] ks hks false (by rw [hname'];decide)
         have n6:=nameIs nm [114,117,110] ks hks true (by rw [hname'];decide)
         obtain ⟨t0,u0⟩:=n0
         obtain ⟨t1,u1⟩:=n1
         obtain ⟨t2,u2⟩:=n2
         obtain ⟨t3,u3⟩:=n3
         obtain ⟨t4,u4⟩:=n4
         obtain ⟨t5,u5⟩:=n5
         obtain ⟨t6,u6⟩:=n6
         clear hname' hks heb e0 e1 e2 e3 e4 e5 e6
         go_wp2_with fail
         refine wp_region_later (by kernel_rfl) (by kernel_rfl) ?_
         repeat (go_big_quiet_step (fail))
         refine wpQuiet_nil ?_
         rintro _ ⟨gq,rfl⟩
         go_wp2_with fail
         go_roundw
         case rel=>exact ⟨q+1,by omega,by go_num,HB.out.trans (gq.bel.mono HB.out.size)⟩
         case measure=>simp [intOf];omega
        by_cases e7:nm=[119,111,114,115,116]
        ·
         clear HET
         have hname':=e7
         have n0:=nameIs nm [99,117,114,118,101] ks hks false (by rw [hname'];decide)
         have n1:=nameIs nm [108,105,110,107] ks hks false (by rw [hname'];decide)
         have n2:=nameIs nm [110,117,109,98,101,114,115] ks hks false (by rw [hname'];decide)
         have n3:=nameIs nm [112,97,99,107,101,116] ks hks false (by rw [hname'];decide)
         have n4:=nameIs nm [97,116] ks hks false (by rw [hname'];decide)
         have n5:=nameIs nm [99,108,101,97,114] ks hks false (by rw [hname'];decide)
         have n6:=nameIs nm [114,117,110] ks hks false (by rw [hname'];decide)
         have n7:=nameIs nm [119,111,114,115,116] ks hks true (by rw [hname'];decide)
         obtain ⟨t0,u0⟩:=n0
         obtain ⟨t1,u1⟩:=n1
         obtain ⟨t2,u2⟩:=n2
         obtain ⟨t3,u3⟩:=n3
         obtain ⟨t4,u4⟩:=n4
         obtain ⟨t5,u5⟩:=n5
         obtain ⟨t6,u6⟩:=n6
         obtain ⟨t7,u7⟩:=n7
         clear hname' hks heb e0 e1 e2 e3 e4 e5 e6 e7
         go_wp2_with fail
         refine wp_region_later (by kernel_rfl) (by kernel_rfl) ?_
         repeat (go_big_quiet_step (fail))
         refine wpQuiet_nil ?_
         rintro _ ⟨gq,rfl⟩
         go_wp2_with fail
         go_roundw
         case rel=>exact ⟨q+1,by omega,by go_num,HB.out.trans (gq.bel.mono HB.out.size)⟩
         case measure=>simp [intOf];omega
        by_cases e8:nm=[98,111,117,110,100]
        ·
         clear HET
         have hname':=e8
         have n0:=nameIs nm [99,117,114,118,101] ks hks false (by rw [hname'];decide)
         have n1:=nameIs nm [108,105,110,107] ks hks false (by rw [hname'];decide)
         have n2:=nameIs nm [110,117,109,98,101,114,115] ks hks false (by rw [hname'];decide)
         have n3:=nameIs nm [112,97,99,107,101,116] ks hks false (by rw [hname'];decide)
         have n4:=nameIs nm [97,116] ks hks false (by rw [hname'];decide)
         have n5:=nameIs nm [99,108,101,97,114] ks hks false (by rw [hname'];decide)
         have n6:=nameIs nm [114,117,110] ks hks false (by rw [hname'];decide)
         have n7:=nameIs nm [119,111,114,115,116] ks hks false (by rw [hname'];decide)
         have n8:=nameIs nm [98,111,117,110,100] ks hks true (by rw [hname'];decide)
         obtain ⟨t0,u0⟩:=n0
         obtain ⟨t1,u1⟩:=n1
         obtain ⟨t2,u2⟩:=n2
         obtain ⟨t3,u3⟩:=n3
         obtain ⟨t4,u4⟩:=n4
         obtain ⟨t5,u5⟩:=n5
         obtain ⟨t6,u6⟩:=n6
         obtain ⟨t7,u7⟩:=n7
         obtain ⟨t8,u8⟩:=n8
         clear hname' hks heb e0 e1 e2 e3 e4 e5 e6 e7 e8
         go_wp2_with fail
         refine wp_region_later (by kernel_rfl) (by kernel_rfl) ?_
         repeat (go_big_quiet_step (fail))
         refine wpQuiet_nil ?_
         rintro _ ⟨gq,rfl⟩
         go_wp2_with fail
         go_roundw
         case rel=>exact ⟨q+1,by omega,by go_num,HB.out.trans (gq.bel.mono HB.out.size)⟩
         case measure=>simp [intOf];omega
        have n0:=nameIs nm [99,117,114,118,101] ks hks false (decide_eq_false e0)
        have n1:=nameIs nm [108,105,110,107] ks hks false (decide_eq_false e1)
        have n2:=nameIs nm [110,117,109,98,101,114,115] ks hks false (decide_eq_false e2)
        have n3:=nameIs nm [112,97,99,107,101,116] ks hks false (decide_eq_false e3)
        have n4:=nameIs nm [97,116] ks hks false (decide_eq_false e4)
        have n5:=nameIs nm [99,108,101,97,114] ks hks false (decide_eq_false e5)
        have n6:=nameIs nm [114,117,110] ks hks false (decide_eq_false e6)
        have n7:=nameIs nm [119,111,114,115,116] ks hks false (decide_eq_false e7)
        have n8:=nameIs nm [98,111,117,110,100] ks hks false (decide_eq_false e8)
        obtain ⟨t0,u0⟩:=n0
        obtain ⟨t1,u1⟩:=n1
        obtain ⟨t2,u2⟩:=n2
        obtain ⟨t3,u3⟩:=n3
        obtain ⟨t4,u4⟩:=n4
        obtain ⟨t5,u5⟩:=n5
        obtain ⟨t6,u6⟩:=n6
        obtain ⟨t7,u7⟩:=n7
        obtain ⟨t8,u8⟩:=n8
        have hot:=HNo.out.2 (by unfold cmdW;rintro (h | h | h | h | h | h | h | h | h) <;> contradiction)
        have hoe:ob=eb:=by rw [← hob,← heb,hot]
        subst hoe
        have hself:(ob.toList == ob.toList)=true:=by simp
        clear hks heb hot hob e0 e1 e2 e3 e4 e5 e6 e7 e8
        go_wp2_with fail
        refine wp_region_later (by kernel_rfl) (by kernel_rfl) ?_
        repeat (go_big_quiet_step (exact HET.out _))
        refine wpQuiet_nil ?_
        rintro _ ⟨gq,rfl⟩
        go_wp2_with fail
        go_roundw
        case rel=>exact ⟨q+1,by omega,by go_num,HB.out.trans (gq.bel.mono HB.out.size)⟩
        case measure=>simp [intOf];omega
     ·
      obtain rfl:q=k:=by omega
      have HB:Hid (Below w.heap.size w W):=HO.out.1.trans (hbq.mono HO.out.1.size)
      clear hbq
      go_wp2_with fail
      go_ret
      exact ⟨rfl,HB.out⟩
end Go.Proofs.YtipdclphpkgceaaGreatDoor

namespace Go.Proofs.YtipdclphpkgceaaGreatDoor
open Go.ChangeShapes Go.WideShapes Go.ChangeAt Go.RowKit Go.Shelf
theorem handed_shaped {H:Type} {enc:TypeId × Value → H} {a:Assume} {C:Checked} {os:Os} {f:FuncId} {fn:Func} {s:ChangeSpec} {conds:List PathCond} {apart fresh handsOn again:Bool} {X:World → Array Value → Prop}
  (hX:∀ (w w':World) (args:Array Value),w.heap=w'.heap → X w args → X w' args)
  (own:ownKnob C.prog.godebug=none) (started:os.Started) (noInit:C.prog.inits.idxOf? f=none) (hfn:C.prog.funcs[f]? = some fn)
  (witness:∃ (w:World) (tape:Tape) (i:Input),w.os=os ∧ (w.forCall tape i).Shaped C.prog ∧ i.vars=[] ∧ Input.okWide C.prog (w.forCall tape i) .any w.heap.size f i ∧
   ((s.pre enc C.prog fn conds apart (w.forCall tape i).memory i.args ∧ X (w.forCall tape i).memory i.args) ∧ sizedMet enc C.prog fn (OpenSpec.ofChange s) apart (w.forCall tape i).memory i.args) ∧ a.holds C.prog (lone (Frame.enter C.prog f i.args .normal) [] (w.forCall tape i)))
  (walk:∀ (W:World) (base:Nat) (args:Array Value) (ds gs:List (DataW H)) (before:List MemPlace),
   (∀ (j:Nat) t v,fn.params[j]? = some t → args[j]? = some v → Value.okWide C.prog W .any base t v) →
   DataW.Whole enc C.prog fn.params.toList s.vars apart W args.toList ds gs before →
   conds.all (PathCond.test C.prog ⟨fn.params.toList,ds,s.plain.varTypes C.prog,gs⟩)=true → X W args → W.ShapedOpen C.prog →
   Calls C.prog f args W fun e W'=>∃ v,e=.returned v ∧ s.post enc C.prog fn apart fresh handsOn again W args v W') :
  ReturnsInHanded a C os f .any (fun w args=>(s.pre enc C.prog fn conds apart w args ∧ X w args) ∧ sizedMet enc C.prog fn (OpenSpec.ofChange s) apart w args) (s.post enc C.prog fn apart fresh handsOn again):=by
 refine returnsInHanded_of_calls own started noInit witness fun w tape i _ hsh _ hok hpre _=>?_
 obtain ⟨_,_,_,fn',hfn',_,_,_,_,hval⟩:=hok
 obtain rfl:fn'=fn:=Option.some.inj (hfn'.symm.trans hfn)
 obtain ⟨⟨⟨ds,gs,before,hw,hc⟩,hx⟩,-⟩:=hpre
 refine (walk (w.forCall tape i) w.heap.size i.args ds gs before hval (DataW.Whole.of_heap (w':=w.forCall tape i) (by rfl) hw) hc (hX _ _ _ (by rfl) hx) hsh).mono fun e W' ⟨v,he,hp⟩=>?_
 subst he
 exact ChangeSpec.post_blind hp
theorem sr_lifted (os:Os) (started:os.Started) (H:Type) (enc:TypeId × Value → H) :
  ReturnsInHanded {} Tryz.checked os 3 .any (fun w args=>(Rows.scriptReadsSpec.pre enc Tryz.prog Tryz.f3 [] false w args ∧ laidMetH Tryz.prog Rows.scriptReadsRow.laid w) ∧ sizedMet enc Tryz.prog Tryz.f3 (OpenSpec.ofChange Rows.scriptReadsSpec) false w args)
   (Rows.scriptReadsSpec.post enc Tryz.prog Tryz.f3 false true false false):=by
 refine handed_shaped (C:=Tryz.checked) (X:=fun w _=>laidMetH Tryz.prog Rows.scriptReadsRow.laid w) (fun _ _ _ hh h=>h.of_heap hh) Tryz.own started (by kernel_rfl) Tryz.func3
  (ChangeSpec.witness_shaped (enc:=enc) (C:=Tryz.checked) (os:=os) (X:=fun w _=>laidMetH Tryz.prog Rows.scriptReadsRow.laid w) false (startT Tryz.prog os Rows.scriptReadsRow.laid) #[.slice none 0 0] 8 (startT_os _ _) (World.shaped_of_ZipB (by kernel_rfl) (by kernel_rfl)) (by kernel_rfl) (by kernel_rfl) (by kernel_rfl) (startR_met os _)) ?_
 intro W base args ds gs before hval0 hW _ hL hsh
 have hval:∀ (j:Nat) t v,Tryz.f3.params[j]? = some t → args[j]? = some v → Value.okWide Tryz.prog W .any base t v:=hval0
 have hW':=hW
 obtain ⟨p,q,hA0,hV,rfl,hfz,hnd⟩:=hW
 have hA:DataW.TrodAll enc Tryz.prog W 0 (fun _=>true) true Tryz.f3.params.toList args.toList ds p:=hA0
 rw [Tryz.params3] at hA hval
 obtain ⟨v0,d0,rfl,rfl,h0⟩:=trodAll_one hA
 obtain ⟨rfl,rfl⟩:=trodVars_none hV
 have lt0:∀ x ∈ p,x.block < W.heap.size:=by obtain ⟨m,hm⟩:=h0;exact DataW.trod_lt m _ _ _ hm
 have k0:=h0
 obtain ⟨a0,cap0,l0,rfl,hl0,hc0,hm0,ha0,hx0⟩:=open_texts (hval 0 22 v0 rfl rfl) h0
 obtain ⟨ad,a5,a6,a7,he,hx⟩:=envR_of_laid hL hsh
 refine (scriptReads_any a0 cap0 l0 W ad he hl0 (by simp [maxLen] at hm0;omega) (fun x hx=>by have:=hx0 x hx;simp [maxLen] at this;omega) (fun V hV=>coded_bound ad a5 a6 a7 V (he.errs.below hV) (hx.below hV))).mono fun e W' ⟨he',bel⟩=>?_
 subst he'
 exact ⟨_,rfl,_,_,_,[],_,[],hW',trodAll_mk1 (shut_bool Tryz.underlying4 _),
  (trodAll_mk1 (Below.trod Tryz.laidOut (by kernel_rfl) (of_decide_eq_true (by kernel_rfl)) k0 bel lt0)),rfl,bel.frame _,fun h=>by cases h⟩
theorem sr_row:Rows.ScriptReadsSaid:=
 OpenClaim.holds_of_wide 3 Tryz.f3 rfl rfl rfl rfl rfl rfl rfl ⟨rfl,rfl,rfl,rfl,rfl⟩ rfl rfl rfl rfl rfl (by kernel_rfl) Tryz.func3 (by kernel_rfl)
  (of_decide_eq_true (by kernel_rfl)) (by unfold Func.isWrapper;rw [if_neg (of_decide_eq_false (by kernel_rfl))];exact ⟨rfl,rfl⟩)
  (fun os started H enc _=>sr_lifted os started H enc)
theorem scriptReads_holds:Rows.ScriptReadsCardSaid:=
 Claim7.holds_tied_plain_at .later [] Rows.scriptReadsCard.laidKinds true Rows.scriptReadsCard.stood.harness true
  sr_row (fun _ h=>by cases h) (by kernel_rfl) (fun _ h=>by cases h) scriptReads_row_tie rfl ⟨rfl,rfl⟩ (by kernel_rfl) rfl
  (fun f fn hf hfn=>by
   obtain rfl:f=3:=Option.some.inj ((show Tryz.prog.funcNamed Rows.scriptReadsRow.func=some 3 by kernel_rfl).symm.trans hf) |>.symm
   obtain rfl:fn=Tryz.f3:=(Option.some.inj (Tryz.func3.symm.trans hfn)).symm
   exact ⟨by kernel_rfl,fun j t ht=>by
    rw [Tryz.params3] at ht
    have h3:t=22:=by
     match j,ht with
     | 0,ht=>exact (by simpa using ht.symm)
     | j+1,ht=>simp at ht
    rcases h3 with rfl
    · exact (show Tryz.prog.wantsStandIn 22=false by kernel_rfl)⟩)
  (by kernel_rfl)
#print axioms scriptReads_holds
end Go.Proofs.YtipdclphpkgceaaGreatDoor
