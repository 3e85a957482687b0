/- Own facts, put together: no statement of its own. -/
import Derived.BigQuiet
import Derived.Test.YtipdclphpkgceaaGreatDoorS28
import Derived.Deep.RegionHeld
set_option maxHeartbeats 4000000
set_option maxRecDepth 100000

namespace Go.Proofs.YtipdclphpkgceaaGreatDoor
open Go.RowKit
theorem tidyOf_ok (a:Option Addr) (cap:Nat) (ls:List (Int × Int)) (w:World) (hl:Lies w a ls) (hn:ls.length ≤ 500) (hok:okAll ls) :
  Calls Tryz.prog 88 #[.slice a ls.length cap] w fun e w'=>∃ v R,e=.returned v ∧ KeptTo ls ls.length R ∧ OwnL w' w.heap.size v R ∧ Below w.heap.size w w':=by
 have HL:Hid (Lies w a ls):=hl
 have HOK:Hid (okAll ls):=hok
 obtain ⟨i0,hi,hz0,hz1,hz2⟩:=info_parts Tryz.infoLine
 clear hl hok
 go_enter Tryz.func88,Tryz.ntmps88
 go_wp2_with fail
 go_loopg [3,4] ls.length (fun gk v j wr=>∃ (i:Nat) (R:List (Int × Int)),gk+i=ls.length ∧ j=.int .i64 i ∧ KeptTo ls i R ∧ OwnL wr w.heap.size v R ∧ Below w.heap.size w wr)
 case atStart=>exact ⟨0,[],rfl,rfl,kept_none _,World.ownsRow_nil _ _ _ _,Below.refl _ _⟩
 case round=>
  obtain ⟨i,R,hgk,rfl,hkept,hown,hbr⟩:=hrel
  have HBR:Hid (Below w.heap.size w wr):=hbr
  have HK:Hid (KeptTo ls i R):=hkept
  have hRl:R.length ≤ i:=hkept.len
  have HOW:Hid (OwnL wr w.heap.size u3 R):=hown
  obtain ⟨a0,n0,k0,rfl⟩:∃ a0 n0 k0,u3=.slice a0 n0 k0:=by obtain ⟨a,c,e,_⟩:=hown.open;exact ⟨_,_,_,e⟩
  by_cases hin:i < ls.length
  ·
   obtain ⟨⟨x,y⟩,hp,hmem⟩:=get_some ls i hin
   obtain ⟨b,off,rfl,hlt,hc⟩:=HL.out.some (by omega)
   have HP:Hid (ls[i]? = some (x,y)):=hp
   have HLr:Hid (Lies wr (some ⟨b,off,none⟩) ls):=HL.out.below hbr
   have HC:Hid (w.cell? ⟨b,off+i * 2,none⟩=some (.int .i64 x) ∧ w.cell? ⟨b,off+i * 2+1,none⟩=some (.int .i64 y)):=hc i x y hp
   clear hkept hown hbr hp hmem hc
   go_wp2_with fail
   refine (somewhere_ok (some ⟨b,off,none⟩) cap i ls x y _ HLr.out HP.out (by omega) HOK.out).mono ?_
   rintro e w1 ⟨v,rfl,hv,hb1⟩
   have HV:Hid (v=true ↔ KeptAt ls i (x,y)):=hv
   have HB1:Hid (Below w.heap.size w w1):=HBR.out.trans (hb1.mono HBR.out.size)
   have HOW1:Hid (OwnL w1 w.heap.size (.slice a0 n0 k0) R):=HOW.out.later hb1
   clear hv hb1
   cases v with
   | false=>
    go_wp2_with fail
    go_roundg (gk - 1)
    case measure=>omega
    case rel=>exact ⟨i+1,R,by omega,by go_num,kept_skip HK.out HP.out (fun h=>by have:=HV.out.2 h;cases this),HOW1.out,HB1.out⟩
   | true=>
    have HKA:Hid (KeptAt ls i (x,y)):=HV.out.1 rfl
    have e1:w1.cell? ⟨b,off+i * 2,none⟩=some (.int .i64 x):=cell_later HB1.out HC.out.1
    have e2:w1.cell? ⟨b,off+i * 2+1,none⟩=some (.int .i64 y):=cell_later HB1.out HC.out.2
    have ho:=HOW1.out
    obtain ⟨hlen,⟨hnil,h0⟩ | ⟨g,cap',cur,hvv,hBg,hg,hnc,hcm,hcs,htk⟩⟩:=ho
    ·
     cases hnil
     obtain rfl:R=[]:=List.length_eq_zero_iff.1 h0
     clear hlen h0
     have hd0:decide ((0:Int) < 0)=false:=by decide
     go_wp2_with fail
     refine wp_loop_rounds 1 ?_
     rw [rounds_succ]
     go_wp2_with fail
     go_quiet (fail)
     have HBW:Hid (Below w.heap.size w (w1.drewN nq)):=below_drewN HB1.out _
     have f1:(w1.drewN nq).cell? ⟨b,off+i * 2,none⟩=some (.int .i64 x):=cell_later HBW.out HC.out.1
     have f2:(w1.drewN nq).cell? ⟨b,off+i * 2+1,none⟩=some (.int .i64 y):=cell_later HBW.out HC.out.2
     clear e1 e2 HOW1 HB1 HOW HBR HLr
     generalize w1.drewN nq=W at *
     have HNW:Hid (∀ j u,[Value.int .i64 x,.int .i64 y][j]? = some u → (W.alloc (.cells #[.int .i64 x,.int .i64 y] 83)).cell? ((⟨W.heap.size,0,none⟩:Addr).add j)=some u):=news_newT W x y
     go_wp2_with (at_builtin;refine wpList_append_own_at _ rfl _ _ 62 rfl w.heap.size 83 i0 (.agg #[.int .i64 0,.int .i64 0]) 2 16 Tryz.underlying62 hi hz0 hz1 hz2 rfl (by decide) (.slice none 0 0) 0 [] rfl (World.ownsRow_nil _ _ _ _) ⟨W.heap.size,0,none⟩ 1 1 [.int .i64 x,.int .i64 y] rfl rfl HNW.out (ints_oneT _ _) (by unfold maxLen;omega) (by omega) (Nat.le_trans HBW.out.size (by simp)) ?_;intro v3 w3 hown3 hgrow3 _ hat3;obtain ⟨g3,c3,rfl,hc3,hg3⟩:=own_lines_some hown3 (by omega);have qn3:=fun w ty=>Tryz.appendNone w ty g3 (0+1) c3 hc3)
     go_roundg (gk - 1)
     case measure=>omega
     case rel=>exact ⟨i+1,[(x,y)],by omega,by go_num,kept_put (k:=0) HK.out HP.out HKA.out (fun j _ hj=>absurd hj (Nat.not_lt_zero _)) (fun _ h=>by simp at h),hown3,OwnL.grownT (ls:=[]) (HBW.out.alloc HBW.out.size _) (World.ownsRow_nil _ _ _ _) hgrow3⟩
    ·
     cases hvv
     have HLR:Hid (Lies w1 (some ⟨g,0,none⟩) R):=(OwnL.lies HOW1.out).2.2.2
     have hgl:g < w1.heap.size:=by
      rcases Nat.lt_or_ge g w1.heap.size with h | h
      · exact h
      · simp [Array.getElem?_eq_none h] at hg
     unfold maxLen at hcm
     clear hlen hBg hg hcs htk HOW HBR HLr
     go_wp2_with fail
     obtain ⟨GK,rfl⟩:∃ z,z=gk:=⟨gk,rfl⟩
     clear wr
     go_loopg [6] R.length (fun gi kk wr2=>∃ k:Nat,gi+k=R.length ∧ kk=.int .i64 k ∧ (∀ j p,j < k → R[j]? = some p → y < p.2) ∧ Below w1.heap.size w1 wr2)
     case atStart=>exact ⟨0,rfl,rfl,fun j p h=>absurd h (Nat.not_lt_zero _),Below.refl _ _⟩
     case round=>
      obtain ⟨k,hgi,rfl,hup,hb2⟩:=hrel
      have HUP:Hid (∀ j p,j < k → R[j]? = some p → y < p.2):=hup
      have HB2:Hid (Below w1.heap.size w1 wr):=hb2
      have e3:wr.cell? ⟨b,off+i * 2,none⟩=some (.int .i64 x):=cell_later hb2 e1
      have e4:wr.cell? ⟨b,off+i * 2+1,none⟩=some (.int .i64 y):=cell_later hb2 e2
      clear hup hb2
      by_cases hkR:k < R.length
      ·
       obtain ⟨⟨x',y'⟩,hp',hm'⟩:=get_some R k hkR
       obtain ⟨_,_,eg,-,hcg⟩:=HLR.out.some (by omega)
       cases eg
       have d2:wr.cell? ⟨g,0+k * 2+1,none⟩=some (.int .i64 y'):=cell_later HB2.out (hcg k x' y' hp').2
       have HP':Hid (R[k]? = some (x',y')):=hp'
       rw [Nat.zero_add] at d2
       clear hcg hp' hm'
       by_cases hyy:y < y'
       ·
        go_wp2_with fail
        go_quiet (fail)
        go_wp2_with fail
        go_roundg (gk - 1)
        case measure=>omega
        case rel=>exact ⟨k+1,by omega,by go_num,fun j p hj he=>(by
         rcases Nat.lt_or_ge j k with h | h
         · exact HUP.out j p h he
         ·
          obtain rfl:j=k:=by omega
          rw [HP'.out] at he
          cases he
          exact hyy),below_drewN HB2.out _⟩
       ·
        go_wp2_with fail
        go_quiet (fail)
        have HBW:Hid (Below w.heap.size w (wr.drewN nq)):=below_drewN (HB1.out.trans (HB2.out.mono HB1.out.size)) _
        have f1:(wr.drewN nq).cell? ⟨b,off+i * 2,none⟩=some (.int .i64 x):=cell_later HBW.out HC.out.1
        have f2:(wr.drewN nq).cell? ⟨b,off+i * 2+1,none⟩=some (.int .i64 y):=cell_later HBW.out HC.out.2
        have HLW:Hid (Lies (wr.drewN nq) (some ⟨g,0,none⟩) R):=HLR.out.below (below_drewN HB2.out _)
        have hgW:g < (wr.drewN nq).heap.size:=by have:=HB2.out.size;simp;omega
        have hbW:b < (wr.drewN nq).heap.size:=cell_lt f1
        clear HB2 e3 e4
        generalize wr.drewN nq=W at *
        have HT1:Hid (∀ j u,(cellsL (R.take k))[j]? = some u → W.cell? ((⟨g,0,none⟩:Addr).add j)=some u):=lies_news (HLW.out.take k)
        have HT2:Hid ((cellsL (R.take k)).length=k * 2):=cells_take (by omega)
        have HT3:Hid (∀ u ∈ cellsL (R.take k),u.oneCell'=true):=cellsL_one _
        have HD2:Hid ((cellsL (R.drop k)).length=(R.length - k) * 2):=cells_drop R k
        have HD3:Hid (∀ u ∈ cellsL (R.drop k),u.oneCell'=true):=cellsL_one _
        have HWB:Hid (w.heap.size ≤ W.heap.size):=HBW.out.size
        go_wp2_with (first
         | (at_builtin;refine wpList_append_own_at _ rfl _ _ 62 rfl w.heap.size 83 i0 (.agg #[.int .i64 0,.int .i64 0]) 2 16 Tryz.underlying62 hi hz0 hz1 hz2 rfl (by decide) (.slice none 0 0) 0 [] rfl (World.ownsRow_nil _ _ _ _) ⟨g,0,none⟩ k k0 (cellsL (R.take k)) rfl HT2.out HT1.out HT3.out (by unfold maxLen;omega) (by omega) HWB.out ?_;intro v3 w3 hown3 hgrow3 _ hat3;simp only [Nat.zero_add,List.nil_append] at hown3;obtain ⟨a3,n3,k3,rfl⟩:∃ a0 n0 k0,v3=.slice a0 n0 k0:=by (obtain ⟨_,⟨h,_⟩ | ⟨_,_,_,h,_⟩⟩:=hown3 <;> exact ⟨_,_,_,h⟩)
            have HOW3:Hid (w3.ownsRow w.heap.size 83 2 (.slice a3 n3 k3) k (cellsL (R.take k))):=hown3
            have HB3:Hid (Below w.heap.size w w3):=OwnL.grownT (ls:=[]) HBW.out (World.ownsRow_nil _ _ _ _) hgrow3
            have HL3:Hid (Lies w3 (some ⟨g,0,none⟩) R):=lies_grown HLW.out hgrow3 (fun e=>by cases e)
            have f3:w3.cell? ⟨b,off+i * 2,none⟩=some (.int .i64 x):=hgrow3.cell f1 (fun e=>by cases e)
            have f4:w3.cell? ⟨b,off+i * 2+1,none⟩=some (.int .i64 y):=hgrow3.cell f2 (fun e=>by cases e)
            have HNE3:Hid ((Value.slice a3 n3 k3).ownBlock ≠ some g):=(show _ ≠ _ from fun e=>by rcases hat3 with h | h <;> rw [h] at e <;> cases e;omega)
            have HNW:Hid (∀ j u,[Value.int .i64 x,.int .i64 y][j]? = some u → (w3.alloc (.cells #[.int .i64 x,.int .i64 y] 83)).cell? ((⟨w3.heap.size,0,none⟩:Addr).add j)=some u):=news_newT w3 x y
            have hs3:=hgrow3.size
            clear hown3 hgrow3 hat3 f1 f2)
         | (at_builtin;refine wpList_append_own_at _ rfl _ _ 62 rfl w.heap.size 83 i0 (.agg #[.int .i64 0,.int .i64 0]) 2 16 Tryz.underlying62 hi hz0 hz1 hz2 rfl (by decide) (.slice a3 n3 k3) k (cellsL (R.take k)) rfl (HOW3.out.alloc _) ⟨w3.heap.size,0,none⟩ 1 1 [.int .i64 x,.int .i64 y] rfl rfl HNW.out (ints_oneT _ _) (by unfold maxLen;omega) (by omega) (Nat.le_trans HB3.out.size (by simp)) ?_;intro v5 w5 hown5 hgrow5 _ hat5;obtain ⟨g5,c5,rfl,hc5,hg5⟩:=own_lines_some hown5 (by omega)
            have HOW5:Hid (w5.ownsRow w.heap.size 83 2 (.slice (some ⟨g5,0,none⟩) (k+1) c5) (k+1) (cellsL (R.take k) ++ [.int .i64 x,.int .i64 y])):=hown5
            have HB5:Hid (Below w.heap.size w w5):=OwnL.grownR (HB3.out.alloc HB3.out.size _) (HOW3.out.alloc _) hgrow5
            have HL5:Hid (Lies w5 (some ⟨g,0,none⟩) R):=lies_grown (HL3.out.below ((Below.refl _ _).alloc (Nat.le_refl _) _)) hgrow5 HNE3.out
            have HD1:Hid (∀ j u,(cellsL (R.drop k))[j]? = some u → w5.cell? ((⟨g,k * 2,none⟩:Addr).add j)=some u):=lies_news (show Lies w5 (some ⟨g,k * 2,none⟩) (R.drop k) from by have:=HL5.out.drop k;rwa [Nat.zero_add] at this)
            clear hown5 hgrow5 hat5)
         | (at_builtin;refine wpList_append_own_at _ rfl _ _ 62 rfl w.heap.size 83 i0 (.agg #[.int .i64 0,.int .i64 0]) 2 16 Tryz.underlying62 hi hz0 hz1 hz2 rfl (by decide) (.slice (some ⟨g5,0,none⟩) (k+1) c5) (k+1) (cellsL (R.take k) ++ [.int .i64 x,.int .i64 y]) rfl HOW5.out ⟨g,k * 2,none⟩ (R.length - k) (k0 - k) (cellsL (R.drop k)) rfl HD2.out HD1.out HD3.out (by unfold maxLen;omega) (by omega) HB5.out.size ?_;intro v6 w6 hown6 hgrow6 _ hat6
            obtain ⟨g6,c6,rfl,hc6,hg6⟩:=own_lines_some hown6 (by omega)
            have HOW6:Hid (w6.ownsRow w.heap.size 83 2 (.slice (some ⟨g6,0,none⟩) (k+1+(R.length - k)) c6) (k+1+(R.length - k)) (cellsL (R.take k) ++ [.int .i64 x,.int .i64 y] ++ cellsL (R.drop k))):=hown6
            have HB6:Hid (Below w.heap.size w w6):=OwnL.grownR HB5.out HOW5.out hgrow6
            clear hown6 hgrow6 hat6))
        go_roundg (GK - 1)
        case measure=>omega
        case rel=>exact ⟨i+1,R.take k ++ (x,y) :: R.drop k,by omega,by go_num,kept_put HK.out HP.out HKA.out HUP.out (fun p h=>by rw [HP'.out] at h;cases h;show ¬ y < y';omega),own_put (by omega) HOW6.out,HB6.out⟩
      ·
       by_cases hk0:k < k0
       ·
        go_wp2_with fail
        go_quiet (fail)
        have HBW:Hid (Below w.heap.size w (wr.drewN nq)):=below_drewN (HB1.out.trans (HB2.out.mono HB1.out.size)) _
        have f1:(wr.drewN nq).cell? ⟨b,off+i * 2,none⟩=some (.int .i64 x):=cell_later HBW.out HC.out.1
        have f2:(wr.drewN nq).cell? ⟨b,off+i * 2+1,none⟩=some (.int .i64 y):=cell_later HBW.out HC.out.2
        have HLW:Hid (Lies (wr.drewN nq) (some ⟨g,0,none⟩) R):=HLR.out.below (below_drewN HB2.out _)
        have hgW:g < (wr.drewN nq).heap.size:=by have:=HB2.out.size;simp;omega
        have hbW:b < (wr.drewN nq).heap.size:=cell_lt f1
        clear HB2 e3 e4
        generalize wr.drewN nq=W at *
        have HT1:Hid (∀ j u,(cellsL (R.take k))[j]? = some u → W.cell? ((⟨g,0,none⟩:Addr).add j)=some u):=lies_news (HLW.out.take k)
        have HT2:Hid ((cellsL (R.take k)).length=k * 2):=cells_take (by omega)
        have HT3:Hid (∀ u ∈ cellsL (R.take k),u.oneCell'=true):=cellsL_one _
        have HD2:Hid ((cellsL (R.drop k)).length=(R.length - k) * 2):=cells_drop R k
        have HD3:Hid (∀ u ∈ cellsL (R.drop k),u.oneCell'=true):=cellsL_one _
        have HWB:Hid (w.heap.size ≤ W.heap.size):=HBW.out.size
        go_wp2_with (first
         | (at_builtin;refine wpList_append_own_at _ rfl _ _ 62 rfl w.heap.size 83 i0 (.agg #[.int .i64 0,.int .i64 0]) 2 16 Tryz.underlying62 hi hz0 hz1 hz2 rfl (by decide) (.slice none 0 0) 0 [] rfl (World.ownsRow_nil _ _ _ _) ⟨g,0,none⟩ k k0 (cellsL (R.take k)) rfl HT2.out HT1.out HT3.out (by unfold maxLen;omega) (by omega) HWB.out ?_;intro v3 w3 hown3 hgrow3 _ hat3;simp only [Nat.zero_add,List.nil_append] at hown3;obtain ⟨a3,n3,k3,rfl⟩:∃ a0 n0 k0,v3=.slice a0 n0 k0:=by (obtain ⟨_,⟨h,_⟩ | ⟨_,_,_,h,_⟩⟩:=hown3 <;> exact ⟨_,_,_,h⟩)
            have HOW3:Hid (w3.ownsRow w.heap.size 83 2 (.slice a3 n3 k3) k (cellsL (R.take k))):=hown3
            have HB3:Hid (Below w.heap.size w w3):=OwnL.grownT (ls:=[]) HBW.out (World.ownsRow_nil _ _ _ _) hgrow3
            have HL3:Hid (Lies w3 (some ⟨g,0,none⟩) R):=lies_grown HLW.out hgrow3 (fun e=>by cases e)
            have f3:w3.cell? ⟨b,off+i * 2,none⟩=some (.int .i64 x):=hgrow3.cell f1 (fun e=>by cases e)
            have f4:w3.cell? ⟨b,off+i * 2+1,none⟩=some (.int .i64 y):=hgrow3.cell f2 (fun e=>by cases e)
            have HNE3:Hid ((Value.slice a3 n3 k3).ownBlock ≠ some g):=(show _ ≠ _ from fun e=>by rcases hat3 with h | h <;> rw [h] at e <;> cases e;omega)
            have HNW:Hid (∀ j u,[Value.int .i64 x,.int .i64 y][j]? = some u → (w3.alloc (.cells #[.int .i64 x,.int .i64 y] 83)).cell? ((⟨w3.heap.size,0,none⟩:Addr).add j)=some u):=news_newT w3 x y
            have hs3:=hgrow3.size
            clear hown3 hgrow3 hat3 f1 f2)
         | (at_builtin;refine wpList_append_own_at _ rfl _ _ 62 rfl w.heap.size 83 i0 (.agg #[.int .i64 0,.int .i64 0]) 2 16 Tryz.underlying62 hi hz0 hz1 hz2 rfl (by decide) (.slice a3 n3 k3) k (cellsL (R.take k)) rfl (HOW3.out.alloc _) ⟨w3.heap.size,0,none⟩ 1 1 [.int .i64 x,.int .i64 y] rfl rfl HNW.out (ints_oneT _ _) (by unfold maxLen;omega) (by omega) (Nat.le_trans HB3.out.size (by simp)) ?_;intro v5 w5 hown5 hgrow5 _ hat5;obtain ⟨g5,c5,rfl,hc5,hg5⟩:=own_lines_some hown5 (by omega)
            have HOW5:Hid (w5.ownsRow w.heap.size 83 2 (.slice (some ⟨g5,0,none⟩) (k+1) c5) (k+1) (cellsL (R.take k) ++ [.int .i64 x,.int .i64 y])):=hown5
            have HB5:Hid (Below w.heap.size w w5):=OwnL.grownR (HB3.out.alloc HB3.out.size _) (HOW3.out.alloc _) hgrow5
            have HL5:Hid (Lies w5 (some ⟨g,0,none⟩) R):=lies_grown (HL3.out.below ((Below.refl _ _).alloc (Nat.le_refl _) _)) hgrow5 HNE3.out
            have HD1:Hid (∀ j u,(cellsL (R.drop k))[j]? = some u → w5.cell? ((⟨g,k * 2,none⟩:Addr).add j)=some u):=lies_news (show Lies w5 (some ⟨g,k * 2,none⟩) (R.drop k) from by have:=HL5.out.drop k;rwa [Nat.zero_add] at this)
            clear hown5 hgrow5 hat5)
         | (at_builtin;refine wpList_append_own_at _ rfl _ _ 62 rfl w.heap.size 83 i0 (.agg #[.int .i64 0,.int .i64 0]) 2 16 Tryz.underlying62 hi hz0 hz1 hz2 rfl (by decide) (.slice (some ⟨g5,0,none⟩) (k+1) c5) (k+1) (cellsL (R.take k) ++ [.int .i64 x,.int .i64 y]) rfl HOW5.out ⟨g,k * 2,none⟩ (R.length - k) (k0 - k) (cellsL (R.drop k)) rfl HD2.out HD1.out HD3.out (by unfold maxLen;omega) (by omega) HB5.out.size ?_;intro v6 w6 hown6 hgrow6 _ hat6
            obtain ⟨g6,c6,rfl,hc6,hg6⟩:=own_lines_some hown6 (by omega)
            have HOW6:Hid (w6.ownsRow w.heap.size 83 2 (.slice (some ⟨g6,0,none⟩) (k+1+(R.length - k)) c6) (k+1+(R.length - k)) (cellsL (R.take k) ++ [.int .i64 x,.int .i64 y] ++ cellsL (R.drop k))):=hown6
            have HB6:Hid (Below w.heap.size w w6):=OwnL.grownR HB5.out HOW5.out hgrow6
            clear hown6 hgrow6 hat6))
        go_roundg (GK - 1)
        case measure=>omega
        case rel=>exact ⟨i+1,R.take k ++ (x,y) :: R.drop k,by omega,by go_num,kept_put HK.out HP.out HKA.out HUP.out (fun p h=>by rw [List.getElem?_eq_none (by omega)] at h;cases h),own_put (by omega) HOW6.out,HB6.out⟩
       ·
        have hkk:k=k0:=by omega
        subst hkk
        clear hk0
        go_wp2_with fail
        go_quiet (fail)
        have HBW:Hid (Below w.heap.size w (wr.drewN nq)):=below_drewN (HB1.out.trans (HB2.out.mono HB1.out.size)) _
        have f1:(wr.drewN nq).cell? ⟨b,off+i * 2,none⟩=some (.int .i64 x):=cell_later HBW.out HC.out.1
        have f2:(wr.drewN nq).cell? ⟨b,off+i * 2+1,none⟩=some (.int .i64 y):=cell_later HBW.out HC.out.2
        have HLW:Hid (Lies (wr.drewN nq) (some ⟨g,0,none⟩) R):=HLR.out.below (below_drewN HB2.out _)
        have hgW:g < (wr.drewN nq).heap.size:=by have:=HB2.out.size;simp;omega
        have hbW:b < (wr.drewN nq).heap.size:=cell_lt f1
        clear HB2 e3 e4
        generalize wr.drewN nq=W at *
        have HT1:Hid (∀ j u,(cellsL (R.take k))[j]? = some u → W.cell? ((⟨g,0,none⟩:Addr).add j)=some u):=lies_news (HLW.out.take k)
        have HT2:Hid ((cellsL (R.take k)).length=k * 2):=cells_take (by omega)
        have HT3:Hid (∀ u ∈ cellsL (R.take k),u.oneCell'=true):=cellsL_one _
        have HD2:Hid ((cellsL (R.drop k)).length=(R.length - k) * 2):=cells_drop R k
        have HD3:Hid (∀ u ∈ cellsL (R.drop k),u.oneCell'=true):=cellsL_one _
        have HWB:Hid (w.heap.size ≤ W.heap.size):=HBW.out.size
        go_wp2_with (first
         | (at_builtin;refine wpList_append_own_at _ rfl _ _ 62 rfl w.heap.size 83 i0 (.agg #[.int .i64 0,.int .i64 0]) 2 16 Tryz.underlying62 hi hz0 hz1 hz2 rfl (by decide) (.slice none 0 0) 0 [] rfl (World.ownsRow_nil _ _ _ _) ⟨g,0,none⟩ k k (cellsL (R.take k)) rfl HT2.out HT1.out HT3.out (by unfold maxLen;omega) (by omega) HWB.out ?_;intro v3 w3 hown3 hgrow3 _ hat3;simp only [Nat.zero_add,List.nil_append] at hown3;obtain ⟨a3,n3,k3,rfl⟩:∃ a0 n0 k0,v3=.slice a0 n0 k0:=by (obtain ⟨_,⟨h,_⟩ | ⟨_,_,_,h,_⟩⟩:=hown3 <;> exact ⟨_,_,_,h⟩)
            have HOW3:Hid (w3.ownsRow w.heap.size 83 2 (.slice a3 n3 k3) k (cellsL (R.take k))):=hown3
            have HB3:Hid (Below w.heap.size w w3):=OwnL.grownT (ls:=[]) HBW.out (World.ownsRow_nil _ _ _ _) hgrow3
            have HL3:Hid (Lies w3 (some ⟨g,0,none⟩) R):=lies_grown HLW.out hgrow3 (fun e=>by cases e)
            have f3:w3.cell? ⟨b,off+i * 2,none⟩=some (.int .i64 x):=hgrow3.cell f1 (fun e=>by cases e)
            have f4:w3.cell? ⟨b,off+i * 2+1,none⟩=some (.int .i64 y):=hgrow3.cell f2 (fun e=>by cases e)
            have HNE3:Hid ((Value.slice a3 n3 k3).ownBlock ≠ some g):=(show _ ≠ _ from fun e=>by rcases hat3 with h | h <;> rw [h] at e <;> cases e;omega)
            have HNW:Hid (∀ j u,[Value.int .i64 x,.int .i64 y][j]? = some u → (w3.alloc (.cells #[.int .i64 x,.int .i64 y] 83)).cell? ((⟨w3.heap.size,0,none⟩:Addr).add j)=some u):=news_newT w3 x y
            have hs3:=hgrow3.size
            clear hown3 hgrow3 hat3 f1 f2)
         | (at_builtin;refine wpList_append_own_at _ rfl _ _ 62 rfl w.heap.size 83 i0 (.agg #[.int .i64 0,.int .i64 0]) 2 16 Tryz.underlying62 hi hz0 hz1 hz2 rfl (by decide) (.slice a3 n3 k3) k (cellsL (R.take k)) rfl (HOW3.out.alloc _) ⟨w3.heap.size,0,none⟩ 1 1 [.int .i64 x,.int .i64 y] rfl rfl HNW.out (ints_oneT _ _) (by unfold maxLen;omega) (by omega) (Nat.le_trans HB3.out.size (by simp)) ?_;intro v5 w5 hown5 hgrow5 _ hat5;obtain ⟨g5,c5,rfl,hc5,hg5⟩:=own_lines_some hown5 (by omega)
            have HOW5:Hid (w5.ownsRow w.heap.size 83 2 (.slice (some ⟨g5,0,none⟩) (k+1) c5) (k+1) (cellsL (R.take k) ++ [.int .i64 x,.int .i64 y])):=hown5
            have HB5:Hid (Below w.heap.size w w5):=OwnL.grownR (HB3.out.alloc HB3.out.size _) (HOW3.out.alloc _) hgrow5
            have HL5:Hid (Lies w5 (some ⟨g,0,none⟩) R):=lies_grown (HL3.out.below ((Below.refl _ _).alloc (Nat.le_refl _) _)) hgrow5 HNE3.out
            have HD1:Hid (∀ j u,(cellsL (R.drop k))[j]? = some u → w5.cell? ((⟨g,0,none⟩:Addr).add j)=some u):=fun j u h=>by rw [List.drop_eq_nil_of_le (by omega)] at h;cases h
            clear hown5 hgrow5 hat5)
         | (at_builtin;refine wpList_append_own_at _ rfl _ _ 62 rfl w.heap.size 83 i0 (.agg #[.int .i64 0,.int .i64 0]) 2 16 Tryz.underlying62 hi hz0 hz1 hz2 rfl (by decide) (.slice (some ⟨g5,0,none⟩) (k+1) c5) (k+1) (cellsL (R.take k) ++ [.int .i64 x,.int .i64 y]) rfl HOW5.out ⟨g,0,none⟩ (R.length - k) _ (cellsL (R.drop k)) rfl HD2.out HD1.out HD3.out (by unfold maxLen;omega) (by omega) HB5.out.size ?_;intro v6 w6 hown6 hgrow6 _ hat6
            obtain ⟨g6,c6,rfl,hc6,hg6⟩:=own_lines_some hown6 (by omega)
            have HOW6:Hid (w6.ownsRow w.heap.size 83 2 (.slice (some ⟨g6,0,none⟩) (k+1+(R.length - k)) c6) (k+1+(R.length - k)) (cellsL (R.take k) ++ [.int .i64 x,.int .i64 y] ++ cellsL (R.drop k))):=hown6
            have HB6:Hid (Below w.heap.size w w6):=OwnL.grownR HB5.out HOW5.out hgrow6
            clear hown6 hgrow6 hat6))
        go_roundg (GK - 1)
        case measure=>omega
        case rel=>exact ⟨i+1,R.take k ++ (x,y) :: R.drop k,by omega,by go_num,kept_put HK.out HP.out HKA.out HUP.out (fun p h=>by rw [List.getElem?_eq_none (by omega)] at h;cases h),own_put (k:=k) (by omega) (by rw [show k+1+(R.length - k)=k+1 by omega,List.drop_eq_nil_of_le (show R.length ≤ k by omega)];have:=HOW5.out;simpa [cellsL] using this),HB5.out⟩
  ·
   have hi':i=ls.length:=by omega
   subst hi'
   clear hown hbr hkept
   go_wp2_with fail
   go_ret
   exact ⟨_,R,rfl,HK.out,HOW.out,HBR.out⟩
def SumOfIs (la lb:List (Int × Int)) (w w':World) (e:Ending):Prop:=
 Below w.heap.size w w' ∧ ((¬ okAll (eachL la lb) ∧ e=.returned (.tuple #[.slice none 0 0,.int .i64 2])) ∨
  (okAll (eachL la lb) ∧ ∃ R,KeptTo (eachL la lb) (eachL la lb).length R ∧
   ((6 < R.length ∧ e=.returned (.tuple #[.slice none 0 0,.int .i64 3])) ∨ (R.length ≤ 6 ∧ ∃ v,e=.returned (.tuple #[v,.int .i64 0]) ∧ OwnL w' w.heap.size v R))))
theorem okAll_snoc {T:List (Int × Int)} {z:Int × Int} (h:okAll T) (hz:okLine z.1 z.2=true):okAll (T ++ [z]):=fun p hp=>by
 rcases List.mem_append.1 hp with hp | hp
 · exact h p hp
 · rw [List.mem_singleton.1 hp];exact hz
theorem each_in {la lb:List (Int × Int)} {x y:Int × Int} (hx:x ∈ la) (hy:y ∈ lb):(x.1+y.1,x.2+y.2) ∈ eachL la lb:=by
 simp only [eachL,rowL,List.mem_flatMap,List.mem_map]
 exact ⟨x,hx,y,hy,rfl⟩
theorem sumOf_ok (a1 a2:Option Addr) (cap1 cap2:Nat) (la lb:List (Int × Int)) (w:World) (h1:Lies w a1 la) (h2:Lies w a2 lb) (n1:la.length ≤ 6) (n2:lb.length ≤ 6) (k1:okAll la) (k2:okAll lb) :
  Calls Tryz.prog 58 #[.slice a1 la.length cap1,.slice a2 lb.length cap2] w fun e w'=>SumOfIs la lb w w' e:=by
 have HA:Hid (Lies w a1 la):=h1
 have HB:Hid (Lies w a2 lb):=h2
 have KA:Hid (okAll la):=k1
 have KB:Hid (okAll lb):=k2
 obtain ⟨i0,hi,hz0,hz1,hz2⟩:=info_parts Tryz.infoLine
 clear h1 h2 k1 k2
 go_enter Tryz.func58,Tryz.ntmps58
 go_wp2_with fail
 go_loopg [6,7] la.length (fun gk v i wr=>∃ k:Nat,gk+k=la.length ∧ i=.int .i64 k ∧ OwnL wr w.heap.size v (eachL (la.take k) lb) ∧ okAll (eachL (la.take k) lb) ∧ Below w.heap.size w wr)
 case atStart=>exact ⟨0,rfl,rfl,World.ownsRow_nil _ _ _ _,fun p hp=>by simp [eachL] at hp,Below.refl _ _⟩
 case round=>
  obtain ⟨k,hgk,rfl,hown,hokT,hbr⟩:=hrel
  have HBR:Hid (Below w.heap.size w wr):=hbr
  obtain ⟨a0,n0,k0,rfl⟩:∃ a0 n0 k0,u6=.slice a0 n0 k0:=by obtain ⟨a,c,e,_⟩:=hown.open;exact ⟨_,_,_,e⟩
  by_cases hkn:k < la.length
  ·
   obtain ⟨⟨x,y⟩,hp,hmem⟩:=get_some la k hkn
   obtain ⟨b,off,rfl,hlt,hc⟩:=HA.out.some (by omega)
   have HC:Hid (w.cell? ⟨b,off+k * 2,none⟩=some (.int .i64 x) ∧ w.cell? ⟨b,off+k * 2+1,none⟩=some (.int .i64 y)):=hc k x y hp
   obtain ⟨q1,q2,q3,q4⟩:=okLine_true (KA.out _ hmem)
   simp only [] at q1 q2 q3 q4
   have HMA:Hid ((x,y) ∈ la):=hmem
   have hts:la.take (k+1)=la.take k ++ [(x,y)]:=by rw [List.take_add_one,hp];rfl
   have HS:Hid (eachL (la.take (k+1)) lb=eachL (la.take k) lb ++ rowL (x,y) lb):=by show _=_;rw [hts];exact eachL_snoc _ _ _
   have hTlen:(eachL (la.take k) lb).length ≤ 36:=by
    rw [eachL_length,List.length_take]
    exact Nat.le_trans (Nat.mul_le_mul (show min k la.length ≤ 6 by omega) n2) (by decide)
   generalize eachL (la.take k) lb=T0 at *
   have HOW0:Hid (OwnL wr w.heap.size (.slice a0 n0 k0) T0 ∧ okAll T0):=⟨hown,hokT⟩
   clear hc hp hmem hts hown hbr hokT
   go_wp2_with fail
   obtain ⟨GK,rfl⟩:∃ z,z=gk:=⟨gk,rfl⟩
   obtain ⟨wO,rfl⟩:∃ z,z=wr:=⟨wr,rfl⟩
   go_loopg [6,8] lb.length (fun gi v i wr2=>∃ j:Nat,gi+j=lb.length ∧ i=.int .i64 j ∧ OwnL wr2 w.heap.size v (T0 ++ rowL (x,y) (lb.take j)) ∧ okAll (T0 ++ rowL (x,y) (lb.take j)) ∧ Below w.heap.size w wr2)
   case atStart=>exact ⟨0,rfl,rfl,by have:=HOW0.out.1;simpa [rowL] using this,by have:=HOW0.out.2;simpa [rowL] using this,HBR.out⟩
   case round=>
    obtain ⟨j,hgi,rfl,hown2,hok2,hb2⟩:=hrel
    have HB2:Hid (Below w.heap.size w wr):=hb2
    by_cases hjn:j < lb.length
    ·
     obtain ⟨⟨x',y'⟩,hp,hmem⟩:=get_some lb j hjn
     obtain ⟨b',off',rfl,hlt',hc⟩:=HB.out.some (by omega)
     have d1:wr.cell? ⟨b,off+k * 2,none⟩=some (.int .i64 x):=cell_later hb2 HC.out.1
     have d2:wr.cell? ⟨b,off+k * 2+1,none⟩=some (.int .i64 y):=cell_later hb2 HC.out.2
     have e1:=cell_later hb2 (hc j x' y' hp).1
     have e2:=cell_later hb2 (hc j x' y' hp).2
     obtain ⟨r1,r2,r3,r4⟩:=okLine_true (KB.out _ hmem)
     simp only [] at r1 r2 r3 r4
     have HIN:Hid ((x+x',y+y') ∈ eachL la lb):=each_in HMA.out hmem
     have hts:lb.take (j+1)=lb.take j ++ [(x',y')]:=by rw [List.take_add_one,hp];rfl
     have HSJ:Hid (T0 ++ rowL (x,y) (lb.take (j+1))=(T0 ++ rowL (x,y) (lb.take j)) ++ [(x+x',y+y')]):=by show _=_;rw [hts,rowL_snoc,List.append_assoc]
     have hT1:(T0 ++ rowL (x,y) (lb.take j)).length ≤ 42:=by simp [rowL];omega
     generalize T0 ++ rowL (x,y) (lb.take j)=T1 at *
     obtain ⟨a3,n3,k3,rfl⟩:∃ a3 n3 k3,u6=.slice a3 n3 k3:=by obtain ⟨a,c,e,_⟩:=hown2.open;exact ⟨_,_,_,e⟩
     have HOWr:Hid (wr.ownsRow w.heap.size 83 2 (.slice a3 n3 k3) T1.length (cellsL T1)):=hown2
     have HOK1:Hid (okAll T1):=hok2
     clear hc hp hmem hts hown2 hb2 hok2
     go_wp2_with fail
     go_region_held (fun w'=>w'.cell? ⟨b,off+k * 2,none⟩=some (.int .i64 x) ∧ w'.cell? ⟨b,off+k * 2+1,none⟩=some (.int .i64 y) ∧ w'.cell? ⟨b',off' + j * 2,none⟩=some (.int .i64 x') ∧ w'.cell? ⟨b',off' + j * 2+1,none⟩=some (.int .i64 y')) (go_keep) (fail)
     go_wp2_with fail
     have HW1:Hid (Below wr.heap.size wr (wr.alloc (.cells #[.int .i64 (x+x'),.int .i64 (y+y')] 83)).drew):=((Below.refl _ _).alloc (Nat.le_refl _) _).drew
     have HB3:Hid (Below w.heap.size w (wr.alloc (.cells #[.int .i64 (x+x'),.int .i64 (y+y')] 83)).drew):=HB2.out.trans (HW1.out.mono HB2.out.size)
     have HO3:Hid (OwnL (wr.alloc (.cells #[.int .i64 (x+x'),.int .i64 (y+y')] 83)).drew w.heap.size (.slice a3 n3 k3) T1):=OwnL.later (ls:=T1) HOWr.out HW1.out
     have g1:(wr.alloc (.cells #[.int .i64 (x+x'),.int .i64 (y+y')] 83)).drew.cell? ⟨wr.heap.size,0,none⟩=some (.int .i64 (x+x')):=by simp
     have g2:(wr.alloc (.cells #[.int .i64 (x+x'),.int .i64 (y+y')] 83)).drew.cell? ⟨wr.heap.size,1,none⟩=some (.int .i64 (y+y')):=by simp
     have hlw:wr.heap.size < (wr.alloc (.cells #[.int .i64 (x+x'),.int .i64 (y+y')] 83)).drew.heap.size:=by simp
     clear HW1 d1 d2 e1 e2 HOWr HB2
     generalize (wr.alloc (.cells #[.int .i64 (x+x'),.int .i64 (y+y')] 83)).drew=W1 at *
     cases hz:okLine (x+x') (y+y') with
     | false=>
      refine (lineError_no _ _ _ hz).mono ?_
      rintro e w2 ⟨rfl,rfl⟩
      go_wp2_with fail
      go_ret2
      exact ⟨HB3.out.alloc HB3.out.size _,.inl ⟨fun h=>(by have:=h _ HIN.out;rw [hz] at this;cases this),rfl⟩⟩
     | true=>
      refine (lineError_yes _ _ _ hz).mono ?_
      rintro e w2 ⟨rfl,rfl⟩
      have HNW:Hid (∀ j u,[Value.int .i64 (x+x'),.int .i64 (y+y')][j]? = some u → ((W1.alloc (.cells #[.int .i64 (x+x'),.int .i64 (y+y')] 83)).alloc (.cells #[.int .i64 (x+x'),.int .i64 (y+y')] 83)).cell? ((⟨W1.heap.size+1,0,none⟩:Addr).add j)=some u):=by
       have:=news_newT (W1.alloc (.cells #[.int .i64 (x+x'),.int .i64 (y+y')] 83)) (x+x') (y+y')
       rw [show (W1.alloc (.cells #[.int .i64 (x+x'),.int .i64 (y+y')] 83)).heap.size=W1.heap.size+1 by simp] at this
       exact this
      have HZ:Hid (okLine (x+x') (y+y')=true):=hz
      have HOWr:Hid (W1.ownsRow w.heap.size 83 2 (.slice a3 n3 k3) T1.length (cellsL T1)):=HO3.out
      clear hz
      go_wp2_with (at_builtin;refine wpList_append_own_at _ rfl _ _ 62 rfl w.heap.size 83 i0 (.agg #[.int .i64 0,.int .i64 0]) 2 16 Tryz.underlying62 hi hz0 hz1 hz2 rfl (by decide) (.slice a3 n3 k3) T1.length (cellsL T1) rfl ((HOWr.out.alloc _).alloc _) ⟨W1.heap.size+1,0,none⟩ 1 1 [.int .i64 (x+x'),.int .i64 (y+y')] rfl rfl HNW.out (ints_oneT _ _) (by unfold maxLen;omega) (by omega) (Nat.le_trans HB3.out.size (by simp;omega)) ?_;intro v3 w3 hown3 hgrow3 _ hat3)
      have HB5:Hid (Below w.heap.size w w3):=OwnL.grownT (ls:=T1) ((HB3.out.alloc HB3.out.size _).alloc (by have:=HB3.out.size;simp;omega) _) ((HOWr.out.alloc _).alloc _) hgrow3
      have HO5:Hid (OwnL w3 w.heap.size v3 (T1 ++ [(x+x',y+y')])):=OwnL.snoc hown3
      obtain ⟨a4,n4,k4,rfl⟩:∃ a4 n4 k4,v3=.slice a4 n4 k4:=by obtain ⟨a,c,e,_⟩:=HO5.out.open;exact ⟨_,_,_,e⟩
      clear hown3 hgrow3 hat3
      go_wp2_with fail
      go_roundg (gk - 1)
      case measure=>omega
      case rel=>exact ⟨j+1,by omega,by go_num,by rw [HSJ.out];exact HO5.out,by rw [HSJ.out];exact okAll_snoc HOK1.out HZ.out,HB5.out⟩
    ·
     have hj':j=lb.length:=by omega
     subst hj'
     rw [List.take_length] at hown2 hok2
     have HO3:Hid (OwnL wr w.heap.size u6 (T0 ++ rowL (x,y) lb) ∧ okAll (T0 ++ rowL (x,y) lb)):=⟨hown2,hok2⟩
     obtain ⟨a3,n3,k3,rfl⟩:∃ a3 n3 k3,u6=.slice a3 n3 k3:=by obtain ⟨a,c,e,_⟩:=hown2.open;exact ⟨_,_,_,e⟩
     clear hown2 hb2 hok2
     go_wp2_with fail
     go_roundg (GK - 1)
     case measure=>omega
     case rel=>exact ⟨k+1,by omega,by go_num,by rw [HS.out];exact HO3.out.1,by rw [HS.out];exact HO3.out.2,HB2.out⟩
  ·
   have hk':k=la.length:=by omega
   subst hk'
   rw [List.take_length] at hown hokT
   obtain ⟨hn0,-,-,hL0⟩:=OwnL.lies hown
   have HL0:Hid (Lies wr a0 (eachL la lb) ∧ okAll (eachL la lb) ∧ (eachL la lb).length ≤ 500 ∧ n0=(eachL la lb).length):=⟨hL0,hokT,by rw [eachL_length];exact Nat.le_trans (Nat.mul_le_mul n1 n2) (by decide),hn0⟩
   clear hown hbr hokT hn0 hL0
   go_wp2_with fail
   rw [HL0.out.2.2.2]
   refine (tidyOf_ok a0 k0 (eachL la lb) _ HL0.out.1 HL0.out.2.2.1 HL0.out.2.1).mono ?_
   rintro e w2 ⟨v,R,rfl,hkept,ho,hb2⟩
   have HB2:Hid (Below w.heap.size w w2):=HBR.out.trans (hb2.mono HBR.out.size)
   have HO2:Hid (OwnL w2 w.heap.size v R):=ownsRow_mono ho HBR.out.size
   have HK:Hid (KeptTo (eachL la lb) (eachL la lb).length R):=hkept
   have hRl:R.length ≤ 500:=Nat.le_trans hkept.len HL0.out.2.2.1
   obtain ⟨a4,k4,rfl,-,-,-⟩:=OwnL.open ho
   clear hkept ho hb2
   by_cases h6:6 < R.length
   ·
    go_wp2_with fail
    go_ret2
    exact ⟨HB2.out,.inr ⟨HL0.out.2.1,R,HK.out,.inl ⟨h6,rfl⟩⟩⟩
   ·
    go_wp2_with fail
    go_ret2
    exact ⟨HB2.out,.inr ⟨HL0.out.2.1,R,HK.out,.inr ⟨by omega,_,rfl,HO2.out⟩⟩⟩
end Go.Proofs.YtipdclphpkgceaaGreatDoor
