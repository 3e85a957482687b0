/- Own facts, put together: no statement of its own. -/
import Derived.Maps.AppendAt
import Derived.Test.YtipdclphpkgceaaGreatDoorA13
import Derived.Test.YtipdclphpkgceaaGreatDoorA26
import Derived.BigQuiet
import Derived.Deep.RegionHeld
set_option maxHeartbeats 4000000
set_option maxRecDepth 100000

namespace Go.Proofs.YtipdclphpkgceaaGreatDoor
open Go.RowKit
theorem AL.take {w:World} {a:Option Addr} {ls:List (Int × Int)} (h:AL w a ls) (k:Nat):AL w a (ls.take k):=by
 rcases h with rfl | ⟨b,off,rfl,hlt,hc⟩
 · exact .inl (by simp)
 ·
  refine .inr ⟨b,off,rfl,hlt,fun i x y hi=>?_⟩
  rw [List.getElem?_take] at hi
  split at hi
  · exact hc i x y hi
  · cases hi
theorem AL.drop {w:World} {b off:Nat} {ls:List (Int × Int)} (h:AL w (Option.some ⟨b,off,Option.none⟩) ls) (k:Nat):AL w (Option.some ⟨b,off+k * 2,Option.none⟩) (ls.drop k):=by
 rcases h with rfl | ⟨b',off',e,hlt,hc⟩
 · exact .inl (by simp)
 ·
  cases e
  refine .inr ⟨b,_,rfl,hlt,fun i x y hi=>?_⟩
  rw [List.getElem?_drop] at hi
  have:=hc (k+i) x y hi
  rw [show off+k * 2+i * 2=off+(k+i) * 2 by omega]
  exact this
theorem Tryz.appendNone (w:World) (ty:TypeId) (g n c:Nat) (hnc:n ≤ c):(Builtin.append_ #[62,62] ty #[.slice (some ⟨g,0,none⟩) n c,.slice none 0 0]).run Tryz.prog w=.ok (.slice (some ⟨g,0,none⟩) n c) w:=by
 obtain ⟨i0,hi,hz0,hz1,hz2⟩:=info_parts Tryz.infoLine
 simp [Builtin.append_,run_underlying Tryz.underlying62,sizeOf,typeInfo,hi,Builtin.lenOf,Builtin.firstCells,loadCells,hnc,storeCells]
theorem Cw {w:World} {B m:Nat} {v:Value} {xs:List Value} (h:w.ownsRow B 83 2 v m xs) (h1:1 ≤ m):∃ g c,v=.slice (some ⟨g,0,none⟩) m c ∧ m ≤ c ∧ v.ownBlock=some g:=by
 obtain ⟨-,⟨-,h0⟩ | ⟨g,cap,cur,rfl,-,-,hn,-,-,-⟩⟩:=h
 · omega
 · exact ⟨g,cap,rfl,hn,rfl⟩
theorem EZ {w w':World} {g off:Nat} {row:Option Nat} {ls:List (Int × Int)} (h:AL w (some ⟨g,off,none⟩) ls) (hg:w.grownBy w' row) (hne:row ≠ some g):AL w' (some ⟨g,off,none⟩) ls:=by
 rcases h with rfl | ⟨b,o,e,hlt,hc⟩
 · exact .inl rfl
 ·
  cases e
  refine .inr ⟨g,off,rfl,Nat.lt_of_lt_of_le hlt hg.size,fun i x y hi=>?_⟩
  exact ⟨hg.cell (hc i x y hi).1 (fun e=>hne e.symm),hg.cell (hc i x y hi).2 (fun e=>hne e.symm)⟩
theorem JP {ls:List (Int × Int)} {k:Nat} (h:k ≤ ls.length):(Ar (ls.take k)).length=k * 2:=by
 rw [Fg,List.length_take,Nat.min_eq_left h]
theorem JR (ls:List (Int × Int)) (k:Nat):(Ar (ls.drop k)).length=(ls.length - k) * 2:=by
 rw [Fg,List.length_drop]
theorem Qr {w:World} {B k:Nat} {v:Value} {R:List (Int × Int)} {x y:Int} (hk:k ≤ R.length) (h:w.ownsRow B 83 2 v (k+1+(R.length - k)) (Ar (R.take k) ++ [.int .i64 x,.int .i64 y] ++ Ar (R.drop k))):A9 w B v (R.take k ++ (x,y) :: R.drop k):=by
 unfold A9
 have e1:(R.take k ++ (x,y) :: R.drop k).length=k+1+(R.length - k):=by simp;omega
 have e2:Ar (R.take k ++ (x,y) :: R.drop k)=Ar (R.take k) ++ [.int .i64 x,.int .i64 y] ++ Ar (R.drop k):=by
  rw [E9,Gn];simp
 rw [e1,e2]
 exact h
theorem A9.grownR {w0 w w':World} {v:Value} {n:Nat} {xs:List Value} (hB:Below w0.heap.size w0 w) (ho:w.ownsRow w0.heap.size 83 2 v n xs) (hg:w.grownBy w' v.ownBlock):Below w0.heap.size w0 w':=
 hB.grown hg hB.size (fun k hk=>(World.ownsRow.lt ho k hk).1)
theorem Xe (a:Option Addr) (cap:Nat) (ls:List (Int × Int)) (w:World) (hl:AL w a ls) (hn:ls.length ≤ 500) (hok:BJ ls) :
  Calls Tryz.prog 88 #[.slice a ls.length cap] w fun e w'=>∃ v R,e=.returned v ∧ EY ls ls.length R ∧ A9 w' w.heap.size v R ∧ Below w.heap.size w w':=by
 have HL:Hid (AL w a ls):=hl
 have HOK:Hid (BJ ls):=hok
 obtain ⟨i0,hi,hz0,hz1,hz2⟩:=info_parts Tryz.infoLine
 clear hl hok
 go_enter Tryz.func88,Tryz.ntmps88
 go_wp2_with fail
 go_loopg [3,4] ls.length (fun gk v j wr=>∃ (i:Nat) (R:List (Int × Int)),gk+i=ls.length ∧ j=.int .i64 i ∧ EY ls i R ∧ A9 wr w.heap.size v R ∧ Below w.heap.size w wr)
 case atStart=>exact ⟨0,[],rfl,rfl,V5 _,World.ownsRow_nil _ _ _ _,Below.refl _ _⟩
 case round=>
  obtain ⟨i,R,hgk,rfl,hkept,hown,hbr⟩:=hrel
  have HBR:Hid (Below w.heap.size w wr):=hbr
  have HK:Hid (EY ls i R):=hkept
  have hRl:R.length ≤ i:=hkept.len
  have HOW:Hid (A9 wr w.heap.size u3 R):=hown
  obtain ⟨a0,n0,k0,rfl⟩:∃ a0 n0 k0,u3=.slice a0 n0 k0:=by obtain ⟨a,c,e,_⟩:=hown.open;exact ⟨_,_,_,e⟩
  by_cases hin:i < ls.length
  ·
   obtain ⟨⟨x,y⟩,hp,hmem⟩:=Ai ls i hin
   obtain ⟨b,off,rfl,hlt,hc⟩:=HL.out.some (by omega)
   have HP:Hid (ls[i]? = some (x,y)):=hp
   have HLr:Hid (AL wr (some ⟨b,off,none⟩) ls):=HL.out.below hbr
   have HC:Hid (w.cell? ⟨b,off+i * 2,none⟩=some (.int .i64 x) ∧ w.cell? ⟨b,off+i * 2+1,none⟩=some (.int .i64 y)):=hc i x y hp
   clear hkept hown hbr hp hmem hc
   go_wp2_with fail
   refine (PV (some ⟨b,off,none⟩) cap i ls x y _ HLr.out HP.out (by omega) HOK.out).mono ?_
   rintro e w1 ⟨v,rfl,hv,hb1⟩
   have HV:Hid (v=true ↔ KeptAt ls i (x,y)):=hv
   have HB1:Hid (Below w.heap.size w w1):=HBR.out.trans (hb1.mono HBR.out.size)
   have HOW1:Hid (A9 w1 w.heap.size (.slice a0 n0 k0) R):=HOW.out.later hb1
   clear hv hb1
   cases v with
   | false=>
    go_wp2_with fail
    go_roundg (gk - 1)
    case measure=>omega
    case rel=>exact ⟨i+1,R,by omega,by go_num,Xj HK.out HP.out (fun h=>by have:=HV.out.2 h;cases this),HOW1.out,HB1.out⟩
   | true=>
    have HKA:Hid (KeptAt ls i (x,y)):=HV.out.1 rfl
    have e1:w1.cell? ⟨b,off+i * 2,none⟩=some (.int .i64 x):=cell_later HB1.out HC.out.1
    have e2:w1.cell? ⟨b,off+i * 2+1,none⟩=some (.int .i64 y):=cell_later HB1.out HC.out.2
    have ho:=HOW1.out
    obtain ⟨hlen,⟨hnil,h0⟩ | ⟨g,cap',cur,hvv,hBg,hg,hnc,hcm,hcs,htk⟩⟩:=ho
    ·
     cases hnil
     obtain rfl:R=[]:=List.length_eq_zero_iff.1 h0
     clear hlen h0
     have hd0:decide ((0:Int) < 0)=false:=by decide
     go_wp2_with fail
     refine wp_loop_rounds 1 ?_
     rw [rounds_succ]
     go_wp2_with fail
     go_quiet (fail)
     have HBW:Hid (Below w.heap.size w (w1.drewN nq)):=below_drewN HB1.out _
     have f1:(w1.drewN nq).cell? ⟨b,off+i * 2,none⟩=some (.int .i64 x):=cell_later HBW.out HC.out.1
     have f2:(w1.drewN nq).cell? ⟨b,off+i * 2+1,none⟩=some (.int .i64 y):=cell_later HBW.out HC.out.2
     clear e1 e2 HOW1 HB1 HOW HBR HLr
     generalize w1.drewN nq=W at *
     have HNW:Hid (∀ j u,[Value.int .i64 x,.int .i64 y][j]? = some u → (W.alloc (.cells #[.int .i64 x,.int .i64 y] 83)).cell? ((⟨W.heap.size,0,none⟩:Addr).add j)=some u):=Er W x y
     go_wp2_with (at_builtin;refine wpList_append_own_at _ rfl _ _ 62 rfl w.heap.size 83 i0 (.agg #[.int .i64 0,.int .i64 0]) 2 16 Tryz.underlying62 hi hz0 hz1 hz2 rfl (by decide) (.slice none 0 0) 0 [] rfl (World.ownsRow_nil _ _ _ _) ⟨W.heap.size,0,none⟩ 1 1 [.int .i64 x,.int .i64 y] rfl rfl HNW.out (Et _ _) (by unfold maxLen;omega) (by omega) (Nat.le_trans HBW.out.size (by simp)) ?_;intro v3 w3 hown3 hgrow3 _ hat3;obtain ⟨g3,c3,rfl,hc3,hg3⟩:=Cw hown3 (by omega);have qn3:=fun w ty=>Tryz.appendNone w ty g3 (0+1) c3 hc3)
     go_roundg (gk - 1)
     case measure=>omega
     case rel=>exact ⟨i+1,[(x,y)],by omega,by go_num,Kw (k:=0) HK.out HP.out HKA.out (fun j _ hj=>absurd hj (Nat.not_lt_zero _)) (fun _ h=>by simp at h),hown3,A9.grownT (ls:=[]) (HBW.out.alloc HBW.out.size _) (World.ownsRow_nil _ _ _ _) hgrow3⟩
    ·
     cases hvv
     have HLR:Hid (AL w1 (some ⟨g,0,none⟩) R):=(A9.lies HOW1.out).2.2.2
     have hgl:g < w1.heap.size:=by
      rcases Nat.lt_or_ge g w1.heap.size with h | h
      · exact h
      · simp [Array.getElem?_eq_none h] at hg
     unfold maxLen at hcm
     clear hlen hBg hg hcs htk HOW HBR HLr
     go_wp2_with fail
     obtain ⟨GK,rfl⟩:∃ z,z=gk:=⟨gk,rfl⟩
     clear wr
     go_loopg [6] R.length (fun gi kk wr2=>∃ k:Nat,gi+k=R.length ∧ kk=.int .i64 k ∧ (∀ j p,j < k → R[j]? = some p → y < p.2) ∧ Below w1.heap.size w1 wr2)
     case atStart=>exact ⟨0,rfl,rfl,fun j p h=>absurd h (Nat.not_lt_zero _),Below.refl _ _⟩
     case round=>
      obtain ⟨k,hgi,rfl,hup,hb2⟩:=hrel
      have HUP:Hid (∀ j p,j < k → R[j]? = some p → y < p.2):=hup
      have HB2:Hid (Below w1.heap.size w1 wr):=hb2
      have e3:wr.cell? ⟨b,off+i * 2,none⟩=some (.int .i64 x):=cell_later hb2 e1
      have e4:wr.cell? ⟨b,off+i * 2+1,none⟩=some (.int .i64 y):=cell_later hb2 e2
      clear hup hb2
      by_cases hkR:k < R.length
      ·
       obtain ⟨⟨x',y'⟩,hp',hm'⟩:=Ai R k hkR
       obtain ⟨_,_,eg,-,hcg⟩:=HLR.out.some (by omega)
       cases eg
       have d2:wr.cell? ⟨g,0+k * 2+1,none⟩=some (.int .i64 y'):=cell_later HB2.out (hcg k x' y' hp').2
       have HP':Hid (R[k]? = some (x',y')):=hp'
       rw [Nat.zero_add] at d2
       clear hcg hp' hm'
       by_cases hyy:y < y'
       ·
        go_wp2_with fail
        go_quiet (fail)
        go_wp2_with fail
        go_roundg (gk - 1)
        case measure=>omega
        case rel=>exact ⟨k+1,by omega,by go_num,fun j p hj he=>(by
         rcases Nat.lt_or_ge j k with h | h
         · exact HUP.out j p h he
         ·
          obtain rfl:j=k:=by omega
          rw [HP'.out] at he
          cases he
          exact hyy),below_drewN HB2.out _⟩
       ·
        go_wp2_with fail
        go_quiet (fail)
        have HBW:Hid (Below w.heap.size w (wr.drewN nq)):=below_drewN (HB1.out.trans (HB2.out.mono HB1.out.size)) _
        have f1:(wr.drewN nq).cell? ⟨b,off+i * 2,none⟩=some (.int .i64 x):=cell_later HBW.out HC.out.1
        have f2:(wr.drewN nq).cell? ⟨b,off+i * 2+1,none⟩=some (.int .i64 y):=cell_later HBW.out HC.out.2
        have HLW:Hid (AL (wr.drewN nq) (some ⟨g,0,none⟩) R):=HLR.out.below (below_drewN HB2.out _)
        have hgW:g < (wr.drewN nq).heap.size:=by have:=HB2.out.size;simp;omega
        have hbW:b < (wr.drewN nq).heap.size:=Ck f1
        clear HB2 e3 e4
        generalize wr.drewN nq=W at *
        have HT1:Hid (∀ j u,(Ar (R.take k))[j]? = some u → W.cell? ((⟨g,0,none⟩:Addr).add j)=some u):=FW (HLW.out.take k)
        have HT2:Hid ((Ar (R.take k)).length=k * 2):=JP (by omega)
        have HT3:Hid (∀ u ∈ Ar (R.take k),u.oneCell'=true):=Ed _
        have HD2:Hid ((Ar (R.drop k)).length=(R.length - k) * 2):=JR R k
        have HD3:Hid (∀ u ∈ Ar (R.drop k),u.oneCell'=true):=Ed _
        have HWB:Hid (w.heap.size ≤ W.heap.size):=HBW.out.size
        go_wp2_with (first
         | (at_builtin;refine wpList_append_own_at _ rfl _ _ 62 rfl w.heap.size 83 i0 (.agg #[.int .i64 0,.int .i64 0]) 2 16 Tryz.underlying62 hi hz0 hz1 hz2 rfl (by decide) (.slice none 0 0) 0 [] rfl (World.ownsRow_nil _ _ _ _) ⟨g,0,none⟩ k k0 (Ar (R.take k)) rfl HT2.out HT1.out HT3.out (by unfold maxLen;omega) (by omega) HWB.out ?_;intro v3 w3 hown3 hgrow3 _ hat3;simp only [Nat.zero_add,List.nil_append] at hown3;obtain ⟨a3,n3,k3,rfl⟩:∃ a0 n0 k0,v3=.slice a0 n0 k0:=by (obtain ⟨_,⟨h,_⟩ | ⟨_,_,_,h,_⟩⟩:=hown3 <;> exact ⟨_,_,_,h⟩)
            have HOW3:Hid (w3.ownsRow w.heap.size 83 2 (.slice a3 n3 k3) k (Ar (R.take k))):=hown3
            have HB3:Hid (Below w.heap.size w w3):=A9.grownT (ls:=[]) HBW.out (World.ownsRow_nil _ _ _ _) hgrow3
            have HL3:Hid (AL w3 (some ⟨g,0,none⟩) R):=EZ HLW.out hgrow3 (fun e=>by cases e)
            have f3:w3.cell? ⟨b,off+i * 2,none⟩=some (.int .i64 x):=hgrow3.cell f1 (fun e=>by cases e)
            have f4:w3.cell? ⟨b,off+i * 2+1,none⟩=some (.int .i64 y):=hgrow3.cell f2 (fun e=>by cases e)
            have HNE3:Hid ((Value.slice a3 n3 k3).ownBlock ≠ some g):=(show _ ≠ _ from fun e=>by rcases hat3 with h | h <;> rw [h] at e <;> cases e;omega)
            have HNW:Hid (∀ j u,[Value.int .i64 x,.int .i64 y][j]? = some u → (w3.alloc (.cells #[.int .i64 x,.int .i64 y] 83)).cell? ((⟨w3.heap.size,0,none⟩:Addr).add j)=some u):=Er w3 x y
            have hs3:=hgrow3.size
            clear hown3 hgrow3 hat3 f1 f2)
         | (at_builtin;refine wpList_append_own_at _ rfl _ _ 62 rfl w.heap.size 83 i0 (.agg #[.int .i64 0,.int .i64 0]) 2 16 Tryz.underlying62 hi hz0 hz1 hz2 rfl (by decide) (.slice a3 n3 k3) k (Ar (R.take k)) rfl (HOW3.out.alloc _) ⟨w3.heap.size,0,none⟩ 1 1 [.int .i64 x,.int .i64 y] rfl rfl HNW.out (Et _ _) (by unfold maxLen;omega) (by omega) (Nat.le_trans HB3.out.size (by simp)) ?_;intro v5 w5 hown5 hgrow5 _ hat5;obtain ⟨g5,c5,rfl,hc5,hg5⟩:=Cw hown5 (by omega)
            have HOW5:Hid (w5.ownsRow w.heap.size 83 2 (.slice (some ⟨g5,0,none⟩) (k+1) c5) (k+1) (Ar (R.take k) ++ [.int .i64 x,.int .i64 y])):=hown5
            have HB5:Hid (Below w.heap.size w w5):=A9.grownR (HB3.out.alloc HB3.out.size _) (HOW3.out.alloc _) hgrow5
            have HL5:Hid (AL w5 (some ⟨g,0,none⟩) R):=EZ (HL3.out.below ((Below.refl _ _).alloc (Nat.le_refl _) _)) hgrow5 HNE3.out
            have HD1:Hid (∀ j u,(Ar (R.drop k))[j]? = some u → w5.cell? ((⟨g,k * 2,none⟩:Addr).add j)=some u):=FW (show AL w5 (some ⟨g,k * 2,none⟩) (R.drop k) from by have:=HL5.out.drop k;rwa [Nat.zero_add] at this)
            clear hown5 hgrow5 hat5)
         | (at_builtin;refine wpList_append_own_at _ rfl _ _ 62 rfl w.heap.size 83 i0 (.agg #[.int .i64 0,.int .i64 0]) 2 16 Tryz.underlying62 hi hz0 hz1 hz2 rfl (by decide) (.slice (some ⟨g5,0,none⟩) (k+1) c5) (k+1) (Ar (R.take k) ++ [.int .i64 x,.int .i64 y]) rfl HOW5.out ⟨g,k * 2,none⟩ (R.length - k) (k0 - k) (Ar (R.drop k)) rfl HD2.out HD1.out HD3.out (by unfold maxLen;omega) (by omega) HB5.out.size ?_;intro v6 w6 hown6 hgrow6 _ hat6
            obtain ⟨g6,c6,rfl,hc6,hg6⟩:=Cw hown6 (by omega)
            have HOW6:Hid (w6.ownsRow w.heap.size 83 2 (.slice (some ⟨g6,0,none⟩) (k+1+(R.length - k)) c6) (k+1+(R.length - k)) (Ar (R.take k) ++ [.int .i64 x,.int .i64 y] ++ Ar (R.drop k))):=hown6
            have HB6:Hid (Below w.heap.size w w6):=A9.grownR HB5.out HOW5.out hgrow6
            clear hown6 hgrow6 hat6))
        go_roundg (GK - 1)
        case measure=>omega
        case rel=>exact ⟨i+1,R.take k ++ (x,y) :: R.drop k,by omega,by go_num,Kw HK.out HP.out HKA.out HUP.out (fun p h=>by rw [HP'.out] at h;cases h;show ¬ y < y';omega),Qr (by omega) HOW6.out,HB6.out⟩
      ·
       by_cases hk0:k < k0
       ·
        go_wp2_with fail
        go_quiet (fail)
        have HBW:Hid (Below w.heap.size w (wr.drewN nq)):=below_drewN (HB1.out.trans (HB2.out.mono HB1.out.size)) _
        have f1:(wr.drewN nq).cell? ⟨b,off+i * 2,none⟩=some (.int .i64 x):=cell_later HBW.out HC.out.1
        have f2:(wr.drewN nq).cell? ⟨b,off+i * 2+1,none⟩=some (.int .i64 y):=cell_later HBW.out HC.out.2
        have HLW:Hid (AL (wr.drewN nq) (some ⟨g,0,none⟩) R):=HLR.out.below (below_drewN HB2.out _)
        have hgW:g < (wr.drewN nq).heap.size:=by have:=HB2.out.size;simp;omega
        have hbW:b < (wr.drewN nq).heap.size:=Ck f1
        clear HB2 e3 e4
        generalize wr.drewN nq=W at *
        have HT1:Hid (∀ j u,(Ar (R.take k))[j]? = some u → W.cell? ((⟨g,0,none⟩:Addr).add j)=some u):=FW (HLW.out.take k)
        have HT2:Hid ((Ar (R.take k)).length=k * 2):=JP (by omega)
        have HT3:Hid (∀ u ∈ Ar (R.take k),u.oneCell'=true):=Ed _
        have HD2:Hid ((Ar (R.drop k)).length=(R.length - k) * 2):=JR R k
        have HD3:Hid (∀ u ∈ Ar (R.drop k),u.oneCell'=true):=Ed _
        have HWB:Hid (w.heap.size ≤ W.heap.size):=HBW.out.size
        go_wp2_with (first
         | (at_builtin;refine wpList_append_own_at _ rfl _ _ 62 rfl w.heap.size 83 i0 (.agg #[.int .i64 0,.int .i64 0]) 2 16 Tryz.underlying62 hi hz0 hz1 hz2 rfl (by decide) (.slice none 0 0) 0 [] rfl (World.ownsRow_nil _ _ _ _) ⟨g,0,none⟩ k k0 (Ar (R.take k)) rfl HT2.out HT1.out HT3.out (by unfold maxLen;omega) (by omega) HWB.out ?_;intro v3 w3 hown3 hgrow3 _ hat3;simp only [Nat.zero_add,List.nil_append] at hown3;obtain ⟨a3,n3,k3,rfl⟩:∃ a0 n0 k0,v3=.slice a0 n0 k0:=by (obtain ⟨_,⟨h,_⟩ | ⟨_,_,_,h,_⟩⟩:=hown3 <;> exact ⟨_,_,_,h⟩)
            have HOW3:Hid (w3.ownsRow w.heap.size 83 2 (.slice a3 n3 k3) k (Ar (R.take k))):=hown3
            have HB3:Hid (Below w.heap.size w w3):=A9.grownT (ls:=[]) HBW.out (World.ownsRow_nil _ _ _ _) hgrow3
            have HL3:Hid (AL w3 (some ⟨g,0,none⟩) R):=EZ HLW.out hgrow3 (fun e=>by cases e)
            have f3:w3.cell? ⟨b,off+i * 2,none⟩=some (.int .i64 x):=hgrow3.cell f1 (fun e=>by cases e)
            have f4:w3.cell? ⟨b,off+i * 2+1,none⟩=some (.int .i64 y):=hgrow3.cell f2 (fun e=>by cases e)
            have HNE3:Hid ((Value.slice a3 n3 k3).ownBlock ≠ some g):=(show _ ≠ _ from fun e=>by rcases hat3 with h | h <;> rw [h] at e <;> cases e;omega)
            have HNW:Hid (∀ j u,[Value.int .i64 x,.int .i64 y][j]? = some u → (w3.alloc (.cells #[.int .i64 x,.int .i64 y] 83)).cell? ((⟨w3.heap.size,0,none⟩:Addr).add j)=some u):=Er w3 x y
            have hs3:=hgrow3.size
            clear hown3 hgrow3 hat3 f1 f2)
         | (at_builtin;refine wpList_append_own_at _ rfl _ _ 62 rfl w.heap.size 83 i0 (.agg #[.int .i64 0,.int .i64 0]) 2 16 Tryz.underlying62 hi hz0 hz1 hz2 rfl (by decide) (.slice a3 n3 k3) k (Ar (R.take k)) rfl (HOW3.out.alloc _) ⟨w3.heap.size,0,none⟩ 1 1 [.int .i64 x,.int .i64 y] rfl rfl HNW.out (Et _ _) (by unfold maxLen;omega) (by omega) (Nat.le_trans HB3.out.size (by simp)) ?_;intro v5 w5 hown5 hgrow5 _ hat5;obtain ⟨g5,c5,rfl,hc5,hg5⟩:=Cw hown5 (by omega)
            have HOW5:Hid (w5.ownsRow w.heap.size 83 2 (.slice (some ⟨g5,0,none⟩) (k+1) c5) (k+1) (Ar (R.take k) ++ [.int .i64 x,.int .i64 y])):=hown5
            have HB5:Hid (Below w.heap.size w w5):=A9.grownR (HB3.out.alloc HB3.out.size _) (HOW3.out.alloc _) hgrow5
            have HL5:Hid (AL w5 (some ⟨g,0,none⟩) R):=EZ (HL3.out.below ((Below.refl _ _).alloc (Nat.le_refl _) _)) hgrow5 HNE3.out
            have HD1:Hid (∀ j u,(Ar (R.drop k))[j]? = some u → w5.cell? ((⟨g,k * 2,none⟩:Addr).add j)=some u):=FW (show AL w5 (some ⟨g,k * 2,none⟩) (R.drop k) from by have:=HL5.out.drop k;rwa [Nat.zero_add] at this)
            clear hown5 hgrow5 hat5)
         | (at_builtin;refine wpList_append_own_at _ rfl _ _ 62 rfl w.heap.size 83 i0 (.agg #[.int .i64 0,.int .i64 0]) 2 16 Tryz.underlying62 hi hz0 hz1 hz2 rfl (by decide) (.slice (some ⟨g5,0,none⟩) (k+1) c5) (k+1) (Ar (R.take k) ++ [.int .i64 x,.int .i64 y]) rfl HOW5.out ⟨g,k * 2,none⟩ (R.length - k) (k0 - k) (Ar (R.drop k)) rfl HD2.out HD1.out HD3.out (by unfold maxLen;omega) (by omega) HB5.out.size ?_;intro v6 w6 hown6 hgrow6 _ hat6
            obtain ⟨g6,c6,rfl,hc6,hg6⟩:=Cw hown6 (by omega)
            have HOW6:Hid (w6.ownsRow w.heap.size 83 2 (.slice (some ⟨g6,0,none⟩) (k+1+(R.length - k)) c6) (k+1+(R.length - k)) (Ar (R.take k) ++ [.int .i64 x,.int .i64 y] ++ Ar (R.drop k))):=hown6
            have HB6:Hid (Below w.heap.size w w6):=A9.grownR HB5.out HOW5.out hgrow6
            clear hown6 hgrow6 hat6))
        go_roundg (GK - 1)
        case measure=>omega
        case rel=>exact ⟨i+1,R.take k ++ (x,y) :: R.drop k,by omega,by go_num,Kw HK.out HP.out HKA.out HUP.out (fun p h=>by rw [List.getElem?_eq_none (by omega)] at h;cases h),Qr (by omega) HOW6.out,HB6.out⟩
       ·
        have hkk:k=k0:=by omega
        subst hkk
        clear hk0
        go_wp2_with fail
        go_quiet (fail)
        have HBW:Hid (Below w.heap.size w (wr.drewN nq)):=below_drewN (HB1.out.trans (HB2.out.mono HB1.out.size)) _
        have f1:(wr.drewN nq).cell? ⟨b,off+i * 2,none⟩=some (.int .i64 x):=cell_later HBW.out HC.out.1
        have f2:(wr.drewN nq).cell? ⟨b,off+i * 2+1,none⟩=some (.int .i64 y):=cell_later HBW.out HC.out.2
        have HLW:Hid (AL (wr.drewN nq) (some ⟨g,0,none⟩) R):=HLR.out.below (below_drewN HB2.out _)
        have hgW:g < (wr.drewN nq).heap.size:=by have:=HB2.out.size;simp;omega
        have hbW:b < (wr.drewN nq).heap.size:=Ck f1
        clear HB2 e3 e4
        generalize wr.drewN nq=W at *
        have HT1:Hid (∀ j u,(Ar (R.take k))[j]? = some u → W.cell? ((⟨g,0,none⟩:Addr).add j)=some u):=FW (HLW.out.take k)
        have HT2:Hid ((Ar (R.take k)).length=k * 2):=JP (by omega)
        have HT3:Hid (∀ u ∈ Ar (R.take k),u.oneCell'=true):=Ed _
        have HD2:Hid ((Ar (R.drop k)).length=(R.length - k) * 2):=JR R k
        have HD3:Hid (∀ u ∈ Ar (R.drop k),u.oneCell'=true):=Ed _
        have HWB:Hid (w.heap.size ≤ W.heap.size):=HBW.out.size
        go_wp2_with (first
         | (at_builtin;refine wpList_append_own_at _ rfl _ _ 62 rfl w.heap.size 83 i0 (.agg #[.int .i64 0,.int .i64 0]) 2 16 Tryz.underlying62 hi hz0 hz1 hz2 rfl (by decide) (.slice none 0 0) 0 [] rfl (World.ownsRow_nil _ _ _ _) ⟨g,0,none⟩ k k (Ar (R.take k)) rfl HT2.out HT1.out HT3.out (by unfold maxLen;omega) (by omega) HWB.out ?_;intro v3 w3 hown3 hgrow3 _ hat3;simp only [Nat.zero_add,List.nil_append] at hown3;obtain ⟨a3,n3,k3,rfl⟩:∃ a0 n0 k0,v3=.slice a0 n0 k0:=by (obtain ⟨_,⟨h,_⟩ | ⟨_,_,_,h,_⟩⟩:=hown3 <;> exact ⟨_,_,_,h⟩)
            have HOW3:Hid (w3.ownsRow w.heap.size 83 2 (.slice a3 n3 k3) k (Ar (R.take k))):=hown3
            have HB3:Hid (Below w.heap.size w w3):=A9.grownT (ls:=[]) HBW.out (World.ownsRow_nil _ _ _ _) hgrow3
            have HL3:Hid (AL w3 (some ⟨g,0,none⟩) R):=EZ HLW.out hgrow3 (fun e=>by cases e)
            have f3:w3.cell? ⟨b,off+i * 2,none⟩=some (.int .i64 x):=hgrow3.cell f1 (fun e=>by cases e)
            have f4:w3.cell? ⟨b,off+i * 2+1,none⟩=some (.int .i64 y):=hgrow3.cell f2 (fun e=>by cases e)
            have HNE3:Hid ((Value.slice a3 n3 k3).ownBlock ≠ some g):=(show _ ≠ _ from fun e=>by rcases hat3 with h | h <;> rw [h] at e <;> cases e;omega)
            have HNW:Hid (∀ j u,[Value.int .i64 x,.int .i64 y][j]? = some u → (w3.alloc (.cells #[.int .i64 x,.int .i64 y] 83)).cell? ((⟨w3.heap.size,0,none⟩:Addr).add j)=some u):=Er w3 x y
            have hs3:=hgrow3.size
            clear hown3 hgrow3 hat3 f1 f2)
         | (at_builtin;refine wpList_append_own_at _ rfl _ _ 62 rfl w.heap.size 83 i0 (.agg #[.int .i64 0,.int .i64 0]) 2 16 Tryz.underlying62 hi hz0 hz1 hz2 rfl (by decide) (.slice a3 n3 k3) k (Ar (R.take k)) rfl (HOW3.out.alloc _) ⟨w3.heap.size,0,none⟩ 1 1 [.int .i64 x,.int .i64 y] rfl rfl HNW.out (Et _ _) (by unfold maxLen;omega) (by omega) (Nat.le_trans HB3.out.size (by simp)) ?_;intro v5 w5 hown5 hgrow5 _ hat5;obtain ⟨g5,c5,rfl,hc5,hg5⟩:=Cw hown5 (by omega)
            have HOW5:Hid (w5.ownsRow w.heap.size 83 2 (.slice (some ⟨g5,0,none⟩) (k+1) c5) (k+1) (Ar (R.take k) ++ [.int .i64 x,.int .i64 y])):=hown5
            have HB5:Hid (Below w.heap.size w w5):=A9.grownR (HB3.out.alloc HB3.out.size _) (HOW3.out.alloc _) hgrow5
            have HL5:Hid (AL w5 (some ⟨g,0,none⟩) R):=EZ (HL3.out.below ((Below.refl _ _).alloc (Nat.le_refl _) _)) hgrow5 HNE3.out
            have HD1:Hid (∀ j u,(Ar (R.drop k))[j]? = some u → w5.cell? ((⟨g,0,none⟩:Addr).add j)=some u):=fun j u h=>by rw [List.drop_eq_nil_of_le (by omega)] at h;cases h
            clear hown5 hgrow5 hat5)
         | (at_builtin;refine wpList_append_own_at _ rfl _ _ 62 rfl w.heap.size 83 i0 (.agg #[.int .i64 0,.int .i64 0]) 2 16 Tryz.underlying62 hi hz0 hz1 hz2 rfl (by decide) (.slice (some ⟨g5,0,none⟩) (k+1) c5) (k+1) (Ar (R.take k) ++ [.int .i64 x,.int .i64 y]) rfl HOW5.out ⟨g,0,none⟩ (R.length - k) _ (Ar (R.drop k)) rfl HD2.out HD1.out HD3.out (by unfold maxLen;omega) (by omega) HB5.out.size ?_;intro v6 w6 hown6 hgrow6 _ hat6
            obtain ⟨g6,c6,rfl,hc6,hg6⟩:=Cw hown6 (by omega)
            have HOW6:Hid (w6.ownsRow w.heap.size 83 2 (.slice (some ⟨g6,0,none⟩) (k+1+(R.length - k)) c6) (k+1+(R.length - k)) (Ar (R.take k) ++ [.int .i64 x,.int .i64 y] ++ Ar (R.drop k))):=hown6
            have HB6:Hid (Below w.heap.size w w6):=A9.grownR HB5.out HOW5.out hgrow6
            clear hown6 hgrow6 hat6))
        go_roundg (GK - 1)
        case measure=>omega
        case rel=>exact ⟨i+1,R.take k ++ (x,y) :: R.drop k,by omega,by go_num,Kw HK.out HP.out HKA.out HUP.out (fun p h=>by rw [List.getElem?_eq_none (by omega)] at h;cases h),Qr (k:=k) (by omega) (by rw [show k+1+(R.length - k)=k+1 by omega,List.drop_eq_nil_of_le (show R.length ≤ k by omega)];have:=HOW5.out;simpa [Ar] using this),HB5.out⟩
  ·
   have hi':i=ls.length:=by omega
   subst hi'
   clear hown hbr hkept
   go_wp2_with fail
   go_ret
   exact ⟨_,R,rfl,HK.out,HOW.out,HBR.out⟩
def VZ (la lb:List (Int × Int)) (w w':World) (e:Ending):Prop:=
 Below w.heap.size w w' ∧ ((¬ BJ (Bi la lb) ∧ e=.returned (.tuple #[.slice none 0 0,.int .i64 2])) ∨
  (BJ (Bi la lb) ∧ ∃ R,EY (Bi la lb) (Bi la lb).length R ∧
   ((6 < R.length ∧ e=.returned (.tuple #[.slice none 0 0,.int .i64 3])) ∨ (R.length ≤ 6 ∧ ∃ v,e=.returned (.tuple #[v,.int .i64 0]) ∧ A9 w' w.heap.size v R))))
theorem U2 {T:List (Int × Int)} {z:Int × Int} (h:BJ T) (hz:BF z.1 z.2=true):BJ (T ++ [z]):=fun p hp=>by
 rcases List.mem_append.1 hp with hp | hp
 · exact h p hp
 · rw [List.mem_singleton.1 hp];exact hz
theorem ZH {la lb:List (Int × Int)} {x y:Int × Int} (hx:x ∈ la) (hy:y ∈ lb):(x.1+y.1,x.2+y.2) ∈ Bi la lb:=by
 simp only [Bi,EC,List.mem_flatMap,List.mem_map]
 exact ⟨x,hx,y,hy,rfl⟩
theorem YA (a1 a2:Option Addr) (cap1 cap2:Nat) (la lb:List (Int × Int)) (w:World) (h1:AL w a1 la) (h2:AL w a2 lb) (n1:la.length ≤ 6) (n2:lb.length ≤ 6) (k1:BJ la) (k2:BJ lb) :
  Calls Tryz.prog 58 #[.slice a1 la.length cap1,.slice a2 lb.length cap2] w fun e w'=>VZ la lb w w' e:=by
 have HA:Hid (AL w a1 la):=h1
 have HB:Hid (AL w a2 lb):=h2
 have KA:Hid (BJ la):=k1
 have KB:Hid (BJ lb):=k2
 obtain ⟨i0,hi,hz0,hz1,hz2⟩:=info_parts Tryz.infoLine
 clear h1 h2 k1 k2
 go_enter Tryz.func58,Tryz.ntmps58
 go_wp2_with fail
 go_loopg [6,7] la.length (fun gk v i wr=>∃ k:Nat,gk+k=la.length ∧ i=.int .i64 k ∧ A9 wr w.heap.size v (Bi (la.take k) lb) ∧ BJ (Bi (la.take k) lb) ∧ Below w.heap.size w wr)
 case atStart=>exact ⟨0,rfl,rfl,World.ownsRow_nil _ _ _ _,fun p hp=>by simp [Bi] at hp,Below.refl _ _⟩
 case round=>
  obtain ⟨k,hgk,rfl,hown,hokT,hbr⟩:=hrel
  have HBR:Hid (Below w.heap.size w wr):=hbr
  obtain ⟨a0,n0,k0,rfl⟩:∃ a0 n0 k0,u6=.slice a0 n0 k0:=by obtain ⟨a,c,e,_⟩:=hown.open;exact ⟨_,_,_,e⟩
  by_cases hkn:k < la.length
  ·
   obtain ⟨⟨x,y⟩,hp,hmem⟩:=Ai la k hkn
   obtain ⟨b,off,rfl,hlt,hc⟩:=HA.out.some (by omega)
   have HC:Hid (w.cell? ⟨b,off+k * 2,none⟩=some (.int .i64 x) ∧ w.cell? ⟨b,off+k * 2+1,none⟩=some (.int .i64 y)):=hc k x y hp
   obtain ⟨q1,q2,q3,q4⟩:=Ap (KA.out _ hmem)
   simp only [] at q1 q2 q3 q4
   have HMA:Hid ((x,y) ∈ la):=hmem
   have hts:la.take (k+1)=la.take k ++ [(x,y)]:=by rw [List.take_add_one,hp];rfl
   have HS:Hid (Bi (la.take (k+1)) lb=Bi (la.take k) lb ++ EC (x,y) lb):=by show _=_;rw [hts];exact Oe _ _ _
   have hTlen:(Bi (la.take k) lb).length ≤ 36:=by
    rw [EI,List.length_take]
    exact Nat.le_trans (Nat.mul_le_mul (show min k la.length ≤ 6 by omega) n2) (by decide)
   generalize Bi (la.take k) lb=T0 at *
   have HOW0:Hid (A9 wr w.heap.size (.slice a0 n0 k0) T0 ∧ BJ T0):=⟨hown,hokT⟩
   clear hc hp hmem hts hown hbr hokT
   go_wp2_with fail
   obtain ⟨GK,rfl⟩:∃ z,z=gk:=⟨gk,rfl⟩
   obtain ⟨wO,rfl⟩:∃ z,z=wr:=⟨wr,rfl⟩
   go_loopg [6,8] lb.length (fun gi v i wr2=>∃ j:Nat,gi+j=lb.length ∧ i=.int .i64 j ∧ A9 wr2 w.heap.size v (T0 ++ EC (x,y) (lb.take j)) ∧ BJ (T0 ++ EC (x,y) (lb.take j)) ∧ Below w.heap.size w wr2)
   case atStart=>exact ⟨0,rfl,rfl,by have:=HOW0.out.1;simpa [EC] using this,by have:=HOW0.out.2;simpa [EC] using this,HBR.out⟩
   case round=>
    obtain ⟨j,hgi,rfl,hown2,hok2,hb2⟩:=hrel
    have HB2:Hid (Below w.heap.size w wr):=hb2
    by_cases hjn:j < lb.length
    ·
     obtain ⟨⟨x',y'⟩,hp,hmem⟩:=Ai lb j hjn
     obtain ⟨b',off',rfl,hlt',hc⟩:=HB.out.some (by omega)
     have d1:wr.cell? ⟨b,off+k * 2,none⟩=some (.int .i64 x):=cell_later hb2 HC.out.1
     have d2:wr.cell? ⟨b,off+k * 2+1,none⟩=some (.int .i64 y):=cell_later hb2 HC.out.2
     have e1:=cell_later hb2 (hc j x' y' hp).1
     have e2:=cell_later hb2 (hc j x' y' hp).2
     obtain ⟨r1,r2,r3,r4⟩:=Ap (KB.out _ hmem)
     simp only [] at r1 r2 r3 r4
     have HIN:Hid ((x+x',y+y') ∈ Bi la lb):=ZH HMA.out hmem
     have hts:lb.take (j+1)=lb.take j ++ [(x',y')]:=by rw [List.take_add_one,hp];rfl
     have HSJ:Hid (T0 ++ EC (x,y) (lb.take (j+1))=(T0 ++ EC (x,y) (lb.take j)) ++ [(x+x',y+y')]):=by show _=_;rw [hts,Pf,List.append_assoc]
     have hT1:(T0 ++ EC (x,y) (lb.take j)).length ≤ 42:=by simp [EC];omega
     generalize T0 ++ EC (x,y) (lb.take j)=T1 at *
     obtain ⟨a3,n3,k3,rfl⟩:∃ a3 n3 k3,u6=.slice a3 n3 k3:=by obtain ⟨a,c,e,_⟩:=hown2.open;exact ⟨_,_,_,e⟩
     have HOWr:Hid (wr.ownsRow w.heap.size 83 2 (.slice a3 n3 k3) T1.length (Ar T1)):=hown2
     have HOK1:Hid (BJ T1):=hok2
     clear hc hp hmem hts hown2 hb2 hok2
     go_wp2_with fail
     go_region_held (fun w'=>w'.cell? ⟨b,off+k * 2,none⟩=some (.int .i64 x) ∧ w'.cell? ⟨b,off+k * 2+1,none⟩=some (.int .i64 y) ∧ w'.cell? ⟨b',off' + j * 2,none⟩=some (.int .i64 x') ∧ w'.cell? ⟨b',off' + j * 2+1,none⟩=some (.int .i64 y')) (go_keep) (fail)
     go_wp2_with fail
     have HW1:Hid (Below wr.heap.size wr (wr.alloc (.cells #[.int .i64 (x+x'),.int .i64 (y+y')] 83)).drew):=((Below.refl _ _).alloc (Nat.le_refl _) _).drew
     have HB3:Hid (Below w.heap.size w (wr.alloc (.cells #[.int .i64 (x+x'),.int .i64 (y+y')] 83)).drew):=HB2.out.trans (HW1.out.mono HB2.out.size)
     have HO3:Hid (A9 (wr.alloc (.cells #[.int .i64 (x+x'),.int .i64 (y+y')] 83)).drew w.heap.size (.slice a3 n3 k3) T1):=A9.later (ls:=T1) HOWr.out HW1.out
     have g1:(wr.alloc (.cells #[.int .i64 (x+x'),.int .i64 (y+y')] 83)).drew.cell? ⟨wr.heap.size,0,none⟩=some (.int .i64 (x+x')):=by simp
     have g2:(wr.alloc (.cells #[.int .i64 (x+x'),.int .i64 (y+y')] 83)).drew.cell? ⟨wr.heap.size,1,none⟩=some (.int .i64 (y+y')):=by simp
     have hlw:wr.heap.size < (wr.alloc (.cells #[.int .i64 (x+x'),.int .i64 (y+y')] 83)).drew.heap.size:=by simp
     clear HW1 d1 d2 e1 e2 HOWr HB2
     generalize (wr.alloc (.cells #[.int .i64 (x+x'),.int .i64 (y+y')] 83)).drew=W1 at *
     cases hz:BF (x+x') (y+y') with
     | false=>
      refine (Q3 _ _ _ hz).mono ?_
      rintro e w2 ⟨rfl,rfl⟩
      go_wp2_with fail
      go_ret2
      exact ⟨HB3.out.alloc HB3.out.size _,.inl ⟨fun h=>(by have:=h _ HIN.out;rw [hz] at this;cases this),rfl⟩⟩
     | true=>
      refine (Oi _ _ _ hz).mono ?_
      rintro e w2 ⟨rfl,rfl⟩
      have HNW:Hid (∀ j u,[Value.int .i64 (x+x'),.int .i64 (y+y')][j]? = some u → ((W1.alloc (.cells #[.int .i64 (x+x'),.int .i64 (y+y')] 83)).alloc (.cells #[.int .i64 (x+x'),.int .i64 (y+y')] 83)).cell? ((⟨W1.heap.size+1,0,none⟩:Addr).add j)=some u):=by
       have:=Er (W1.alloc (.cells #[.int .i64 (x+x'),.int .i64 (y+y')] 83)) (x+x') (y+y')
       rw [show (W1.alloc (.cells #[.int .i64 (x+x'),.int .i64 (y+y')] 83)).heap.size=W1.heap.size+1 by simp] at this
       exact this
      have HZ:Hid (BF (x+x') (y+y')=true):=hz
      have HOWr:Hid (W1.ownsRow w.heap.size 83 2 (.slice a3 n3 k3) T1.length (Ar T1)):=HO3.out
      clear hz
      go_wp2_with (at_builtin;refine wpList_append_own_at _ rfl _ _ 62 rfl w.heap.size 83 i0 (.agg #[.int .i64 0,.int .i64 0]) 2 16 Tryz.underlying62 hi hz0 hz1 hz2 rfl (by decide) (.slice a3 n3 k3) T1.length (Ar T1) rfl ((HOWr.out.alloc _).alloc _) ⟨W1.heap.size+1,0,none⟩ 1 1 [.int .i64 (x+x'),.int .i64 (y+y')] rfl rfl HNW.out (Et _ _) (by unfold maxLen;omega) (by omega) (Nat.le_trans HB3.out.size (by simp;omega)) ?_;intro v3 w3 hown3 hgrow3 _ hat3)
      have HB5:Hid (Below w.heap.size w w3):=A9.grownT (ls:=T1) ((HB3.out.alloc HB3.out.size _).alloc (by have:=HB3.out.size;simp;omega) _) ((HOWr.out.alloc _).alloc _) hgrow3
      have HO5:Hid (A9 w3 w.heap.size v3 (T1 ++ [(x+x',y+y')])):=A9.snoc hown3
      obtain ⟨a4,n4,k4,rfl⟩:∃ a4 n4 k4,v3=.slice a4 n4 k4:=by obtain ⟨a,c,e,_⟩:=HO5.out.open;exact ⟨_,_,_,e⟩
      clear hown3 hgrow3 hat3
      go_wp2_with fail
      go_roundg (gk - 1)
      case measure=>omega
      case rel=>exact ⟨j+1,by omega,by go_num,by rw [HSJ.out];exact HO5.out,by rw [HSJ.out];exact U2 HOK1.out HZ.out,HB5.out⟩
    ·
     have hj':j=lb.length:=by omega
     subst hj'
     rw [List.take_length] at hown2 hok2
     have HO3:Hid (A9 wr w.heap.size u6 (T0 ++ EC (x,y) lb) ∧ BJ (T0 ++ EC (x,y) lb)):=⟨hown2,hok2⟩
     obtain ⟨a3,n3,k3,rfl⟩:∃ a3 n3 k3,u6=.slice a3 n3 k3:=by obtain ⟨a,c,e,_⟩:=hown2.open;exact ⟨_,_,_,e⟩
     clear hown2 hb2 hok2
     go_wp2_with fail
     go_roundg (GK - 1)
     case measure=>omega
     case rel=>exact ⟨k+1,by omega,by go_num,by rw [HS.out];exact HO3.out.1,by rw [HS.out];exact HO3.out.2,HB2.out⟩
  ·
   have hk':k=la.length:=by omega
   subst hk'
   rw [List.take_length] at hown hokT
   obtain ⟨hn0,-,-,hL0⟩:=A9.lies hown
   have HL0:Hid (AL wr a0 (Bi la lb) ∧ BJ (Bi la lb) ∧ (Bi la lb).length ≤ 500 ∧ n0=(Bi la lb).length):=⟨hL0,hokT,by rw [EI];exact Nat.le_trans (Nat.mul_le_mul n1 n2) (by decide),hn0⟩
   clear hown hbr hokT hn0 hL0
   go_wp2_with fail
   rw [HL0.out.2.2.2]
   refine (Xe a0 k0 (Bi la lb) _ HL0.out.1 HL0.out.2.2.1 HL0.out.2.1).mono ?_
   rintro e w2 ⟨v,R,rfl,hkept,ho,hb2⟩
   have HB2:Hid (Below w.heap.size w w2):=HBR.out.trans (hb2.mono HBR.out.size)
   have HO2:Hid (A9 w2 w.heap.size v R):=CR ho HBR.out.size
   have HK:Hid (EY (Bi la lb) (Bi la lb).length R):=hkept
   have hRl:R.length ≤ 500:=Nat.le_trans hkept.len HL0.out.2.2.1
   obtain ⟨a4,k4,rfl,-,-,-⟩:=A9.open ho
   clear hkept ho hb2
   by_cases h6:6 < R.length
   ·
    go_wp2_with fail
    go_ret2
    exact ⟨HB2.out,.inr ⟨HL0.out.2.1,R,HK.out,.inl ⟨h6,rfl⟩⟩⟩
   ·
    go_wp2_with fail
    go_ret2
    exact ⟨HB2.out,.inr ⟨HL0.out.2.1,R,HK.out,.inr ⟨by omega,_,rfl,HO2.out⟩⟩⟩
end Go.Proofs.YtipdclphpkgceaaGreatDoor
