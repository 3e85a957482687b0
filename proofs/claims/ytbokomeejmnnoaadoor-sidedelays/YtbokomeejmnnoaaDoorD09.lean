/- Own facts, put together: no statement of its own. -/
import Derived.Test.YtbokomeejmnnoaaDoorD08
set_option maxHeartbeats 4000000

set_option maxRecDepth 100000
set_option linter.unusedSimpArgs false
namespace Go.Proofs.YtbokomeejmnnoaaDoor
open Go.RowKit
structure TellsD (cs:List (List (Int × Int))) (per wks:Int) (n:Nat) (v:World) (x y:Value):Prop where
 ask:∀ c,askCode n wks=c → c ≠ 0 → x=.slice none 0 0 ∧ CodeIs v y c (-1)
 bad:askCode n wks=0 → ∀ (k:Nat) c,k < n → (∀ j,j < k → ∃ d,GoodD per (cs.getD j []) d) → BadD per (cs.getD k []) c → x=.slice none 0 0 ∧ CodeIs v y c k
 good:askCode n wks=0 → ∀ ds:List Int,ds.length=n → (∀ (j:Nat) d,ds[j]? = some d → GoodD per (cs.getD j []) d) → y=.nilIface ∧ ∃ D,x=.slice (some ⟨D,0,none⟩) n n ∧ LiesN v (some ⟨D,0,none⟩) ds
theorem cell_newAt (W:World) (b:Nat) (x:Value) (t:TypeId) (h:b=W.heap.size):(W.alloc (.cells #[x] t)).cell? ((⟨b,0,none⟩:Addr).add 0)=some x:=by
 subst h
 simp [Addr.add]
theorem ways_is (per:Int) (ls:List (Int × Int)):(LinkOk ls per ∧ leastR ls * per ≤ 1000) ∨ (LinkOk ls per ∧ 1000 < leastR ls * per) ∨ (∃ c p,FaultIs ls c p ∧ 0 < c) ∨ (okCurve ls ∧ per < 1) ∨ (okCurve ls ∧ ¬ per < 1 ∧ 1000 < per):=by
 rcases link_is ls per with h | ⟨c,p,⟨h1,h2⟩ | ⟨h1,h2,-⟩⟩
 ·
  by_cases hl:leastR ls * per ≤ 1000
  · exact .inl ⟨h,hl⟩
  · exact .inr (.inl ⟨h,by omega⟩)
 · exact .inr (.inr (.inl ⟨c,p,h1,by have:=h1.num;omega⟩))
 ·
  by_cases h3:per < 1
  · exact .inr (.inr (.inr (.inl ⟨h1,h3⟩)))
  · exact .inr (.inr (.inr (.inr ⟨h1,h3,by omega⟩)))
section
variable {cs:List (List (Int × Int))}
theorem lw_rest (ca:Option Addr) (n ccap:Nat) (per wks:Int) (f:Nat → Value) (x6 v8 x y:Value) (v:World) (ad:Nat → Addr) (he:ErrsB v ad) (hc:LiesC v ca cs) (hm:cs.length=n) (hn:n ≤ 110) (hcap:n ≤ ccap) (h20:∀ (i:Nat) (ls:List (Int × Int)),cs[i]? = some ls → ls.length ≤ 20) (ht:TellsD cs per wks n v x y) :
  (lwRest Tryd.f3).wp Tryd.prog (fun e a v'=>e=.ret ∧ a.defers=[] ∧ a.tmps.getD 6 undef=.bool true ∧ Below v.heap.size v v') (lwW (.slice ca n ccap) (.int .i64 per) (.int .i64 wks) x6 (.bool true) v8 x y f) v:=by
 obtain ⟨i0,hi,hz0,hz1,hz2⟩:=info_parts Tryd.infoInt
 have HE:Hid (ErrsB v ad):=he
 have HC:Hid (LiesC v ca cs):=hc
 have HM:Hid (cs.length=n):=hm
 have H20:Hid (∀ (i:Nat) (ls:List (Int × Int)),cs[i]? = some ls → ls.length ≤ 20):=h20
 have HT:Hid (TellsD cs per wks n v x y):=ht
 obtain ⟨A,hA⟩:∃ A,askCode n wks=A:=⟨_,rfl⟩
 have HA:Hid (askCode n wks=A ∧ (A=0 ∨ 0 < A)):=⟨hA,by rcases ask_cases n wks with ⟨-,h⟩ | ⟨-,-,h⟩ | ⟨-,-,-,h⟩ | ⟨-,-,-,h⟩ <;> omega⟩
 have HW:Hid (∀ w,Calls Tryd.prog 7 #[.int .i64 wks,.int .i64 n] w fun e w'=>e=.returned (.agg #[.int .i64 A,.int .i64 (-1)]) ∧ Below w.heap.size w w'):=fun w=>by
  rw [← hA]
  exact workersFault_is wks n w
 clear he hc hm h20 ht hA
 simp only [lwRest,lwRest1,lwW,bodyC,firstC,secondC,Tryd.f3,Option.getD_some]
 go_wp2_with fail
 refine (HW.out _).mono ?_
 rintro e w1 ⟨rfl,hb1⟩
 have HB1:Hid (Below v.heap.size v w1):=hb1
 clear hb1
 go_wp2_with fail
 go_loopg [14,15] n (fun gk v14 iv wr=>∃ i:Nat,gk+i=n ∧ iv=.int .i64 i ∧ ∃ c p ds,RestAt cs per wks n v w1 i v14 c p ds wr)
 case atStart=>
  have hba:Below v.heap.size v (w1.alloc (.cells #[.int .i64 A,.int .i64 (-1)] 32)):=HB1.out.alloc HB1.out.size _
  refine ⟨0,by omega,rfl,A,-1,[],hba,HB1.out.size,by rw [World.size_alloc];omega,two_new w1 _ _ _,rfl,World.ownsRow_nil _ _ _ _,fun h0=>⟨by rw [HA.out.1];exact h0,fun j d hj=>by simp at hj⟩,fun h0=>⟨?_,.inl ⟨HA.out.1,rfl⟩⟩⟩
  rcases HA.out.2 with h | h
  · exact (h0 h).elim
  · exact h
 case round=>
  obtain ⟨i,hi',rfl,c,p,ds,hr⟩:=hrel
  have HR:Hid (RestAt cs per wks n v w1 i _ c p ds wr):=hr
  obtain ⟨k0,k1,kf0,kf1⟩:=hr.two
  clear hr
  by_cases hc0:c=0
  ·
   subst hc0
   by_cases him:i < n
   ·
    obtain ⟨ls,hls,-⟩:=get_some cs i (by rw [HM.out];exact him)
    obtain ⟨cb,co,rfl,-,hcc⟩:=HC.out.place (by rw [HM.out];omega)
    obtain ⟨a',cap,cj,hlies,hlc,hlm,hln⟩:=hcc i ls hls
    have cj':=cell_later HR.out.below cj
    have hgi:cs.getD i []=ls:=by simp [List.getD_eq_getElem?_getD,hls]
    have HOl:Hid (Calls Tryd.prog 5 #[.slice a' ls.length cap] wr fun e w'=>∃ v,e=.returned v ∧ OwnL w' wr.heap.size v ls ∧ Below wr.heap.size wr w'):=ownLines_any a' cap ls wr (hlies.below HR.out.below) (by have:=H20.out i ls hls;omega) hln
    have HG:Hid (cs.getD i []=ls):=hgi
    have HL:Hid (Lies wr a' ls ∧ ls.length ≤ cap ∧ cap ≤ maxLen):=⟨hlies.below HR.out.below,hlc,hlm⟩
    obtain ⟨q,hq⟩:∃ q,ls.length=q:=⟨_,rfl⟩
    have HQ:Hid (ls.length=q):=hq
    rw [hq] at cj' HOl
    clear hcc cj hlies hlc hlm hln hls hq hgi
    go_wp2_with fail
    refine HOl.out.mono ?_
    rintro e w5 ⟨v5,rfl,hov,hb5⟩
    obtain ⟨la,lcap,rfl,hl1,hl2,hl3⟩:=hov.open
    rw [HQ.out] at hl1 ⊢
    have HR5:Hid (RestAt cs per wks n v w1 i u14 0 p ds w5):=HR.out.later hb5
    have c5:=cell_later hb5 cj'
    have HL5:Hid (Lies w5 la ls ∧ q ≤ lcap ∧ lcap ≤ maxLen ∧ Lies w5 a' ls):=⟨hl3,hl1,hl2,HL.out.1.below hb5⟩
    clear hov hb5 hl1 hl2 hl3 cj' k0 k1 kf0 kf1
    go_wp2_with fail
    rcases ways_is per ls with ⟨hk,hk1⟩ | ⟨hk,hk1⟩ | ⟨c0,p0,hk,hk1⟩ | ⟨hk,hk1⟩ | ⟨hk,hk1,hk2⟩
    ·
     have HD:Hid (Calls Tryd.prog 8 #[.slice la q lcap,.int .i64 per] w5 fun e w'=>∃ d,e=.returned (.tuple #[.int .i64 d,.nilIface]) ∧ DelayIs per ls d ∧ Below w5.heap.size w5 w'):=by
      have:=delay_ok la lcap ls per w5 HL5.out.1 (by rw [HQ.out];exact HL5.out.2.1) HL5.out.2.2.1 hk hk1
      rwa [HQ.out] at this
     have HK:Hid (LinkOk ls per ∧ leastR ls * per ≤ 1000):=⟨hk,hk1⟩
     obtain ⟨-,hp1,hp2⟩:=hk
     have hp1':¬ per < 1:=by omega
     have hp2':¬ 1000 < per:=by omega
     clear hp1 hp2 hk1
     refine HD.out.mono ?_
     rintro e w6 ⟨d,rfl,hd,hb6⟩
     have HR6:Hid (RestAt cs per wks n v w1 i u14 0 p ds w6):=HR5.out.later hb6
     have c6:=cell_later hb6 c5
     have HDd:Hid (GoodD per ls d):=⟨HK.out.1,HK.out.2,hd⟩
     clear hd
     have HCf:Hid (Calls Tryd.prog 9 #[.slice a' q cap] w6 fun e w'=>e=.returned (.agg #[.int .i64 0,.int .i64 (-1)]) ∧ Below w6.heap.size w6 w'):=by
      have:=curveFault_is a' cap ls w6 (HL5.out.2.2.2.below hb6) HL.out.2.1 HL.out.2.2 0 (-1) (.inr (.inr ⟨HK.out.1.1,rfl,rfl⟩))
      rwa [HQ.out] at this
     clear hb6 c5
     go_wp2_with fail
     refine HCf.out.mono ?_
     rintro e w7 ⟨rfl,hb7⟩
     have HR7:Hid (RestAt cs per wks n v w1 i u14 0 p ds (w7.alloc (.cells #[.int .i64 0,.int .i64 (-1)] 32))):=(HR6.out.later hb7).later ((Below.refl _ _).alloc (Nat.le_refl _) _)
     clear hb7 c6
     have HZ:Hid (RestAt cs per wks n v w1 i u14 0 p ds ((w7.alloc (.cells #[.int .i64 0,.int .i64 (-1)] 32)).alloc (.cells #[.int .i64 d] 3))):=HR7.out.later ((Below.refl _ _).alloc (Nat.le_refl _) _)
     have HNew:Hid (∀ (j:Nat) u,(ints [d])[j]? = some u → ((w7.alloc (.cells #[.int .i64 0,.int .i64 (-1)] 32)).alloc (.cells #[.int .i64 d] 3)).cell? ((⟨w7.heap.size+1,0,none⟩:Addr).add j)=some u):=fun j u hj=>by
      cases j with
      | zero=>
       have:u=.int .i64 d:=by simpa [ints] using hj.symm
       rw [this]
       exact cell_newAt _ _ _ _ (by simp)
      | succ j=>simp [ints] at hj
     go_wp2_with (at_builtin;go_must (refine wpList_append_lies _ rfl _ _ 26 rfl (w1.heap.size+1) 3 i0 (.int .i64 0) 1 8 Tryd.underlying26 hi hz0 hz1 hz2 rfl (by decide) u14 i (ints ds) rfl HZ.out.own ⟨w7.heap.size+1,0,none⟩ 1 1 (ints [d]) rfl rfl HNew.out (ints_one _) (by decide) (by unfold maxLen;omega) (by omega) (Nat.succ_le_of_lt HZ.out.lt) _ rfl ?_;intro g cap' w9 h1 h2 h3 h4;have HPut:Hid (∃ c p ds,RestAt cs per wks n v w1 (i+1) (.slice (some ⟨g,0,none⟩) (i+1) cap') c p ds w9):=⟨0,p,ds ++ [d],HZ.out.grown (d:=d) h1 h2 (fun _=>by rw [HG.out];exact HDd.out)⟩;clear h1 h2 h3 h4))
     go_roundg (gk - 1)
     case measure=>omega
     case rel=>exact ⟨i+1,by omega,by go_num,HPut.out⟩
    ·
     have HD:Hid (Calls Tryd.prog 8 #[.slice la q lcap,.int .i64 per] w5 fun e w'=>e=.returned (.tuple #[.int .i64 0,.iface 139 (.pointer (some (ad 3)))]) ∧ Below w5.heap.size w5 w'):=by
      have:=delay_none la lcap ls per w5 ad (HE.out.below HR5.out.below).toErrs9 HL5.out.1 (by rw [HQ.out];exact HL5.out.2.1) HL5.out.2.2.1 hk hk1
      rwa [HQ.out] at this
     have HK:Hid (LinkOk ls per ∧ 1000 < leastR ls * per):=⟨hk,hk1⟩
     obtain ⟨-,hp1,hp2⟩:=hk
     have hp1':¬ per < 1:=by omega
     have hp2':¬ 1000 < per:=by omega
     clear hp1 hp2 hk1
     refine HD.out.mono ?_
     rintro e w6 ⟨rfl,hb6⟩
     have HR6:Hid (RestAt cs per wks n v w1 i u14 0 p ds w6):=HR5.out.later hb6
     have c6:=cell_later hb6 c5
     have HCf:Hid (Calls Tryd.prog 9 #[.slice a' q cap] w6 fun e w'=>e=.returned (.agg #[.int .i64 0,.int .i64 (-1)]) ∧ Below w6.heap.size w6 w'):=by
      have:=curveFault_is a' cap ls w6 (HL5.out.2.2.2.below hb6) HL.out.2.1 HL.out.2.2 0 (-1) (.inr (.inr ⟨HK.out.1.1,rfl,rfl⟩))
      rwa [HQ.out] at this
     clear hb6 c5
     go_wp2_with fail
     refine HCf.out.mono ?_
     rintro e w7 ⟨rfl,hb7⟩
     have HB7:Hid (Below w6.heap.size w6 w7):=hb7
     clear hb7 c6
     go_wp2_with fail
     refine (bare_any 4 _).mono ?_
     rintro e w8 ⟨rfl,hb8⟩
     obtain ⟨t0,t1,tf0,tf1⟩:=(two_new w7 (.int .i64 0) (.int .i64 (-1)) 32).later hb8
     have hb7':Below w6.heap.size w6 (w7.alloc (.cells #[.int .i64 0,.int .i64 (-1)] 32)):=HB7.out.alloc HB7.out.size _
     have hb68:Below w6.heap.size w6 w8:=hb7'.trans (hb8.mono hb7'.size)
     have HR9:Hid (RestAt cs per wks n v w1 i u14 0 p ds ((w8.setCell ⟨w7.heap.size,0,none⟩ (.int .i64 4)).setCell ⟨w7.heap.size,1,none⟩ (.int .i64 (-1)))):=HR6.out.later ((hb68.setCell HB7.out.size _).setCell HB7.out.size _)
     obtain ⟨g0,g1,gf0,gf1⟩:=HR9.out.two
     have HR10:Hid (RestAt cs per wks n v w1 i u14 4 i ds ((((w8.setCell ⟨w7.heap.size,0,none⟩ (.int .i64 4)).setCell ⟨w7.heap.size,1,none⟩ (.int .i64 (-1))).setCell ⟨w1.heap.size,0,none⟩ (.int .i64 4)).setCell ⟨w1.heap.size,1,none⟩ (.int .i64 i))):=HR9.out.fails him (by decide) (by rw [HG.out];exact .inr ⟨HK.out.1,HK.out.2,rfl⟩)
     clear hb8 hb7' hb68
     have HZ:Hid (RestAt cs per wks n v w1 i u14 4 i ds (((((w8.setCell ⟨w7.heap.size,0,none⟩ (.int .i64 4)).setCell ⟨w7.heap.size,1,none⟩ (.int .i64 (-1))).setCell ⟨w1.heap.size,0,none⟩ (.int .i64 4)).setCell ⟨w1.heap.size,1,none⟩ (.int .i64 i)).alloc (.cells #[.int .i64 0] 3))):=HR10.out.later ((Below.refl _ _).alloc (Nat.le_refl _) _)
     have HNew:Hid (∀ (j:Nat) u,(ints [0])[j]? = some u → (((((w8.setCell ⟨w7.heap.size,0,none⟩ (.int .i64 4)).setCell ⟨w7.heap.size,1,none⟩ (.int .i64 (-1))).setCell ⟨w1.heap.size,0,none⟩ (.int .i64 4)).setCell ⟨w1.heap.size,1,none⟩ (.int .i64 i)).alloc (.cells #[.int .i64 0] 3)).cell? ((⟨w8.heap.size,0,none⟩:Addr).add j)=some u):=fun j u hj=>by
      cases j with
      | zero=>
       have:u=.int .i64 0:=by simpa [ints] using hj.symm
       rw [this]
       exact cell_newAt _ _ _ _ (by simp)
      | succ j=>simp [ints] at hj
     go_wp2_with (at_builtin;go_must (refine wpList_append_lies _ rfl _ _ 26 rfl (w1.heap.size+1) 3 i0 (.int .i64 0) 1 8 Tryd.underlying26 hi hz0 hz1 hz2 rfl (by decide) u14 i (ints ds) rfl HZ.out.own ⟨w8.heap.size,0,none⟩ 1 1 (ints [0]) rfl rfl HNew.out (ints_one _) (by decide) (by unfold maxLen;omega) (by omega) (Nat.succ_le_of_lt HZ.out.lt) _ rfl ?_;intro g cap' w9 h1 h2 h3 h4;have HPut:Hid (∃ c p ds,RestAt cs per wks n v w1 (i+1) (.slice (some ⟨g,0,none⟩) (i+1) cap') c p ds w9):=⟨4,i,ds ++ [0],HZ.out.grown (d:=0) h1 h2 (fun h0=>absurd h0 (by decide))⟩;clear h1 h2 h3 h4))
     go_roundg (gk - 1)
     case measure=>omega
     case rel=>exact ⟨i+1,by omega,by go_num,HPut.out⟩
    ·
     have HD:Hid (Calls Tryd.prog 8 #[.slice la q lcap,.int .i64 per] w5 fun e w'=>∃ ty v,e=.returned (.tuple #[.int .i64 0,.iface ty v]) ∧ ErrIs w' (.iface ty v) c0 p0 ∧ Below w5.heap.size w5 w'):=by
      have:=delay_bad la lcap ls per w5 ad (HE.out.below HR5.out.below).toErrs9 HL5.out.1 (by rw [HQ.out];exact HL5.out.2.1) HL5.out.2.2.1 c0 p0 (.inl ⟨hk,by omega⟩)
      rwa [HQ.out] at this
     have HK:Hid (FaultIs ls c0 p0):=hk
     have hc00:¬ c0=0:=by omega
     clear hk
     refine HD.out.mono ?_
     rintro e w6 ⟨ty,ev,rfl,-,hb6⟩
     have HR6:Hid (RestAt cs per wks n v w1 i u14 0 p ds w6):=HR5.out.later hb6
     have c6:=cell_later hb6 c5
     have HCf:Hid (Calls Tryd.prog 9 #[.slice a' q cap] w6 fun e w'=>e=.returned (.agg #[.int .i64 c0,.int .i64 p0]) ∧ Below w6.heap.size w6 w'):=by
      have:=curveFault_is a' cap ls w6 (HL5.out.2.2.2.below hb6) HL.out.2.1 HL.out.2.2 c0 p0 HK.out
      rwa [HQ.out] at this
     clear hb6 c5
     go_wp2_with fail
     refine HCf.out.mono ?_
     rintro e w7 ⟨rfl,hb7⟩
     have HR8:Hid (RestAt cs per wks n v w1 i u14 0 p ds (w7.alloc (.cells #[.int .i64 c0,.int .i64 p0] 32))):=(HR6.out.later hb7).later ((Below.refl _ _).alloc (Nat.le_refl _) _)
     obtain ⟨g0,g1,gf0,gf1⟩:=HR8.out.two
     have HR10:Hid (RestAt cs per wks n v w1 i u14 c0 i ds (((w7.alloc (.cells #[.int .i64 c0,.int .i64 p0] 32)).setCell ⟨w1.heap.size,0,none⟩ (.int .i64 c0)).setCell ⟨w1.heap.size,1,none⟩ (.int .i64 i))):=HR8.out.fails him hk1 (by rw [HG.out];exact .inl ⟨p0,.inl ⟨HK.out,hc00⟩⟩)
     clear hb7 c6
     have HZ:Hid (RestAt cs per wks n v w1 i u14 c0 i ds ((((w7.alloc (.cells #[.int .i64 c0,.int .i64 p0] 32)).setCell ⟨w1.heap.size,0,none⟩ (.int .i64 c0)).setCell ⟨w1.heap.size,1,none⟩ (.int .i64 i)).alloc (.cells #[.int .i64 0] 3))):=HR10.out.later ((Below.refl _ _).alloc (Nat.le_refl _) _)
     have HNew:Hid (∀ (j:Nat) u,(ints [0])[j]? = some u → ((((w7.alloc (.cells #[.int .i64 c0,.int .i64 p0] 32)).setCell ⟨w1.heap.size,0,none⟩ (.int .i64 c0)).setCell ⟨w1.heap.size,1,none⟩ (.int .i64 i)).alloc (.cells #[.int .i64 0] 3)).cell? ((⟨w7.heap.size+1,0,none⟩:Addr).add j)=some u):=fun j u hj=>by
      cases j with
      | zero=>
       have:u=.int .i64 0:=by simpa [ints] using hj.symm
       rw [this]
       exact cell_newAt _ _ _ _ (by simp)
      | succ j=>simp [ints] at hj
     go_wp2_with (at_builtin;go_must (refine wpList_append_lies _ rfl _ _ 26 rfl (w1.heap.size+1) 3 i0 (.int .i64 0) 1 8 Tryd.underlying26 hi hz0 hz1 hz2 rfl (by decide) u14 i (ints ds) rfl HZ.out.own ⟨w7.heap.size+1,0,none⟩ 1 1 (ints [0]) rfl rfl HNew.out (ints_one _) (by decide) (by unfold maxLen;omega) (by omega) (Nat.succ_le_of_lt HZ.out.lt) _ rfl ?_;intro g cap' w9 h1 h2 h3 h4;have HPut:Hid (∃ c p ds,RestAt cs per wks n v w1 (i+1) (.slice (some ⟨g,0,none⟩) (i+1) cap') c p ds w9):=⟨c0,i,ds ++ [0],HZ.out.grown (d:=0) h1 h2 (fun h0=>absurd h0 hc00)⟩;clear h1 h2 h3 h4))
     go_roundg (gk - 1)
     case measure=>omega
     case rel=>exact ⟨i+1,by omega,by go_num,HPut.out⟩
    ·
     have HD:Hid (Calls Tryd.prog 8 #[.slice la q lcap,.int .i64 per] w5 fun e w'=>∃ ty v,e=.returned (.tuple #[.int .i64 0,.iface ty v]) ∧ ErrIs w' (.iface ty v) 2 (-1) ∧ Below w5.heap.size w5 w'):=by
      have:=delay_bad la lcap ls per w5 ad (HE.out.below HR5.out.below).toErrs9 HL5.out.1 (by rw [HQ.out];exact HL5.out.2.1) HL5.out.2.2.1 2 (-1) (.inr ⟨hk,.inl hk1,rfl,rfl⟩)
      rwa [HQ.out] at this
     have HK:Hid (okCurve ls ∧ (per < 1 ∨ 1000 < per)):=⟨hk,.inl hk1⟩
     clear hk
     refine HD.out.mono ?_
     rintro e w6 ⟨ty,ev,rfl,-,hb6⟩
     have HR6:Hid (RestAt cs per wks n v w1 i u14 0 p ds w6):=HR5.out.later hb6
     have c6:=cell_later hb6 c5
     have HCf:Hid (Calls Tryd.prog 9 #[.slice a' q cap] w6 fun e w'=>e=.returned (.agg #[.int .i64 0,.int .i64 (-1)]) ∧ Below w6.heap.size w6 w'):=by
      have:=curveFault_is a' cap ls w6 (HL5.out.2.2.2.below hb6) HL.out.2.1 HL.out.2.2 0 (-1) (.inr (.inr ⟨HK.out.1,rfl,rfl⟩))
      rwa [HQ.out] at this
     clear hb6 c5
     go_wp2_with fail
     refine HCf.out.mono ?_
     rintro e w7 ⟨rfl,hb7⟩
     have HB7:Hid (Below w6.heap.size w6 w7):=hb7
     clear hb7 c6
     go_wp2_with fail
     refine (bare_any 2 _).mono ?_
     rintro e w8 ⟨rfl,hb8⟩
     obtain ⟨t0,t1,tf0,tf1⟩:=(two_new w7 (.int .i64 0) (.int .i64 (-1)) 32).later hb8
     have hb7':Below w6.heap.size w6 (w7.alloc (.cells #[.int .i64 0,.int .i64 (-1)] 32)):=HB7.out.alloc HB7.out.size _
     have hb68:Below w6.heap.size w6 w8:=hb7'.trans (hb8.mono hb7'.size)
     have HR9:Hid (RestAt cs per wks n v w1 i u14 0 p ds ((w8.setCell ⟨w7.heap.size,0,none⟩ (.int .i64 2)).setCell ⟨w7.heap.size,1,none⟩ (.int .i64 (-1)))):=HR6.out.later ((hb68.setCell HB7.out.size _).setCell HB7.out.size _)
     obtain ⟨g0,g1,gf0,gf1⟩:=HR9.out.two
     have HR10:Hid (RestAt cs per wks n v w1 i u14 2 i ds ((((w8.setCell ⟨w7.heap.size,0,none⟩ (.int .i64 2)).setCell ⟨w7.heap.size,1,none⟩ (.int .i64 (-1))).setCell ⟨w1.heap.size,0,none⟩ (.int .i64 2)).setCell ⟨w1.heap.size,1,none⟩ (.int .i64 i))):=HR9.out.fails him (by decide) (by rw [HG.out];exact .inl ⟨-1,.inr ⟨HK.out.1,HK.out.2,rfl,rfl⟩⟩)
     clear hb8 hb7' hb68
     have HZ:Hid (RestAt cs per wks n v w1 i u14 2 i ds (((((w8.setCell ⟨w7.heap.size,0,none⟩ (.int .i64 2)).setCell ⟨w7.heap.size,1,none⟩ (.int .i64 (-1))).setCell ⟨w1.heap.size,0,none⟩ (.int .i64 2)).setCell ⟨w1.heap.size,1,none⟩ (.int .i64 i)).alloc (.cells #[.int .i64 0] 3))):=HR10.out.later ((Below.refl _ _).alloc (Nat.le_refl _) _)
     have HNew:Hid (∀ (j:Nat) u,(ints [0])[j]? = some u → (((((w8.setCell ⟨w7.heap.size,0,none⟩ (.int .i64 2)).setCell ⟨w7.heap.size,1,none⟩ (.int .i64 (-1))).setCell ⟨w1.heap.size,0,none⟩ (.int .i64 2)).setCell ⟨w1.heap.size,1,none⟩ (.int .i64 i)).alloc (.cells #[.int .i64 0] 3)).cell? ((⟨w8.heap.size,0,none⟩:Addr).add j)=some u):=fun j u hj=>by
      cases j with
      | zero=>
       have:u=.int .i64 0:=by simpa [ints] using hj.symm
       rw [this]
       exact cell_newAt _ _ _ _ (by simp)
      | succ j=>simp [ints] at hj
     go_wp2_with (at_builtin;go_must (refine wpList_append_lies _ rfl _ _ 26 rfl (w1.heap.size+1) 3 i0 (.int .i64 0) 1 8 Tryd.underlying26 hi hz0 hz1 hz2 rfl (by decide) u14 i (ints ds) rfl HZ.out.own ⟨w8.heap.size,0,none⟩ 1 1 (ints [0]) rfl rfl HNew.out (ints_one _) (by decide) (by unfold maxLen;omega) (by omega) (Nat.succ_le_of_lt HZ.out.lt) _ rfl ?_;intro g cap' w9 h1 h2 h3 h4;have HPut:Hid (∃ c p ds,RestAt cs per wks n v w1 (i+1) (.slice (some ⟨g,0,none⟩) (i+1) cap') c p ds w9):=⟨2,i,ds ++ [0],HZ.out.grown (d:=0) h1 h2 (fun h0=>absurd h0 (by decide))⟩;clear h1 h2 h3 h4))
     go_roundg (gk - 1)
     case measure=>omega
     case rel=>exact ⟨i+1,by omega,by go_num,HPut.out⟩
    ·
     have HD:Hid (Calls Tryd.prog 8 #[.slice la q lcap,.int .i64 per] w5 fun e w'=>∃ ty v,e=.returned (.tuple #[.int .i64 0,.iface ty v]) ∧ ErrIs w' (.iface ty v) 2 (-1) ∧ Below w5.heap.size w5 w'):=by
      have:=delay_bad la lcap ls per w5 ad (HE.out.below HR5.out.below).toErrs9 HL5.out.1 (by rw [HQ.out];exact HL5.out.2.1) HL5.out.2.2.1 2 (-1) (.inr ⟨hk,.inr hk2,rfl,rfl⟩)
      rwa [HQ.out] at this
     have HK:Hid (okCurve ls ∧ (per < 1 ∨ 1000 < per)):=⟨hk,.inr hk2⟩
     clear hk
     refine HD.out.mono ?_
     rintro e w6 ⟨ty,ev,rfl,-,hb6⟩
     have HR6:Hid (RestAt cs per wks n v w1 i u14 0 p ds w6):=HR5.out.later hb6
     have c6:=cell_later hb6 c5
     have HCf:Hid (Calls Tryd.prog 9 #[.slice a' q cap] w6 fun e w'=>e=.returned (.agg #[.int .i64 0,.int .i64 (-1)]) ∧ Below w6.heap.size w6 w'):=by
      have:=curveFault_is a' cap ls w6 (HL5.out.2.2.2.below hb6) HL.out.2.1 HL.out.2.2 0 (-1) (.inr (.inr ⟨HK.out.1,rfl,rfl⟩))
      rwa [HQ.out] at this
     clear hb6 c5
     go_wp2_with fail
     refine HCf.out.mono ?_
     rintro e w7 ⟨rfl,hb7⟩
     have HB7:Hid (Below w6.heap.size w6 w7):=hb7
     clear hb7 c6
     go_wp2_with fail
     refine (bare_any 2 _).mono ?_
     rintro e w8 ⟨rfl,hb8⟩
     obtain ⟨t0,t1,tf0,tf1⟩:=(two_new w7 (.int .i64 0) (.int .i64 (-1)) 32).later hb8
     have hb7':Below w6.heap.size w6 (w7.alloc (.cells #[.int .i64 0,.int .i64 (-1)] 32)):=HB7.out.alloc HB7.out.size _
     have hb68:Below w6.heap.size w6 w8:=hb7'.trans (hb8.mono hb7'.size)
     have HR9:Hid (RestAt cs per wks n v w1 i u14 0 p ds ((w8.setCell ⟨w7.heap.size,0,none⟩ (.int .i64 2)).setCell ⟨w7.heap.size,1,none⟩ (.int .i64 (-1)))):=HR6.out.later ((hb68.setCell HB7.out.size _).setCell HB7.out.size _)
     obtain ⟨g0,g1,gf0,gf1⟩:=HR9.out.two
     have HR10:Hid (RestAt cs per wks n v w1 i u14 2 i ds ((((w8.setCell ⟨w7.heap.size,0,none⟩ (.int .i64 2)).setCell ⟨w7.heap.size,1,none⟩ (.int .i64 (-1))).setCell ⟨w1.heap.size,0,none⟩ (.int .i64 2)).setCell ⟨w1.heap.size,1,none⟩ (.int .i64 i))):=HR9.out.fails him (by decide) (by rw [HG.out];exact .inl ⟨-1,.inr ⟨HK.out.1,HK.out.2,rfl,rfl⟩⟩)
     clear hb8 hb7' hb68
     have HZ:Hid (RestAt cs per wks n v w1 i u14 2 i ds (((((w8.setCell ⟨w7.heap.size,0,none⟩ (.int .i64 2)).setCell ⟨w7.heap.size,1,none⟩ (.int .i64 (-1))).setCell ⟨w1.heap.size,0,none⟩ (.int .i64 2)).setCell ⟨w1.heap.size,1,none⟩ (.int .i64 i)).alloc (.cells #[.int .i64 0] 3))):=HR10.out.later ((Below.refl _ _).alloc (Nat.le_refl _) _)
     have HNew:Hid (∀ (j:Nat) u,(ints [0])[j]? = some u → (((((w8.setCell ⟨w7.heap.size,0,none⟩ (.int .i64 2)).setCell ⟨w7.heap.size,1,none⟩ (.int .i64 (-1))).setCell ⟨w1.heap.size,0,none⟩ (.int .i64 2)).setCell ⟨w1.heap.size,1,none⟩ (.int .i64 i)).alloc (.cells #[.int .i64 0] 3)).cell? ((⟨w8.heap.size,0,none⟩:Addr).add j)=some u):=fun j u hj=>by
      cases j with
      | zero=>
       have:u=.int .i64 0:=by simpa [ints] using hj.symm
       rw [this]
       exact cell_newAt _ _ _ _ (by simp)
      | succ j=>simp [ints] at hj
     go_wp2_with (at_builtin;go_must (refine wpList_append_lies _ rfl _ _ 26 rfl (w1.heap.size+1) 3 i0 (.int .i64 0) 1 8 Tryd.underlying26 hi hz0 hz1 hz2 rfl (by decide) u14 i (ints ds) rfl HZ.out.own ⟨w8.heap.size,0,none⟩ 1 1 (ints [0]) rfl rfl HNew.out (ints_one _) (by decide) (by unfold maxLen;omega) (by omega) (Nat.succ_le_of_lt HZ.out.lt) _ rfl ?_;intro g cap' w9 h1 h2 h3 h4;have HPut:Hid (∃ c p ds,RestAt cs per wks n v w1 (i+1) (.slice (some ⟨g,0,none⟩) (i+1) cap') c p ds w9):=⟨2,i,ds ++ [0],HZ.out.grown (d:=0) h1 h2 (fun h0=>absurd h0 (by decide))⟩;clear h1 h2 h3 h4))
     go_roundg (gk - 1)
     case measure=>omega
     case rel=>exact ⟨i+1,by omega,by go_num,HPut.out⟩
   ·
    obtain rfl:i=n:=by omega
    obtain ⟨rfl,D,rfl,hD⟩:=HT.out.good (HR.out.none_ rfl).1 ds HR.out.len (HR.out.none_ rfl).2
    have HS:Hid (Calls Tryd.prog 12 #[.slice (some ⟨D,0,none⟩) i i,u14] wr fun e w'=>e=.returned (.bool true) ∧ Below wr.heap.size wr w'):=by
     have hlen:=HR.out.len
     obtain ⟨h1,⟨rfl,h0⟩ | ⟨g,cap,cur,rfl,hB,hg,hn',hm',hc',ht'⟩⟩:=HR.out.own
     ·
      subst h0
      exact sameInts_empty _ _ _ _ _
     ·
      have ho:=HR.out.own
      rw [← hlen] at ho
      refine sameInts_yes D 0 g 0 i i cap (fun j=>ds.getD j 0) wr (by omega) (fun j hj=>?_) fun j hj=>?_
      ·
       obtain ⟨b,off,e,-,hx⟩:=hD.place (by omega)
       cases e
       obtain ⟨d,hd,-⟩:=get_some ds j (by omega)
       rw [HR.out.below.cell (p:=⟨D,0+j,none⟩) (cell_lt (hx j d hd)),hx j d hd]
       simp [List.getD_eq_getElem?_getD,hd]
      ·
       obtain ⟨d,hd,-⟩:=get_some ds j (by omega)
       rw [Nat.zero_add,HR.out.own.cellAt j (by omega)]
       simp [ints,List.getD_eq_getElem?_getD,hd]
    go_wp2_with fail
    refine HS.out.mono ?_
    rintro e w5 ⟨rfl,hb5⟩
    have HB5:Hid (Below v.heap.size v w5):=HR.out.below.trans (hb5.mono HR.out.below.size)
    clear hb5
    go_wp2_with fail
    exact HB5.out
  ·
   have hcp:0 < c:=(HR.out.some_ hc0).1
   have HX:Hid (x=.slice none 0 0 ∧ CodeIs wr y c p):=by
    rcases (HR.out.some_ hc0).2 with ⟨h1,rfl⟩ | ⟨h1,k,h2,rfl,h3,h4⟩
    · exact ⟨(HT.out.ask c h1 hc0).1,(HT.out.ask c h1 hc0).2.below HR.out.below⟩
    · exact ⟨(HT.out.bad h1 k c h2 h3 h4).1,(HT.out.bad h1 k c h2 h3 h4).2.below HR.out.below⟩
   obtain rfl:=HX.out.1
   have HF:Hid (Calls Tryd.prog 11 #[y,.agg #[.int .i64 c,.int .i64 p]] wr fun e w'=>e=.returned (.bool true) ∧ Below wr.heap.size wr w'):=faulted_yes y c p wr HX.out.2 (HE.out.below HR.out.below)
   by_cases him:i < n
   ·
    go_wp2_with fail
    refine HF.out.mono ?_
    rintro e w5 ⟨rfl,hb5⟩
    have HB5:Hid (Below v.heap.size v w5):=HR.out.below.trans (hb5.mono HR.out.below.size)
    clear hb5
    go_wp2_with fail
    exact HB5.out
   ·
    go_wp2_with fail
    refine HF.out.mono ?_
    rintro e w5 ⟨rfl,hb5⟩
    have HB5:Hid (Below v.heap.size v w5):=HR.out.below.trans (hb5.mono HR.out.below.size)
    clear hb5
    go_wp2_with fail
    exact HB5.out
end
end Go.Proofs.YtbokomeejmnnoaaDoor
