/- Own facts, put together: no statement of its own. -/
import Derived.Test.YtipdclphpkgceaaGreatDoorA08
import Derived.Laws.StructEq
import Derived.BigQuiet
import Derived.Test.YtipdclphpkgceaaGreatDoorA01
import Derived.Test.YtipdclphpkgceaaGreatDoorA06
import Derived.Test.YtipdclphpkgceaaGreatDoorA07
import Derived.Deep.AppendLies
set_option maxHeartbeats 2000000
set_option maxRecDepth 100000

namespace Go.Proofs.YtipdclphpkgceaaGreatDoor
open Go.RowKit
def LC (w:World) (D:Nat) (q:List Pk):Prop:=∀ (i:Nat) p,q[i]? = some p → w.cell? ⟨D,i * 3,none⟩=some (.int .i64 p.flow) ∧ w.cell? ⟨D,i * 3+1,none⟩=some (.int .i64 p.size) ∧ w.cell? ⟨D,i * 3+2,none⟩=some (.int .i64 p.tick)
theorem LC.but {S:Nat → Prop} {w w':World} {D:Nat} {q:List Pk} (h:LC w D q) (hb:But S w w') (hD:D < w.heap.size) (hs:¬ S D):LC w' D q:=fun i p hi=>by
 have:=h i p hi
 exact ⟨by rw [hb.cell (p:=⟨D,i * 3,none⟩) hD hs];exact this.1,by rw [hb.cell (p:=⟨D,i * 3+1,none⟩) hD hs];exact this.2.1,by rw [hb.cell (p:=⟨D,i * 3+2,none⟩) hD hs];exact this.2.2⟩
theorem LC.step {w:World} {D n:Nat} {q:List Pk} (h:LC w D q) (hr:Room w D n) (k:Nat) (hk:q.length=k) (hn:k * 3+2 < n) (x y z:Int) :
  LC (((w.setCell ⟨D,k * 3,none⟩ (.int .i64 x)).setCell ⟨D,k * 3+1,none⟩ (.int .i64 y)).setCell ⟨D,k * 3+2,none⟩ (.int .i64 z)) D (q ++ [⟨x,y,z⟩]):=by
 intro i p hi
 rcases EG hi with ⟨h1,h2⟩ | ⟨h1,h2⟩
 ·
  have:=h i p h2
  refine ⟨?_,?_,?_⟩
  · rw [World.cell?_setCell_other _ _ _ _ (by simp <;> omega),World.cell?_setCell_other _ _ _ _ (by simp <;> omega),World.cell?_setCell_other _ _ _ _ (by simp <;> omega)];exact this.1
  · rw [World.cell?_setCell_other _ _ _ _ (by simp <;> omega),World.cell?_setCell_other _ _ _ _ (by simp <;> omega),World.cell?_setCell_other _ _ _ _ (by simp <;> omega)];exact this.2.1
  · rw [World.cell?_setCell_other _ _ _ _ (by simp <;> omega),World.cell?_setCell_other _ _ _ _ (by simp <;> omega),World.cell?_setCell_other _ _ _ _ (by simp <;> omega)];exact this.2.2
 ·
  rw [h1,h2,hk]
  obtain ⟨u0,hu0⟩:=hr.cell (k * 3) (by omega)
  obtain ⟨u1,hu1⟩:=(hr.set (k * 3) (.int .i64 x)).cell (k * 3+1) (by omega)
  obtain ⟨u2,hu2⟩:=((hr.set (k * 3) (.int .i64 x)).set (k * 3+1) (.int .i64 y)).cell (k * 3+2) (by omega)
  refine ⟨?_,?_,?_⟩
  ·
   rw [World.cell?_setCell_other _ _ _ _ (by simp),World.cell?_setCell_other _ _ _ _ (by simp)]
   exact World.cell?_setCell_same _ _ _ hu0
  ·
   rw [World.cell?_setCell_other _ _ _ _ (by simp)]
   exact World.cell?_setCell_same _ _ _ hu1
  · exact World.cell?_setCell_same _ _ _ hu2
def Nl (ls:List (Int × Int)) (ps:List Pk) (ad:Nat → Addr) (w:World) (e:Ending) (w':World):Prop:=
 Below w.heap.size w w' ∧
 ((∃ s D,shape ls ps=some s ∧ e=.returned (.tuple #[.slice (some ⟨D,0,none⟩) ps.length ps.length,.nilIface]) ∧ w.heap.size ≤ D ∧ AO w' (some ⟨D,0,none⟩) s.out) ∨
  (∃ (j:Nat) (p:Pk) (s:Sh) (F:Nat),ps[j]? = some p ∧ shape ls (ps.take j)=some s ∧ Cz s p=none ∧ e=.returned (.tuple #[.slice none 0 0,.iface 75 (.pointer (some ⟨F,0,none⟩))]) ∧ w'.cell? ⟨F,0,none⟩=some (.int .i64 j) ∧ w'.cell? ⟨F,1,none⟩=some (.iface 312 (.pointer (some (ad 3))))))
structure aG (ls:List (Int × Int)) (ps:List Pk) (w wr:World) (B D:Nat) (gs:List Nat) (n k:Nat) (s:Sh):Prop where
 run:shape ls (ps.take k)=some s
 sh:ShAt wr B gs s.bs
 room:Room wr D (n * 3)
 out:LC wr D s.out
 below:Below w.heap.size w wr
 dlt:D < wr.heap.size
structure Laid (w:World) (B D:Nat) (gs:List Nat):Prop where
 b0:w.heap.size ≤ B
 bd:B < D
 gd:∀ g,g ∈ gs → B < g ∧ g < D
theorem PM (la:Option Addr) (lcap:Nat) (ls:List (Int × Int)) (pa:Option Addr) (cap:Nat) (ps:List Pk) (w:World) (ad:Nat → Addr) (he:Gt w ad) (hl:AL w la ls) (hk:Ag ls) (hp:AO w pa ps) (ho:Aj ps) :
  Calls Tryz.prog 164 #[.slice la ls.length lcap,.slice pa ps.length cap] w fun e w'=>Nl ls ps ad w e w':=by
 have HP:Hid (AO w pa ps ∧ Aj ps):=⟨hp,ho⟩
 have HL:Hid (AL w la ls ∧ Ag ls):=⟨hl,hk⟩
 have HE:Hid (Gt w ad):=he
 have hn300:ps.length ≤ 300:=ho.few
 clear hl hk hp ho he
 obtain ⟨n,hn⟩:∃ n,ps.length=n:=⟨_,rfl⟩
 have HN:Hid (ps.length=n):=hn
 have HCB:Hid (Calls Tryz.prog 190 #[.slice la ls.length lcap,.slice pa n cap] w fun e w'=>e=.returned .nilIface ∧ Below w.heap.size w w'):=by
  have:=Qb la lcap ls pa cap ps w HL.out.1 HL.out.2 HP.out.1 HP.out.2
  rwa [hn] at this
 rw [hn] at hn300 ⊢
 clear hn
 obtain ⟨i0,hi,hz0,hz1,hz2⟩:=info_parts Tryz.infoPkt
 have hmk:∀ w':World,(Instr.makeSlice 52 (.int .i64 n) (.int .i64 n)).run Tryz.prog w'=.ok (.slice (some ⟨w'.heap.size,0,none⟩) n n) (w'.alloc (.cells (madeCells #[.int .i64 0,.int .i64 0,.int .i64 0] (n * 3)) 58)):=fun w'=>by
  have:=run_make (P:=Tryz.prog) w' 52 58 i0 (.agg #[.int .i64 0,.int .i64 0,.int .i64 0]) Tryz.underlying52 hi hz0 .i64 .i64 n n (by omega) (by omega) (by rw [hz2];omega) (by omega)
  simpa [hz1,Value.cells] using this
 clear hi hz0 hz1 hz2
 go_enter Tryz.func164,Tryz.ntmps164
 go_wp2_with fail
 refine HCB.out.mono ?_
 rintro e w1 ⟨rfl,hb1⟩
 have HB1:Hid (Below w.heap.size w w1):=hb1
 clear hb1
 go_wp2_with fail
 refine (Oz la lcap ls _ (HL.out.1.below HB1.out) HL.out.2).mono ?_
 rintro e w2 ⟨gs,rfl,hsh2,hb2⟩
 have HSh2:Hid (ShAt w2 w1.heap.size gs (ls.map F7)):=hsh2
 have HB2:Hid (Below w.heap.size w w2):=HB1.out.trans (hb2.mono HB1.out.size)
 have hB2:w1.heap.size < w2.heap.size:=by
  obtain ⟨g,hg,-⟩:=Ai gs 0 (by rw [hsh2.len,List.length_map];exact HL.out.2.1)
  exact Ck (hsh2.ptr 0 g hg)
 have hgd:∀ g,g ∈ gs → w1.heap.size < g ∧ g < w2.heap.size:=fun g hg=>by
  refine ⟨hsh2.new g hg,?_⟩
  obtain ⟨i,hi⟩:=List.mem_iff_getElem?.1 hg
  have hil:i < (ls.map F7).length:=by
   rw [← hsh2.len]
   rcases Nat.lt_or_ge i gs.length with h | h
   · exact h
   · simp [List.getElem?_eq_none h] at hi
  exact (hsh2.bk i g _ hi (List.getElem?_eq_getElem hil)).lt
 have HLaid:Hid (Laid w w1.heap.size w2.heap.size gs):=⟨HB1.out.size,hB2,hgd⟩
 have hal:Below w2.heap.size w2 (w2.alloc (.cells (madeCells #[.int .i64 0,.int .i64 0,.int .i64 0] (n * 3)) 58)):=(Below.refl _ _).alloc (Nat.le_refl _) _
 have HWork:Hid (aG ls ps w (w2.alloc (.cells (madeCells #[.int .i64 0,.int .i64 0,.int .i64 0] (n * 3)) 58)) w1.heap.size w2.heap.size gs n 0 ⟨ls.map F7,0,[]⟩):=
  ⟨by simp [shape],hsh2.below hal hB2,Pj w2 _ (n * 3) 58,(fun i p h=>by simp at h),HB2.out.trans (hal.mono HB2.out.size),by simp⟩
 clear hsh2 hb2 hB2 hgd hal
 go_wp2_with fail
 generalize w2.alloc (.cells (madeCells #[.int .i64 0,.int .i64 0,.int .i64 0] (n * 3)) 58)=w3 at *
 generalize w1.heap.size=B at *
 generalize w2.heap.size=D at *
 clear hmk
 go_loopw [9,27] (fun l i wr=>∃ k:Nat,k ≤ n ∧ i=.int .i64 k ∧ ∃ s,l=.int .i64 s.left ∧ aG ls ps w wr B D gs n k s) (fun _ i _=>n - (intOf i).toNat)
 case atStart=>exact ⟨0,Nat.zero_le _,rfl,_,rfl,HWork.out⟩
 case round=>
  obtain ⟨k,hk,rfl,s,rfl,hwk⟩:=hrel
  have HWk:Hid (aG ls ps w wr B D gs n k s):=hwk
  have hok':Aj (ps.take k):=by
   refine ⟨by have:=HP.out.2.few;simp;omega,fun i p hi=>?_⟩
   have hik:i < k:=by
    rcases Nat.lt_or_ge i k with h | h
    · exact h
    · rw [List.getElem?_take,if_neg (by omega)] at hi;cases hi
   rw [List.getElem?_take_of_lt hik] at hi
   have:=HP.out.2.each i p hi
   refine ⟨this.1,?_⟩
   have e:ahead (ps.take k) i=ahead ps i:=by
    cases i with
    | zero=>rfl
    | succ i=>simp only [ahead];rw [List.getElem?_take_of_lt (by omega)]
   rw [e];exact this.2
  have HGood:Hid (I6 ls (ps.take k) s):=Hg HL.out.2 _ _ hok' hwk.run
  clear hok'
  by_cases hkn:k < n
  ·
   obtain ⟨⟨x,y,z⟩,hp,-⟩:=Ai ps k (by rw [HN.out];exact hkn)
   obtain ⟨b,off,rfl,-,hc⟩:=(HP.out.1.below hwk.below).place (by rw [HN.out];omega)
   obtain ⟨c1,c2,c3⟩:=hc k _ hp
   simp only at c1 c2 c3
   have o:=Bb (HP.out.2.each k _ hp).1
   simp only at o
   obtain ⟨-,-,y1,y2,z1,z2⟩:=o
   have hleft:=HGood.out.okOut.final
   rw [← HGood.out.left] at hleft
   have HPk:Hid (ps[k]? = some ⟨x,y,z⟩):=hp
   have hal:Below wr.heap.size wr (wr.alloc (.cells #[.int .i64 x,.int .i64 y,.int .i64 z] 58)):=(Below.refl _ _).alloc (Nat.le_refl _) _
   have hBl:B < wr.heap.size:=Nat.lt_trans HLaid.out.bd hwk.dlt
   have HPass:Hid (Calls Tryz.prog 192 #[.slice (some ⟨B,0,none⟩) ls.length ls.length,.int .i64 (max z s.left),.int .i64 y] (wr.alloc (.cells #[.int .i64 x,.int .i64 y,.int .i64 z] 58)) fun e w'=>e=.returned (Jp ad (Fw s.bs (max z s.left) y)) ∧ (∀ T,Fw s.bs (max z s.left) y=some T → ShAt w' B gs (s.bs.map fun b=>b.take T y)) ∧ But (fun k=>k ∈ gs) (wr.alloc (.cells #[.int .i64 x,.int .i64 y,.int .i64 z] 58)) w'):=
    YC B gs s.bs (max z s.left) y ls.length w _ ad HE.out (hwk.below.trans (hal.mono hwk.below.size)) HLaid.out.b0 (by simp;omega) (hwk.sh.below hal hBl) HGood.out.few HL.out.2.2.1
     (fun b hb=>⟨(HGood.out.ok b hb).1,by rw [(HGood.out.ok b hb).2];omega⟩) (by omega) (by omega) y1 y2
   have HTk:Hid (ps.take (k+1)=ps.take k ++ [⟨x,y,z⟩]):=by show _=_;rw [List.take_add_one,hp];rfl
   have HGn:Hid (∀ g,g ∈ gs → g ≠ wr.heap.size):=fun g hg=>by have:=(HLaid.out.gd g hg).2;have:=hwk.dlt;omega
   clear hp hc hal hBl
   have HDl:Hid (D < wr.heap.size):=hwk.dlt
   have HLf:Hid (s.left=s.left):=rfl
   clear hwk
   generalize hLf:s.left=L at *
   have HLeft:Hid (s.left=L):=hLf
   clear hLf HLf
   obtain ⟨M,hM⟩:∃ M,max z L=M:=⟨_,rfl⟩
   rw [hM] at HPass
   have HM:Hid (max z L=M):=hM
   obtain ⟨Q,hQ⟩:∃ Q,Fw s.bs M y=Q:=⟨_,rfl⟩
   rw [hQ] at HPass
   have HQ:Hid (Fw s.bs M y=Q):=hQ
   have hMc:(L ≤ z ∧ M=z) ∨ (z < L ∧ M=L):=by omega
   clear hM hQ
   cases Q with
   | none=>
    change Hid (Calls Tryz.prog 192 #[.slice (some ⟨B,0,none⟩) ls.length ls.length,.int .i64 M,.int .i64 y] (wr.alloc (.cells #[.int .i64 x,.int .i64 y,.int .i64 z] 58)) fun e w'=>e=.returned (.tuple #[.int .i64 0,.iface 312 (.pointer (some (ad 3)))]) ∧ (∀ T,none=some T → ShAt w' B gs (s.bs.map fun b=>b.take T y)) ∧ But (fun k=>k ∈ gs) (wr.alloc (.cells #[.int .i64 x,.int .i64 y,.int .i64 z] 58)) w') at HPass
    have HNo:Hid (Cz s ⟨x,y,z⟩=none):=by
     show _=_
     unfold Cz
     simp only
     rw [HLeft.out,HM.out,HQ.out]
    rcases hMc with ⟨h1,h2⟩ | ⟨h1,h2⟩
    all_goals
     rw [h2] at HPass
     have H2:Hid (max z L=_):=HM.out.trans h2
     clear h2
     go_wp2_with fail
     try rw [H2.out]
     refine HPass.out.mono ?_
     rintro e w5 ⟨rfl,-,hb5⟩
     have HB5:Hid (Below w.heap.size w w5):=by
      have hwb:=HWk.out.below
      have h1:Below w.heap.size w (wr.alloc (.cells #[.int .i64 x,.int .i64 y,.int .i64 z] 58)):=hwb.alloc hwb.size _
      exact h1.trans (hb5.below h1.size fun g hg=>by have h2:=(HLaid.out.gd g hg).1;have h3:=HLaid.out.b0;omega)
     clear hb5
     go_wp2_with fail
     go_ret2
     exact ⟨HB5.out.alloc HB5.out.size _,.inr ⟨k,⟨x,y,z⟩,s,w5.heap.size,HPk.out,HWk.out.run,HNo.out,rfl,by simp,by simp⟩⟩
   | some T=>
    change Hid (Calls Tryz.prog 192 #[.slice (some ⟨B,0,none⟩) ls.length ls.length,.int .i64 M,.int .i64 y] (wr.alloc (.cells #[.int .i64 x,.int .i64 y,.int .i64 z] 58)) fun e w'=>e=.returned (.tuple #[.int .i64 T,.nilIface]) ∧ (∀ T',some T=some T' → ShAt w' B gs (s.bs.map fun b=>b.take T' y)) ∧ But (fun k=>k ∈ gs) (wr.alloc (.cells #[.int .i64 x,.int .i64 y,.int .i64 z] 58)) w') at HPass
    have HYes:Hid (Cz s ⟨x,y,z⟩=some ⟨s.bs.map fun b=>b.take T y,T,s.out ++ [⟨x,y,T⟩]⟩):=by
     show _=_
     unfold Cz
     simp only
     rw [HLeft.out,HM.out,HQ.out]
    have HOl:Hid (s.out.length=k):=by
     show _=_
     rw [HGood.out.len,List.length_take,HN.out];omega
    rcases hMc with ⟨h1,h2⟩ | ⟨h1,h2⟩
    all_goals
     rw [h2] at HPass
     have H2:Hid (max z L=_):=HM.out.trans h2
     clear h2
     go_wp2_with fail
     try rw [H2.out]
     refine HPass.out.mono ?_
     rintro e w5 ⟨rfl,hsh5,hb5⟩
     have HSh5:Hid (ShAt w5 B gs (s.bs.map fun b=>b.take T y)):=hsh5 T rfl
     have hDg:¬ D ∈ gs:=fun h=>by have:=(HLaid.out.gd D h).2;omega
     have hCg:¬ wr.heap.size ∈ gs:=fun h=>HGn.out _ h rfl
     have hal:Below wr.heap.size wr (wr.alloc (.cells #[.int .i64 x,.int .i64 y,.int .i64 z] 58)):=(Below.refl _ _).alloc (Nat.le_refl _) _
     have HB5:Hid (Below w.heap.size w w5):=by
      have hwb:=HWk.out.below
      have h1:Below w.heap.size w (wr.alloc (.cells #[.int .i64 x,.int .i64 y,.int .i64 z] 58)):=hwb.trans (hal.mono hwb.size)
      exact h1.trans (hb5.below h1.size fun g hg=>by have h2:=(HLaid.out.gd g hg).1;have h3:=HLaid.out.b0;omega)
     have hlt5:wr.heap.size < (wr.alloc (.cells #[.int .i64 x,.int .i64 y,.int .i64 z] 58)).heap.size:=by simp
     have hDl:=HDl.out
     have hDl5:D < (wr.alloc (.cells #[.int .i64 x,.int .i64 y,.int .i64 z] 58)).heap.size:=Nat.lt_trans hDl hlt5
     have HSz5:Hid (wr.heap.size < w5.heap.size):=Nat.lt_of_lt_of_le hlt5 hb5.size
     have e0:w5.cell? ⟨wr.heap.size,0,none⟩=some (.int .i64 x):=by rw [hb5.cell (p:=⟨wr.heap.size,0,none⟩) hlt5 hCg];simp
     have e1:w5.cell? ⟨wr.heap.size,1,none⟩=some (.int .i64 y):=by rw [hb5.cell (p:=⟨wr.heap.size,1,none⟩) hlt5 hCg];simp
     have e2:w5.cell? ⟨wr.heap.size,2,none⟩=some (.int .i64 z):=by rw [hb5.cell (p:=⟨wr.heap.size,2,none⟩) hlt5 hCg];simp
     have f2:w5.frozen? ⟨wr.heap.size,2,none⟩=false:=by rw [hb5.frozen (p:=⟨wr.heap.size,2,none⟩) hlt5 hCg];simp
     have hroom5:=(HWk.out.room.below hal hDl).but hb5 hDl5 hDg
     have HRoom5:Hid (Room w5 D (n * 3)):=hroom5
     have HOut5:Hid (LC w5 D s.out):=(HWk.out.out.but (S:=fun _=>False) (.ofBelow hal) hDl id).but hb5 hDl5 hDg
     obtain ⟨u0,g0⟩:=hroom5.cell (k * 3) (by omega)
     obtain ⟨u1,g1⟩:=hroom5.cell (k * 3+1) (by omega)
     obtain ⟨u2,g2⟩:=hroom5.cell (k * 3+2) (by omega)
     have k0:=hroom5.frozen (k * 3)
     have k1:=hroom5.frozen (k * 3+1)
     have k2:=hroom5.frozen (k * 3+2)
     have hne:¬ wr.heap.size=D:=by omega
     have hne':¬ D=wr.heap.size:=by omega
     clear hsh5 hb5 hDg hal hlt5 hDl5 hroom5 hCg
     generalize wr.heap.size=C at *
     go_wp2_with fail
     go_roundw
     case rel=>
      refine ⟨k+1,by omega,by go_num,⟨s.bs.map fun b=>b.take T y,T,s.out ++ [⟨x,y,T⟩]⟩,rfl,?_⟩
      have hf1:But (fun q=>q=C) w5 (w5.setCell ⟨C,2,none⟩ (.int .i64 T)):=But.setCell (S:=fun q=>q=C) (But.refl _ _) rfl _
      have hr1:=HRoom5.out.but hf1 (Nat.lt_trans HDl.out HSz5.out) hne'
      have ho1:=HOut5.out.but hf1 (Nat.lt_trans HDl.out HSz5.out) hne'
      have hf2:But (fun q=>q=C ∨ q=D) w5 ((((w5.setCell ⟨C,2,none⟩ (.int .i64 T)).setCell ⟨D,k * 3,none⟩ (.int .i64 x)).setCell ⟨D,k * 3+1,none⟩ (.int .i64 y)).setCell ⟨D,k * 3+2,none⟩ (.int .i64 T)):=
       But.setCell (S:=fun q=>q=C ∨ q=D) (But.setCell (S:=fun q=>q=C ∨ q=D) (But.setCell (S:=fun q=>q=C ∨ q=D) (But.setCell (S:=fun q=>q=C ∨ q=D) (But.refl _ _) (.inl rfl) _) (.inr rfl) _) (.inr rfl) _) (.inr rfl) _
      have hb0:=HLaid.out.b0
      have hbd:=HLaid.out.bd
      have hDC:=HDl.out
      refine ⟨?_,HSh5.out.but hf2 (by omega) (fun g hg h=>?_) (by have:=HSz5.out;omega),((hr1.set _ _).set _ _).set _ _,ho1.step hr1 k HOl.out (by omega) x y T,HB5.out.trans (hf2.below HB5.out.size (fun q hq=>by omega)),Nat.lt_of_lt_of_le (Nat.lt_trans HDl.out HSz5.out) hf2.size⟩
      ·
       rw [HTk.out,JJ,HWk.out.run]
       exact HYes.out
      ·
       have h1:=HLaid.out.gd g hg
       have h2:=HGn.out g hg
       omega
     case measure=>simp [intOf];omega
  ·
   clear hwk
   go_wp2_with fail
   go_ret2
   obtain rfl:k=n:=by omega
   have h1:=HWk.out
   refine ⟨h1.below,.inl ⟨s,D,by have:=h1.run;rwa [List.take_of_length_le (by rw [HN.out];omega)] at this,by have e:=HN.out;rw [e];rfl,Nat.le_trans HLaid.out.b0 (Nat.le_of_lt HLaid.out.bd),?_⟩⟩
   exact .inr ⟨D,0,rfl,h1.dlt,fun i p hi=>by
    have:=h1.out i p hi
    simpa using this⟩
theorem UR (l:List Pk):l.foldl (fun (s:Option Sh) p=>s.bind fun s=>Cz s p) none=none:=by
 induction l with
 | nil=>rfl
 | cons a r ih=>exact ih
theorem Lh {ls:List (Int × Int)} {ps:List Pk} {j:Nat} {p:Pk} {s:Sh} (h1:ps[j]? = some p) (h2:shape ls (ps.take j)=some s) (h3:Cz s p=none):shape ls ps=none:=by
 have e:ps=ps.take j ++ p :: ps.drop (j+1):=by rw [← Ph h1,List.take_append_drop]
 have h2':(ps.take j).foldl (fun (s:Option Sh) p=>s.bind fun s=>Cz s p) (some ⟨ls.map F7,0,[]⟩)=some s:=h2
 rw [e]
 unfold shape
 rw [List.foldl_append,h2',List.foldl_cons]
 show List.foldl _ (Cz s p) _=none
 rw [h3]
 exact UR _
structure ay (cs:List (List (Int × Int))) (ns:List Int):Prop where
 curves:cs.length ≤ 20
 nums:ns.length ≤ 30
 each:∀ (i:Nat) ls,cs[i]? = some ls → ls.length ≤ 20
theorem Tryz.infoLines:(Tryz.prog.info? 62).map (fun i=>(i.zero,i.size,i.bytes))=some (some (.slice none 0 0),1,24):=by kernel_rfl
def Gu (w:World) (a:Option Addr) (ps:List Sn):Prop:=
 ps=[] ∨ ∃ b off,a=some ⟨b,off,none⟩ ∧ b < w.heap.size ∧ ∀ (i:Nat) p,ps[i]? = some p → w.cell? ⟨b,off+i * 3,none⟩=some (.int .i64 p.num) ∧ w.cell? ⟨b,off+i * 3+1,none⟩=some (.int .i64 p.beg) ∧ w.cell? ⟨b,off+i * 3+2,none⟩=some (.int .i64 p.fin)
theorem Gu.place {w:World} {a:Option Addr} {ps:List Sn} (h:Gu w a ps) (h1:1 ≤ ps.length) :
  ∃ b off,a=some ⟨b,off,none⟩ ∧ b < w.heap.size ∧ ∀ (i:Nat) p,ps[i]? = some p → w.cell? ⟨b,off+i * 3,none⟩=some (.int .i64 p.num) ∧ w.cell? ⟨b,off+i * 3+1,none⟩=some (.int .i64 p.beg) ∧ w.cell? ⟨b,off+i * 3+2,none⟩=some (.int .i64 p.fin):=by
 rcases h with rfl | h
 · simp at h1
 · exact h
theorem Gu.but {S:Nat → Prop} {w w':World} {a:Option Addr} {ps:List Sn} (h:Gu w a ps) (hb:But S w w') (hs:∀ ad,a=some ad → ¬ S ad.block):Gu w' a ps:=by
 rcases h with rfl | ⟨b,off,rfl,hlt,hc⟩
 · exact .inl rfl
 ·
  have hn:¬ S b:=hs _ rfl
  refine .inr ⟨b,off,rfl,Nat.lt_of_lt_of_le hlt hb.size,fun i p hi=>?_⟩
  have:=hc i p hi
  exact ⟨by rw [hb.cell (p:=⟨b,off+i * 3,none⟩) hlt hn];exact this.1,by rw [hb.cell (p:=⟨b,off+i * 3+1,none⟩) hlt hn];exact this.2.1,by rw [hb.cell (p:=⟨b,off+i * 3+2,none⟩) hlt hn];exact this.2.2⟩
theorem Gu.below {w w':World} {a:Option Addr} {ps:List Sn} (h:Gu w a ps) (hb:Below w.heap.size w w'):Gu w' a ps:=
 h.but (S:=fun _=>False) (.ofBelow hb) (fun _ _ h=>h)
def cellsS (ps:List Sn):List Value:=ps.flatMap fun p=>[.int .i64 p.num,.int .i64 p.beg,.int .i64 p.fin]
theorem Ll (p:Sn) (r:List Sn):cellsS (p :: r)=.int .i64 p.num :: .int .i64 p.beg :: .int .i64 p.fin :: cellsS r:=rfl
theorem OB (a b:List Sn):cellsS (a ++ b)=cellsS a ++ cellsS b:=by simp [cellsS]
theorem VB (ps:List Sn):∀ (i:Nat) p,ps[i]? = some p → (cellsS ps)[i * 3]? = some (.int .i64 p.num) ∧ (cellsS ps)[i * 3+1]? = some (.int .i64 p.beg) ∧ (cellsS ps)[i * 3+2]? = some (.int .i64 p.fin):=by
 induction ps with
 | nil=>intro i p h;simp at h
 | cons q r ih=>
  intro i p h
  rw [Ll]
  cases i with
  | zero=>simp at h;subst h;exact ⟨rfl,rfl,rfl⟩
  | succ i=>
   have:=ih i p (by simpa using h)
   rw [show (i+1) * 3=i * 3+1+1+1 by omega]
   exact ⟨by simpa using this.1,by simpa using this.2.1,by simpa using this.2.2⟩
theorem Xp (ps:List Sn):∀ j u,(cellsS ps)[j]? = some u → ∃ (i:Nat) (p:Sn),ps[i]? = some p ∧ ((j=i * 3 ∧ u=.int .i64 p.num) ∨ (j=i * 3+1 ∧ u=.int .i64 p.beg) ∨ (j=i * 3+2 ∧ u=.int .i64 p.fin)):=by
 induction ps with
 | nil=>intro j u h;simp [cellsS] at h
 | cons p r ih=>
  intro j u h
  rw [Ll] at h
  match j,h with
  | 0,h=>exact ⟨0,p,rfl,.inl ⟨rfl,by simpa using h.symm⟩⟩
  | 1,h=>exact ⟨0,p,rfl,.inr (.inl ⟨rfl,by simpa using h.symm⟩)⟩
  | 2,h=>exact ⟨0,p,rfl,.inr (.inr ⟨rfl,by simpa using h.symm⟩)⟩
  | j+3,h=>
   obtain ⟨i,q,hi,hj⟩:=ih j u (by simpa using h)
   refine ⟨i+1,q,by simpa using hi,?_⟩
   rcases hj with ⟨e,f⟩ | ⟨e,f⟩ | ⟨e,f⟩
   · exact .inl ⟨by omega,f⟩
   · exact .inr (.inl ⟨by omega,f⟩)
   · exact .inr (.inr ⟨by omega,f⟩)
theorem M9 (ps:List Sn):∀ u ∈ cellsS ps,u.oneCell'=true:=by
 intro u hu
 obtain ⟨j,hj⟩:=List.mem_iff_getElem?.1 hu
 obtain ⟨i,p,-,h⟩:=Xp ps j u hj
 rcases h with ⟨-,rfl⟩ | ⟨-,rfl⟩ | ⟨-,rfl⟩ <;> rfl
def Ig (w:World) (B:Nat) (v:Value) (ps:List Sn):Prop:=w.ownsRow B 69 3 v ps.length (cellsS ps)
theorem Ig.open {w:World} {B:Nat} {v:Value} {ps:List Sn} (h:Ig w B v ps) :
  ∃ a cap,v=.slice a ps.length cap ∧ ps.length ≤ cap ∧ cap ≤ maxLen ∧ Gu w a ps ∧ (∀ ad,a=some ad → B ≤ ad.block) ∧ (a=none → ps=[] ∧ cap=0):=by
 obtain ⟨hlen,⟨rfl,h0⟩ | ⟨g,cap,cur,rfl,hB,hg,hn,hm,hc,ht⟩⟩:=h
 · exact ⟨none,0,by rw [h0],by omega,by simp [maxLen],.inl (List.length_eq_zero_iff.1 h0),(fun ad e=>by cases e),fun _=>⟨List.length_eq_zero_iff.1 h0,rfl⟩⟩
 ·
  refine ⟨_,cap,rfl,hn,hm,.inr ⟨g,0,rfl,?_,fun i p hi=>?_⟩,(fun ad e=>by cases e;exact hB),fun e=>by cases e⟩
  ·
   rcases Nat.lt_or_ge g w.heap.size with h | h
   · exact h
   · simp [Array.getElem?_eq_none h] at hg
  ·
   have hh:w.ownsRow B 69 3 (.slice (some ⟨g,0,none⟩) ps.length cap) ps.length (cellsS ps):=⟨hlen,.inr ⟨g,cap,cur,rfl,hB,hg,hn,hm,hc,ht⟩⟩
   have hil:i < ps.length:=by
    rcases Nat.lt_or_ge i ps.length with h | h
    · exact h
    · simp [List.getElem?_eq_none h] at hi
   have:=VB ps i p hi
   rw [hh.cellAt _ (by omega),hh.cellAt _ (by omega),hh.cellAt _ (by omega),Nat.zero_add]
   exact this
theorem Tryz.infoSent:(Tryz.prog.info? 69).map (fun i=>(i.zero,i.size,i.bytes))=some (some (.agg #[.int .i64 0,.int .i64 0,.int .i64 0]),3,24):=by kernel_rfl
theorem DC.later {w w':World} {B:Nat} {v:Value} {ps:List Pk} (h:DC w B v ps) (hb:Below w.heap.size w w'):DC w' B v ps:=Av h fun g _ hg=>hb.block g hg
theorem Nh (w:World) (ty:TypeId) (B:Nat) (v:Value) (ps qs:List Pk) (xa:Option Addr) (xcap:Nat) (hown:DC w B v ps) (hl:AO w xa qs) (hxa:xa=none → qs=[] ∧ xcap=0) (hn:ps.length+qs.length ≤ 1000) (hB:B ≤ w.heap.size) :
  ∃ v' w',(Builtin.append_ #[52,52] ty #[v,.slice xa qs.length xcap]).run Tryz.prog w=.ok v' w' ∧ DC w' B v' (ps ++ qs) ∧ Below B w w':=by
 obtain ⟨i0,hi,hz0,hz1,hz2⟩:=info_parts Tryz.infoPkt
 cases xa with
 | none=>
  obtain ⟨rfl,rfl⟩:=hxa rfl
  exact ⟨v,w,run_append_owned_none (P:=Tryz.prog) w B 52 ty 58 i0 3 Tryz.underlying52 hi v ps.length (BR ps) hown,by rw [List.append_nil];exact hown,Below.refl _ _⟩
 | some ad=>
  obtain ⟨v',w',hrun,h1,h2,-⟩:=run_append_own (P:=Tryz.prog) w B 52 ty 58 i0 (.agg #[.int .i64 0,.int .i64 0,.int .i64 0]) 3 24 Tryz.underlying52 hi hz0 hz1 hz2 rfl (by decide) v ps.length (BR ps) hown ad qs.length xcap (BR qs) (Fa qs) (Mw hl) (Nq qs) (by unfold maxLen;omega) (by omega) hB
  refine ⟨v',w',hrun,?_,(Below.refl _ _).grown h2 hB fun k hk=>(AX hown hk).1⟩
  unfold DC
  rw [List.length_append,GA]
  exact h1
theorem Kr (w:World) {ops:Array Oper} {rest:List Oper} {o:Oper} {a:Act} {Q:Exit → Act → World → Prop} (hgd:o.guard=none) (s x:Operand)
  (ho:o.op=.call { callee:=.builtin .append,args:=#[s,x],argTypes:=#[52,52] })
  (B:Nat) (v:Value) (ps qs:List Pk) (xa:Option Addr) (m xcap:Nat) (hm:qs.length=m) (hs:a.eval s=v) (hx:a.eval x=.slice xa m xcap) (hown:DC w B v ps) (hl:AO w xa qs) (hxa:xa=none → qs=[] ∧ xcap=0) (hn:ps.length+qs.length ≤ 1000) (hB:B ≤ w.heap.size)
  (hK:∀ v' w',DC w' B v' (ps ++ qs) ∧ Below B w w' → wpList Tryz.prog ops Q rest (a.put o.dst v') w'):wpList Tryz.prog ops Q (o :: rest) a w:=by
 subst hm
 refine wpList_plain hgd fun K hK'=>?_
 obtain ⟨v',w',hrun,g1,g2⟩:=Nh w o.type B v ps qs xa xcap hown hl hxa hn hB
 unfold Oper.wp
 simp [execOp,ho,resolve,invoke,builtin,hs,hx,hrun,Result.andThen]
 exact hK' _ _ (hK v' w' ⟨g1,g2⟩)
structure Both (w:World) (B:Nat) (v1 v2:Value) (ps:List Pk) (ns:List Int):Prop where
 pks:DC w B v1 ps
 nums:w.ownsRow B 3 1 v2 ns.length (ints ns)
 apart:∀ g,v1.ownBlock=some g → v2.ownBlock ≠ some g
theorem Y0 (w:World) (B:Nat):Both w B (.slice none 0 0) (.slice none 0 0) [] []:=⟨World.ownsRow_nil _ _ _ _,World.ownsRow_nil _ _ _ _,fun g h=>by cases h⟩
theorem Both.later {w w':World} {B:Nat} {v1 v2:Value} {ps:List Pk} {ns:List Int} (h:Both w B v1 v2 ps ns) (hb:Below w.heap.size w w'):Both w' B v1 v2 ps ns:=⟨h.pks.later hb,Av h.nums fun g _ hg=>hb.block g hg,h.apart⟩
theorem LZ (w:World) {ops:Array Oper} {rest:List Oper} {o:Oper} {a:Act} {Q:Exit → Act → World → Prop} (hgd:o.guard=none) (s x:Operand)
  (ho:o.op=.call { callee:=.builtin .append,args:=#[s,x],argTypes:=#[32,32] })
  (B:Nat) (v1 v2:Value) (ps:List Pk) (ns:List Int) (z:Int) (ad:Addr) (hs:a.eval s=v2) (hx:a.eval x=.slice (some ad) 1 1) (hown:Both w B v1 v2 ps ns) (hl:w.cell? ad=some (.int .i64 z)) (hn:ns.length ≤ 1000) (hB:B ≤ w.heap.size)
  (hK:∀ v' w',Both w' B v1 v' ps (ns ++ [z]) ∧ Below B w w' → wpList Tryz.prog ops Q rest (a.put o.dst v') w'):wpList Tryz.prog ops Q (o :: rest) a w:=by
 obtain ⟨i0,hi,hz0,hz1,hz2⟩:=info_parts Tryz.infoInt
 refine wpList_append_lies w hgd s x 32 ho B 3 i0 (.int .i64 0) 1 8 Tryz.underlying32 hi hz0 hz1 hz2 rfl (by decide) v2 ns.length (ints ns) hs hown.nums ad 1 1 (ints [z]) hx rfl ?_ (GZ _) (by decide) (by unfold maxLen;omega) (by omega) hB _ rfl ?_
 ·
  intro j u hj
  cases j with
  | zero=>
   have:u=.int .i64 z:=by simpa [ints] using hj.symm
   rw [this]
   simpa [Addr.add] using hl
  | succ j=>simp [ints] at hj
 intro g cap w' h1 h2 h3 h4
 refine hK _ _ ⟨⟨?_,?_,?_⟩,(Below.refl _ _).grown h2 hB fun k hk=>(AX hown.nums hk).1⟩
 ·
  exact World.ownsRow.kept hown.pks h2 (by
   cases e:v1.ownBlock with
   | none=>exact .inl rfl
   | some k=>exact .inr fun e'=>hown.apart k e e'.symm)
 ·
  rw [List.length_append,show ints (ns ++ [z])=ints ns ++ ints [z] by simp [ints]]
  exact h1
 ·
  intro k hk e
  obtain rfl:g=k:=Option.some.inj e
  rcases h3 with h3 | h3
  · exact hown.apart g hk h3
  ·
   have:=(AX hown.pks hk).2
   omega
theorem XE (w:World) (x y z:Int):AO (w.alloc (.cells #[.int .i64 x,.int .i64 y,.int .i64 z] 58)) (some ⟨w.heap.size,0,none⟩) [⟨x,y,z⟩]:=by
 refine .inr ⟨w.heap.size,0,rfl,by simp,fun j q hj=>?_⟩
 cases j with
 | zero=>
  obtain rfl:=Option.some.inj hj
  exact ⟨by simp,by simp,by simp⟩
 | succ j=>simp at hj
theorem Cn (a:Option Addr) (cap:Nat) (ps:List Pk) (per:Int) (w:World) (hl:AO w a ps) (ho:Aj ps) (h1:1 ≤ per) (h2:per ≤ 1000) :
  Calls Tryz.prog 168 #[.slice a ps.length cap,.int .i64 per] w fun e w'=>e=.returned .nilIface ∧ Below w.heap.size w w':=by
 have HC:Hid (Calls Tryz.prog 105 #[.slice a ps.length cap] w fun e w'=>e=.returned .nilIface ∧ Below w.heap.size w w'):=He a cap ps w hl ho
 clear hl ho
 go_enter Tryz.func168,Tryz.ntmps168
 go_wp2_with fail
 refine HC.out.mono ?_
 rintro e w1 ⟨rfl,hb⟩
 have HB:Hid (Below w.heap.size w w1):=hb
 clear hb
 go_wp2_with fail
 go_ret
 exact ⟨rfl,HB.out⟩
theorem Ot {R:TypeId → Value → World → Prop} (a:Option Addr) (n cap:Nat) (per:Int) (w:World) (h:Calls Tryz.prog 105 #[.slice a n cap] w fun e w'=>∃ ty v,e=.returned (.iface ty v) ∧ R ty v w') :
  Calls Tryz.prog 168 #[.slice a n cap,.int .i64 per] w fun e w'=>∃ ty v,e=.returned (.iface ty v) ∧ R ty v w':=by
 have HC:Hid (Calls Tryz.prog 105 #[.slice a n cap] w fun e w'=>∃ ty v,e=.returned (.iface ty v) ∧ R ty v w'):=h
 clear h
 go_enter Tryz.func168,Tryz.ntmps168
 go_wp2_with fail
 refine HC.out.mono ?_
 rintro e w1 ⟨ty,v,rfl,hR⟩
 have HR:Hid (R ty v w1):=hR
 clear hR
 go_wp2_with fail
 go_ret
 exact ⟨ty,v,rfl,HR.out⟩
theorem OV (a:Option Addr) (cap:Nat) (ps:List Pk) (per:Int) (w:World) (ad:Nat → Addr) (he:Ii w ad) (hl:AO w a ps) (ho:Aj ps) (h:per < 1 ∨ 1000 < per) :
  Calls Tryz.prog 168 #[.slice a ps.length cap,.int .i64 per] w fun e w'=>e=.returned (.iface 312 (.pointer (some (ad 1)))) ∧ Below w.heap.size w w':=by
 have HC:Hid (Calls Tryz.prog 105 #[.slice a ps.length cap] w fun e w'=>e=.returned .nilIface ∧ Below w.heap.size w w'):=He a cap ps w hl ho
 have HE:Hid (Ii w ad):=he
 clear hl ho he
 by_cases h1:per < 1
 ·
  clear h
  go_enter Tryz.func168,Tryz.ntmps168
  go_wp2_with fail
  refine HC.out.mono ?_
  rintro e w1 ⟨rfl,hb⟩
  have c1:=cell_later hb HE.out.c1
  have HB:Hid (Below w.heap.size w w1):=hb
  clear hb
  go_wp2_with fail
  go_ret
  exact ⟨rfl,HB.out⟩
 ·
  have h2:1000 < per:=by omega
  clear h
  go_enter Tryz.func168,Tryz.ntmps168
  go_wp2_with fail
  refine HC.out.mono ?_
  rintro e w1 ⟨rfl,hb⟩
  have c1:=cell_later hb HE.out.c1
  have HB:Hid (Below w.heap.size w w1):=hb
  clear hb
  go_wp2_with fail
  go_ret
  exact ⟨rfl,HB.out⟩
theorem UD (a:Option Addr) (cap:Nat) (ps:List Pk) (per now:Int) (k:Nat) (p:Pk) (w:World) (hl:AO w a ps) (hn:ps.length ≤ 300) (hk:ps[k]? = some p) (hp:Jr p=true) (h1:1 ≤ per) (h2:per ≤ 1000) (n0:0 ≤ now) (n1:now ≤ 1100000000000000) :
  Calls Tryz.prog 195 #[.slice a ps.length cap,.int .i64 per,.int .i64 k,.int .i64 now] w fun e w'=>e=.returned (.agg #[.int .i64 k,.int .i64 now,.int .i64 (now+per * p.size)]) ∧ Below w.heap.size w w':=by
 have hkl:=Ad hk
 obtain ⟨b,off,rfl,hlt,hc⟩:=hl.place (by omega)
 have c1:=(hc k p hk).2.1
 obtain ⟨-,-,s1,s2,-,-⟩:=Bb hp
 have a1:0 ≤ per * p.size:=Int.mul_nonneg (by omega) (by omega)
 have a2:per * p.size ≤ 1000 * 1500:=Int.mul_le_mul (by omega) s2 (by omega) (by omega)
 have c1':(w.alloc (.cells #[.int .i64 0,.int .i64 0,.int .i64 0] 69)).cell? ⟨b,off+k * 3+1,none⟩=some (.int .i64 p.size):=cell_later ((Below.refl _ _).alloc (Nat.le_refl _) _) c1
 generalize p.size=y at *
 generalize hm:per * y=m at *
 have HM:Hid (per * y=m):=hm
 have hw:IntKind.i64.wrap (per * y)=m:=by rw [hm];exact IntWalk.i64_in (by omega) (by omega)
 clear hl hc hp hk hm
 go_enter Tryz.func195,Tryz.ntmps195
 go_wp2_with fail
 exact bodyPost_ret (v:=.agg #[.int .i64 k,.int .i64 now,.int .i64 (now+m)]) (by simp [results,Tryz.results195,go_sem]) rfl ⟨rfl,(Below.refl _ _).alloc (Nat.le_refl _) _⟩
theorem AO.bel {w w':World} {B:Nat} {a:Option Addr} {ps:List Pk} (h:AO w a ps) (ha:∀ ad,a=some ad → 0 < ps.length → ad.block < B) (hb:Below B w w'):AO w' a ps:=by
 rcases h with rfl | ⟨b,off,rfl,hlt,hc⟩
 · exact .inl rfl
 ·
  by_cases h0:0 < ps.length
  ·
   have hB:b < B:=ha ⟨b,off,none⟩ rfl h0
   refine .inr ⟨b,off,rfl,Nat.lt_of_lt_of_le hlt hb.size,fun i p hi=>?_⟩
   have:=hc i p hi
   exact ⟨by rw [hb.cell (p:=⟨b,off+i * 3,none⟩) hB];exact this.1,by rw [hb.cell (p:=⟨b,off+i * 3+1,none⟩) hB];exact this.2.1,by rw [hb.cell (p:=⟨b,off+i * 3+2,none⟩) hB];exact this.2.2⟩
  · exact .inl (List.length_eq_zero_iff.1 (by omega))
structure Gc {σ:Type} (Held:World → (Nat → Prop) → σ → Prop) (B:Nat):Prop where
 foot:∀ w D q,Held w D q → ∀ k,D k → B ≤ k ∧ k < w.heap.size
 but:∀ (S:Nat → Prop) w w' D q,Held w D q → But S w w' → (∀ k,D k → ¬ S k) → (∀ k,S k → B ≤ k) → Held w' D q
def Az {σ:Type} (Held:World → (Nat → Prop) → σ → Prop) (w w':World) (D:Nat → Prop) (q:σ):Prop:=∃ D',Held w' D' q ∧ But D w w' ∧ ∀ k,D' k → D k ∨ w.heap.size ≤ k
structure Dw {σ:Type} (Q:Que σ) (Held:World → (Nat → Prop) → σ → Prop) (per:Int) (ps:List Pk) (q0:σ) (B:Nat) (w wr:World) (v:Value) (s:St σ) (D:Nat → Prop):Prop where
 reach:Reaches Q per ps q0 s
 own:Ig wr w.heap.size v s.out
 held:Held wr D s.q
 apart:∀ g,v.ownBlock=some g → ¬ D g
 below:Below B w wr
section
variable {σ:Type} {Q:Que σ} {Held:World → (Nat → Prop) → σ → Prop} {per:Int} {ps:List Pk} {q0:σ} {B:Nat} {w wr wr':World} {v:Value} {s s':St σ} {D:Nat → Prop}
theorem Dw.called (hm:Gc Held B) (h:Dw Q Held per ps q0 B w wr v s D) (hB:B ≤ w.heap.size) (hq:Az Held wr wr' D s'.q) (hr:Reaches Q per ps q0 s') (ho:s'.out=s.out):∃ D',Dw Q Held per ps q0 B w wr' v s' D':=by
 obtain ⟨D',h1,h2,h3⟩:=hq
 refine ⟨D',hr,by rw [ho];exact Av h.own (fun g hv hg=>h2.block g hg (h.apart g hv)),h1,fun g hg hD=>?_,h.below.trans (h2.below (Nat.le_trans hB h.below.size) (fun k hk=>(hm.foot _ _ _ h.held k hk).1))⟩
 rcases h3 g hD with h' | h'
 · exact h.apart g hg h'
 ·
  have:=(AX h.own hg).2
  omega
theorem Dw.parts (hm:Gc Held B) (h:Dw Q Held per ps q0 B w wr v s D) (hB:B ≤ w.heap.size) {q:σ} (hq:Az Held wr wr' D q) :
  ∃ D',Ig wr' w.heap.size v s.out ∧ Held wr' D' q ∧ (∀ g,v.ownBlock=some g → ¬ D' g) ∧ Below B w wr':=by
 obtain ⟨D',h1,h2,h3⟩:=hq
 refine ⟨D',Av h.own (fun g hv hg=>h2.block g hg (h.apart g hv)),h1,fun g hg hD=>?_,h.below.trans (h2.below (Nat.le_trans hB h.below.size) (fun k hk=>(hm.foot _ _ _ h.held k hk).1))⟩
 rcases h3 g hD with h' | h'
 · exact h.apart g hg h'
 ·
  have:=(AX h.own hg).2
  omega
structure Dx (Held:World → (Nat → Prop) → σ → Prop) (B:Nat) (w wr:World) (v:Value) (out:List Sn) (q:σ) (D:Nat → Prop):Prop where
 own:Ig wr w.heap.size v out
 held:Held wr D q
 apart:∀ g,v.ownBlock=some g → ¬ D g
 below:Below B w wr
theorem Dx.later {out:List Sn} {q:σ} (hm:Gc Held B) (h:Dx Held B w wr v out q D) (hB:B ≤ w.heap.size) (hb:Below wr.heap.size wr wr'):Dx Held B w wr' v out q D:=
 ⟨Av h.own (fun g _ hg=>hb.block g hg),hm.but (fun _=>False) _ _ _ _ h.held (.ofBelow hb) (fun _ _ h=>h) (fun _ h=>h.elim),h.apart,h.below.trans (hb.mono (Nat.le_trans hB h.below.size))⟩
theorem Dw.grown (hm:Gc Held B) (hB:B ≤ w.heap.size) {x:Sn} {q:σ} {g cap:Nat} {w1 w2:World} {out:List Sn} (hmid:Dx Held B w w1 v out q D)
  (h1:w2.ownsRow w.heap.size 69 3 (.slice (some ⟨g,0,none⟩) (out.length+1) cap) (out.length+1) (cellsS out ++ cellsS [x])) (h2:w1.grownBy w2 v.ownBlock) (h3:v.ownBlock=some g ∨ g=w1.heap.size) (s':St σ) (hr:Reaches Q per ps q0 s') (ho:s'.out=out ++ [x]) (hq:s'.q=q) :
  Dw Q Held per ps q0 B w w2 (.slice (some ⟨g,0,none⟩) (out.length+1) cap) s' D:=by
 obtain ⟨hown,hheld,hap,hbel⟩:=hmid
 have hb:But (fun k=>v.ownBlock=some k) w1 w2:=⟨h2.os,h2.tape,h2.output,h2.size,fun k hk hn=>h2.block k hk (fun e=>hn e.symm)⟩
 refine ⟨hr,?_,by rw [hq];exact hm.but _ _ _ _ _ hheld hb (fun k hk hv=>hap k hv hk) (fun k hk=>Nat.le_trans hB (AX hown hk).1),fun g' hg' hD=>?_,hbel.trans (hb.below (Nat.le_trans hB hbel.size) fun k hk=>Nat.le_trans hB (AX hown hk).1)⟩
 ·
  rw [ho]
  unfold Ig
  rw [List.length_append,OB]
  exact h1
 ·
  have e:g=g':=Option.some.inj hg'
  subst e
  rcases h3 with h3 | h3
  · exact hap _ h3 hD
  ·
   have:=(hm.foot _ _ _ hheld _ hD).2
   omega
end
def J4 {σ:Type} (ps:List Pk) (s:St σ):Nat:=match ps[s.next]? with | some p=>(if p.tick ≤ s.now then 0 else 1) | none=>1
def leftOf {σ:Type} (ps:List Pk) (s:St σ):Nat:=2 * (ps.length - s.out.length)+J4 ps s
theorem XD {σ:Type} (ps:List Pk) (s:St σ):J4 ps s ≤ 1:=by
 unfold J4
 split
 · split <;> omega
 · omega
theorem Pq {σ:Type} {ps:List Pk} {s s':St σ} (h1:s'.out.length=s.out.length+1) (h2:s.out.length < ps.length):leftOf ps s' < leftOf ps s:=by
 have:=XD ps s'
 unfold leftOf
 omega
theorem Xv {σ:Type} {ps:List Pk} {s s':St σ} (h1:s'.out.length=s.out.length) (h2:s'.next=s.next) (h3:s.next < ps.length) (h4:s.now < Ay ps s.next) (h5:Ay ps s.next ≤ s'.now):leftOf ps s' < leftOf ps s:=by
 have e:ps[s.next]? = some ps[s.next]:=List.getElem?_eq_getElem h3
 have f0:J4 ps s'=0:=by
  unfold J4
  rw [h2,e]
  rw [AJ e] at h5
  simp only
  rw [if_pos h5]
 have f1:J4 ps s=1:=by
  unfold J4
  rw [e]
  rw [AJ e] at h4
  simp only
  rw [if_neg (by omega)]
 unfold leftOf
 omega
theorem Ut (x:Int) (w:World) (h:0 ≤ x ∧ x < 8):Calls Tryz.prog 128 #[.int .i64 x] w fun e w'=>e=.returned (.bool true) ∧ w'=w:=by
 obtain ⟨h1,h2⟩:=h
 go_enter Tryz.func128,Tryz.ntmps128
 go_wp2
 go_ret
 exact ⟨rfl,rfl⟩
theorem Xk (x:Int) (w:World) (h:¬ (0 ≤ x ∧ x < 8)):Calls Tryz.prog 128 #[.int .i64 x] w fun e w'=>e=.returned (.bool false) ∧ w'=w:=by
 by_cases h1:0 ≤ x
 ·
  have h2:¬ x < 8:=fun h'=>h ⟨h1,h'⟩
  clear h
  go_enter Tryz.func128,Tryz.ntmps128
  go_wp2
  go_ret
  exact ⟨rfl,rfl⟩
 ·
  clear h
  go_enter Tryz.func128,Tryz.ntmps128
  go_wp2
  go_ret
  exact ⟨rfl,rfl⟩
end Go.Proofs.YtipdclphpkgceaaGreatDoor
