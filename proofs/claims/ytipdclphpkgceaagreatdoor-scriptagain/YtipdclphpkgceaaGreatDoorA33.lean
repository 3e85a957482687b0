/- Own facts, put together: no statement of its own. -/
import Derived.Deep.LoopGhost
import Derived.Test.YtipdclphpkgceaaGreatDoorA17
import Derived.Test.YtipdclphpkgceaaGreatDoorA22
import Derived.BigRegion
import Derived.Test.YtipdclphpkgceaaGreatDoorA15
import Derived.Test.YtipdclphpkgceaaGreatDoorA12
import Derived.Test.YtipdclphpkgceaaGreatDoorA20
set_option maxHeartbeats 4000000
set_option maxRecDepth 100000

namespace Go.Proofs.YtipdclphpkgceaaGreatDoor
open Go.RowKit
theorem Ju (pa:Option Addr) (pcap:Nat) (ps:List Pk) (w:World) (hl:AO w pa ps) (hn:ps.length ≤ 1000) (ha:pa=none → ps=[] ∧ pcap=0) :
  Calls Tryz.prog 137 #[.slice pa ps.length pcap] w fun e w'=>∃ v,e=.returned v ∧ DC w' w.heap.size v ps ∧ Below w.heap.size w w':=by
 cases pa with
 | none=>
  obtain ⟨rfl,rfl⟩:=ha rfl
  have hnil:=fun wx=>Go.Lib.run_eql_slice_nil (P:=Tryz.prog) wx 52 58 none 0 0 0 0 Tryz.underlying52
  go_enter Tryz.func137,Tryz.ntmps137
  go_wp2_with fail
  go_ret
  exact ⟨_,rfl,World.ownsRow_nil _ _ _ _,Below.refl _ _⟩
 | some ad=>
  have hb0:Below w.heap.size w (w.alloc (.cells #[] 58)):=(Below.refl _ _).alloc (Nat.le_refl _) _
  have H1:Hid (AO (w.alloc (.cells #[] 58)) (some ad) ps):=hl.below hb0
  have H4:Hid (DC (w.alloc (.cells #[] 58)) w.heap.size (.slice (some ⟨w.heap.size,0,none⟩) 0 0) []):=World.ownsRow_lit w #[] 0 (Nat.le_refl _) (by simp [maxLen]) (by simp)
  have HB0:Hid (Below w.heap.size w (w.alloc (.cells #[] 58))):=hb0
  have hnil:=fun wx=>Go.Lib.run_eql_slice_nil (P:=Tryz.prog) wx 52 58 (some ad) ps.length pcap 0 0 Tryz.underlying52
  clear hl hb0 ha
  go_enter Tryz.func137,Tryz.ntmps137
  go_wp2_with (at_builtin;refine Kr _ rfl _ _ rfl w.heap.size (.slice (some ⟨w.heap.size,0,none⟩) 0 0) [] ps (some ad) ps.length pcap rfl rfl rfl H4.out H1.out (fun h=>by cases h) (by simpa using hn) (by simp) ?_;rintro v' w3 ⟨hown',hb3⟩)
  go_ret
  exact ⟨_,rfl,by simpa using hown',HB0.out.trans hb3⟩
theorem OO (b off n pcap:Nat) (xs:Nat → Pk) (ps:List Pk) (f:Nat) (w:World) (h:Ew w b off n xs (fun i=>i)) (hn:n ≤ 300) (hnum:∀ i,i < n → ((xs i).flow == (f:Int))=(Ae ps i == f)) :
  Calls Tryz.prog 163 #[.slice (some ⟨b,off,none⟩) n pcap,.int .i64 (f:Int)] w fun e w'=>∃ v,e=.returned v ∧ w'.ownsRow w.heap.size 3 1 v (A7 ps f n).length (ints (Am (A7 ps f n))) ∧ Below w.heap.size w w':=by
 have HR:Hid (Ew w b off n xs (fun i=>i)):=h
 have HF:Hid (∀ i,i < n → ((xs i).flow == (f:Int))=(Ae ps i == f)):=hnum
 clear h hnum
 go_enter Tryz.func163,Tryz.ntmps163
 go_wp2_with fail
 go_loopg [5,10] n (fun gk ov iv wr=>∃ k:Nat,iv=.int .i64 (k:Int) ∧ k ≤ n ∧ n - k ≤ gk ∧ Hid (Both wr w.heap.size (.slice none 0 0) ov [] (Am (A7 ps f k)) ∧ Below w.heap.size w wr))
 case atStart=>exact ⟨0,rfl,Nat.zero_le _,Nat.le_refl _,Y0 _ _,Below.refl _ _⟩
 case round=>
  obtain ⟨k,rfl,hkn,hgk,H⟩:=hrel
  by_cases hlt:k < n
  ·
   have hltz:(k:Int) < (n:Int):=by omega
   have HRr:=HR.out.later H.out.2
   have c0:wr.cell? ⟨b,off+k * 3,none⟩=some (.int .i64 (xs k).flow):=HRr.c0 k hlt
   have c1:wr.cell? ⟨b,off+k * 3+1,none⟩=some (.int .i64 (xs k).size):=HRr.c1 k hlt
   have c2:wr.cell? ⟨b,off+k * 3+2,none⟩=some (.int .i64 (xs k).tick):=HRr.c2 k hlt
   have hfk:=HF.out k hlt
   obtain ⟨x0,hx0⟩:∃ x,(xs k).flow=x:=⟨_,rfl⟩
   obtain ⟨x1,hx1⟩:∃ x,(xs k).size=x:=⟨_,rfl⟩
   obtain ⟨x2,hx2⟩:∃ x,(xs k).tick=x:=⟨_,rfl⟩
   rw [hx0] at c0 hfk
   rw [hx1] at c1
   rw [hx2] at c2
   have HLen:Hid ((A7 ps f k).length ≤ k):=by show (A7 ps f k).length ≤ k;unfold A7;exact Nat.le_trans (List.length_filter_le _ _) (by simp)
   clear HRr hx0 hx1 hx2
   by_cases hfl:Ae ps k=f
   ·
    have hq:(x0 == (f:Int))=true:=by rw [hfk];simpa using hfl
    have HS:Hid (A7 ps f (k+1)=A7 ps f k ++ [k]):=by show _=_;rw [JU,if_pos hfl]
    clear hfk hfl
    have hb1:Below wr.heap.size wr (wr.alloc (.cells #[.int .i64 x0,.int .i64 x1,.int .i64 x2] 58)):=(Below.refl _ _).alloc (Nat.le_refl _) _
    have hb2:Below wr.heap.size wr ((wr.alloc (.cells #[.int .i64 x0,.int .i64 x1,.int .i64 x2] 58)).alloc (.cells #[.int .i64 (k:Int)] 3)):=hb1.alloc hb1.size _
    have HV:Hid (Both ((wr.alloc (.cells #[.int .i64 x0,.int .i64 x1,.int .i64 x2] 58)).alloc (.cells #[.int .i64 (k:Int)] 3)) w.heap.size (.slice none 0 0) u5 [] (Am (A7 ps f k)) ∧ Below w.heap.size w ((wr.alloc (.cells #[.int .i64 x0,.int .i64 x1,.int .i64 x2] 58)).alloc (.cells #[.int .i64 (k:Int)] 3)) ∧ ((wr.alloc (.cells #[.int .i64 x0,.int .i64 x1,.int .i64 x2] 58)).alloc (.cells #[.int .i64 (k:Int)] 3)).cell? ⟨wr.heap.size+1,0,none⟩=some (.int .i64 (k:Int))):=⟨H.out.1.later hb2,H.out.2.trans (hb2.mono H.out.2.size),by simp⟩
    clear hb1 hb2 H
    go_wp2_with (at_builtin;refine LZ _ rfl _ _ rfl w.heap.size (.slice none 0 0) u5 [] (Am (A7 ps f k)) (k:Int) ⟨wr.heap.size+1,0,none⟩ rfl rfl HV.out.1 HV.out.2.2 (by have:=HLen.out;simp [Am];omega) HV.out.2.1.size ?_;rintro v7 w7 ⟨hbo7,hb7⟩;have H7:Hid (Both w7 w.heap.size (.slice none 0 0) v7 [] (Am (A7 ps f (k+1))) ∧ Below w.heap.size w w7):=⟨by rw [HS.out,Tf];exact hbo7,HV.out.2.1.trans hb7⟩;clear hbo7 hb7)
    go_roundg (n - (k+1))
    case measure=>omega
    case rel=>exact ⟨k+1,by go_num,hlt,Nat.le_refl _,H7⟩
   ·
    have hq:(x0 == (f:Int))=false:=by rw [hfk];simpa using hfl
    have HS:Hid (A7 ps f (k+1)=A7 ps f k):=by show _=_;rw [JU,if_neg hfl]
    have hb1:Below wr.heap.size wr (wr.alloc (.cells #[.int .i64 x0,.int .i64 x1,.int .i64 x2] 58)):=(Below.refl _ _).alloc (Nat.le_refl _) _
    have HV:Hid (Both (wr.alloc (.cells #[.int .i64 x0,.int .i64 x1,.int .i64 x2] 58)) w.heap.size (.slice none 0 0) u5 [] (Am (A7 ps f (k+1))) ∧ Below w.heap.size w (wr.alloc (.cells #[.int .i64 x0,.int .i64 x1,.int .i64 x2] 58))):=by
     refine ⟨?_,H.out.2.trans (hb1.mono H.out.2.size)⟩
     rw [HS.out]
     exact H.out.1.later hb1
    clear hfk hfl hb1 H
    go_wp2_with fail
    go_roundg (n - (k+1))
    case measure=>omega
    case rel=>exact ⟨k+1,by go_num,hlt,Nat.le_refl _,HV⟩
  ·
   have hltz:¬ (k:Int) < (n:Int):=by omega
   obtain rfl:k=n:=by omega
   go_wp2_with fail
   go_ret
   refine ⟨_,rfl,?_,H.out.2⟩
   have:=H.out.1.nums
   rwa [show (Am (A7 ps f k)).length=(A7 ps f k).length by simp [Am]] at this
theorem Ze (t:Addr) (w:World):Calls Tryz.prog 27 #[.nilIface,.iface 77 (.pointer (some t))] w fun ev w'=>ev=.returned (.bool false) ∧ w'=w:=by
 go_enter Tryz.func27,Tryz.ntmps27
 go_wp2_with fail
 go_ret
 exact ⟨rfl,rfl⟩
theorem O9 (n:Nat) (hn:n ≤ 1000) (w':World):(Instr.makeSlice 52 (.int .i64 n) (.int .i64 n)).run Tryz.prog w'=.ok (.slice (some ⟨w'.heap.size,0,none⟩) n n) (w'.alloc (.cells (madeCells #[.int .i64 0,.int .i64 0,.int .i64 0] (n * 3)) 58)):=by
 obtain ⟨i0,hi,hz0,hz1,hz2⟩:=info_parts Tryz.infoPkt
 have:=run_make (P:=Tryz.prog) w' 52 58 i0 (.agg #[.int .i64 0,.int .i64 0,.int .i64 0]) Tryz.underlying52 hi hz0 .i64 .i64 n n (by omega) (by omega) (by rw [hz2];omega) (by omega)
 simpa [hz1,Value.cells] using this
def Ik (xs:Nat → Pk):Nat → Pk
 | 0=>⟨0,0,0⟩
 | i+1=>xs i
def upTo (L:List Nat) (i k:Nat):Nat:=if k < i then L.getD k 0+1 else 0
theorem YI (L:List Nat) {i z:Nat} (h:L[i]? = some z):(fun k=>if k=i then z+1 else upTo L i k)=upTo L (i+1):=by
 funext k
 unfold upTo
 by_cases e:k=i
 ·
  subst e
  rw [if_pos rfl,if_pos (by omega)]
  simp [List.getD,h]
 ·
  by_cases e':k < i
  · rw [if_neg e,if_pos e',if_pos (by omega)]
  · rw [if_neg e,if_neg e',if_neg (by omega)]
theorem UF (n j:Nat) (h:j < n):(madeCells #[.int .i64 0,.int .i64 0,.int .i64 0] n)[j]? = some (.int .i64 0):=by
 rw [Array.getElem?_eq_getElem (by rw [size_madeCells];exact h)]
 simp only [madeCells,Array.getElem_map,Array.getElem_range]
 have:j % 3=0 ∨ j % 3=1 ∨ j % 3=2:=by omega
 have e:(#[Value.int .i64 0,.int .i64 0,.int .i64 0]:Array Value).size=3:=rfl
 rw [e]
 rcases this with h' | h' | h' <;> rw [h'] <;> rfl
theorem Y2 (xs:Nat → Pk) (L:List Nat) (w:World) (n:Nat):Ew (w.alloc (.cells (madeCells #[.int .i64 0,.int .i64 0,.int .i64 0] (n * 3)) 58)) w.heap.size 0 n (Ik xs) (upTo L 0):=by
 have key:∀ j,j < n * 3 → (w.alloc (.cells (madeCells #[.int .i64 0,.int .i64 0,.int .i64 0] (n * 3)) 58)).cell? ⟨w.heap.size,j,none⟩=some (.int .i64 0):=fun j hj=>by
  rw [World.cell?_alloc_at _ _ _ _ rfl]
  exact UF _ _ hj
 refine ⟨by simp,fun i hi=>?_,fun i hi=>?_,fun i hi=>?_,fun j=>by simp⟩
 · rw [Nat.zero_add];exact key _ (by omega)
 · rw [Nat.zero_add];exact key _ (by omega)
 · rw [Nat.zero_add];exact key _ (by omega)
def Gs (n:Nat) (xs:Nat → Pk) (out:List Pk) (z:Nat):Pk:=if z < n then xs z else out.getD (z - n) ⟨0,0,0⟩
def over (n:Nat) (L:List Nat):Nat → Nat → Nat
 | 0=>fun k=>k
 | i+1=>fun k=>if k=L.getD i 0 then n+i else over n L i k
theorem Sj (n:Nat) (L:List Nat) {k:Nat}:∀ i,i ≤ L.length → k ∉ L → over n L i k=k
 | 0,_,_=>rfl
 | i+1,hi,hk=>by
  have e:L[i]? = some L[i]:=List.getElem?_eq_getElem (by omega)
  simp only [over,List.getD,e,Option.getD_some]
  rw [if_neg (fun h=>hk (by rw [h];exact List.getElem_mem _))]
  exact Sj n L i (by omega) hk
theorem VF (n:Nat) {L:List Nat} (hL:L.Pairwise (· < ·)) {r k:Nat} (hr:L[r]? = some k):∀ i,i ≤ L.length → r < i → over n L i k=n+r
 | 0,_,h=>absurd h (Nat.not_lt_zero _)
 | i+1,hi,h=>by
  have e:L[i]? = some L[i]:=List.getElem?_eq_getElem (by omega)
  have er:L[r]'(Ad hr)=k:=Option.some.inj ((List.getElem?_eq_getElem (Ad hr)).symm.trans hr)
  simp only [over,List.getD,e,Option.getD_some]
  rcases Nat.lt_or_ge r i with h' | h'
  ·
   have hlt:=List.pairwise_iff_getElem.1 hL r i (Ad hr) (by omega) h'
   rw [er] at hlt
   rw [if_neg (by omega)]
   exact VF n hL hr i (by omega) h'
  ·
   obtain rfl:r=i:=by omega
   rw [er,if_pos rfl]
def Ml (b off n:Nat) (xs:Nat → Pk) (ps:List Pk) (f:Nat) (ls:List (Int × Int)) (w:World) (e:Ending) (w':World):Prop:=
 But (fun k=>k=b) w w' ∧ ((∃ s ys,shape ls (Cj ps f n)=some s ∧ e=.returned (.int .i64 (n:Int)) ∧ Ew w' b off n ys (fun i=>i) ∧ (∀ (r i:Nat),(A7 ps f n)[r]? = some i → s.out[r]? = some (ys i)) ∧ (∀ i,i < n → i ∉ A7 ps f n → ys i=xs i)) ∨
  (∃ (r i:Nat) (p:Pk) (s:Sh),(A7 ps f n)[r]? = some i ∧ (Cj ps f n)[r]? = some p ∧ shape ls ((Cj ps f n).take r)=some s ∧ Cz s p=none ∧ e=.returned (.int .i64 (i:Int)) ∧ Ew w' b off n xs (fun i=>i)))
theorem OZ (la:Option Addr) (lcap:Nat) (ls:List (Int × Int)) (b off n pcap:Nat) (xs:Nat → Pk) (ps:List Pk) (f:Nat) (w:World) (ad:Nat → Addr) (he:AP w ad) (hl:AL w la ls) (hk:Ag ls) (h:Ew w b off n xs (fun i=>i)) (hps:ps.length=n) (ho:Aj ps)
  (hnum:∀ i,i < n → ((xs i).flow == (f:Int))=(Ae ps i == f)) (hown:∀ (r i:Nat),(A7 ps f n)[r]? = some i → (Cj ps f n)[r]? = some (xs i)) :
  Calls Tryz.prog 138 #[.slice la ls.length lcap,.slice (some ⟨b,off,none⟩) n pcap,.int .i64 (f:Int)] w fun e w'=>Ml b off n xs ps f ls w e w':=by
 have hn:n ≤ 300:=by rw [← hps];exact ho.few
 have hlenL:(A7 ps f n).length ≤ n:=by unfold A7;exact Nat.le_trans (List.length_filter_le _ _) (by simp)
 have hown2:=DJ ho f ps.length (Nat.le_refl _)
 have hok:=(QY ho f ps.length (Nat.le_refl _)).1
 rw [hps] at hown2 hok
 have HNu:=(show Hid (Calls Tryz.prog 163 #[.slice (some ⟨b,off,none⟩) n pcap,.int .i64 (f:Int)] w fun e w'=>∃ v,e=.returned v ∧ w'.ownsRow w.heap.size 3 1 v (A7 ps f n).length (ints (Am (A7 ps f n))) ∧ Below w.heap.size w w') from OO b off n pcap xs ps f w h hn hnum)
 have HE:Hid (AP w ad):=he
 have HL:Hid (AL w la ls ∧ Ag ls):=⟨hl,hk⟩
 have HR:Hid (Ew w b off n xs (fun i=>i)):=h
 have HO:Hid (Aj (Cj ps f n)):=hok
 have HOw:Hid (∀ (r i:Nat),(A7 ps f n)[r]? = some i → (Cj ps f n)[r]? = some (xs i)):=hown
 have HOl:Hid ((Cj ps f n).length=(A7 ps f n).length):=hown2.1
 have HIn:Hid (∀ i,i ∈ A7 ps f n → i < n):=fun i hi=>(Jm.1 hi).1
 have HPw:Hid ((A7 ps f n).Pairwise (· < ·)):=WV f n
 obtain ⟨L,hL⟩:∃ L,A7 ps f n=L:=⟨_,rfl⟩
 obtain ⟨own,hO⟩:∃ own,Cj ps f n=own:=⟨_,rfl⟩
 have HEq:Hid (A7 ps f n=L ∧ Cj ps f n=own):=⟨hL,hO⟩
 rw [hL] at HNu HOw HOl HIn HPw hlenL
 rw [hO] at HO HOw HOl
 clear he hl hk h hps ho hnum hown hown2 hok hL hO
 obtain ⟨m,hm⟩:∃ m,L.length=m:=⟨_,rfl⟩
 have HM:Hid (L.length=m):=hm
 rw [hm] at HNu hlenL
 have hmk:=O9 m (by omega)
 clear hm
 go_enter Tryz.func138,Tryz.ntmps138
 go_wp2_with fail
 refine HNu.out.mono ?_
 rintro e w1 ⟨v,rfl,hrow,hb1⟩
 have hal:(Am L).length=m:=by rw [← HM.out];simp [Am]
 rw [← hal] at hrow
 obtain ⟨na,ncap,rfl,hnc,hnm,hln,hnB⟩:=Qg hrow
 have HnB:Hid (∀ ad,na=some ad → b ≠ ad.block):=fun ad' hna=>by subst hna;have h7:=(AX hrow rfl).1;have h8:=HR.out.lt;omega
 rw [hal] at hnc ⊢
 have HB1:Hid (Below w.heap.size w w1):=hb1
 have HLn:Hid (AV w1 na (Am L)):=hln
 have HR1:Hid (Ew w1 b off n xs (fun i=>i)):=HR.out.later hb1
 clear hrow hb1 hln hal hnm
 have hb2:Below w1.heap.size w1 (w1.alloc (.cells (madeCells #[.int .i64 0,.int .i64 0,.int .i64 0] (m * 3)) 58)):=(Below.refl _ _).alloc (Nat.le_refl _) _
 have hrm:=Y2 xs L w1 m
 obtain ⟨W2,hW2⟩:∃ W,w1.alloc (.cells (madeCells #[.int .i64 0,.int .i64 0,.int .i64 0] (m * 3)) 58)=W:=⟨_,rfl⟩
 have HW2:Hid (w1.alloc (.cells (madeCells #[.int .i64 0,.int .i64 0,.int .i64 0] (m * 3)) 58)=W2):=hW2
 rw [hW2] at hb2 hrm
 obtain ⟨O,hOO⟩:∃ O,w1.heap.size=O:=⟨_,rfl⟩
 have HOO:Hid (w1.heap.size=O):=hOO
 rw [hOO] at hrm
 have HB2:Hid (Below w1.heap.size w1 W2):=hb2
 have HF0:Hid (Ew W2 O 0 m (Ik xs) (upTo L 0)):=hrm
 have hbO:b ≠ O:=by rw [← HOO.out];have:=HR1.out.lt;omega
 clear hb2 hrm hW2 hOO
 go_wp2_with fail
 rw [HW2.out,HOO.out]
 clear hmk HW2
 go_wp2_with fail
 go_loopg [24] m (fun gk iv wr=>∃ k:Nat,iv=.int .i64 (k:Int) ∧ k ≤ m ∧ m - k ≤ gk ∧ Hid (Ew wr O 0 m (Ik xs) (upTo L k) ∧ But (fun z=>z=O) W2 wr))
 case atStart=>exact ⟨0,rfl,Nat.zero_le _,Nat.le_refl _,HF0.out,But.refl _ _⟩
 case round=>
  clear HF0
  obtain ⟨k,rfl,hkm,hgk,H⟩:=hrel
  have HbO:Hid (∀ {g o:Nat} {u:Value},w1.cell? ⟨g,o,none⟩=some u → wr.cell? ⟨g,o,none⟩=some u):=fun {g o u} hu=>by
   have hu2:=cell_later HB2.out hu
   rw [H.out.2.cell (p:=⟨g,o,none⟩) (Ck hu2) (by show ¬ g=O;rw [← HOO.out];have:=Ck hu;simp at this;omega)]
   exact hu2
  by_cases hlt:k < m
  ·
   have hltz:(k:Int) < (m:Int):=by omega
   obtain ⟨z,hz,-⟩:=Ai L k (by rw [HM.out];exact hlt)
   have hzn:z < n:=HIn.out z (List.mem_of_getElem? hz)
   have hznz:(z:Int) < (n:Int):=by omega
   obtain ⟨nb,noff,rfl,-,hnc2⟩:=HLn.out.place (by simp [Am];have:=HM.out;omega)
   have cn:=HbO.out (hnc2 k (z:Int) (by simp [Am,hz]))
   have p0:wr.cell? ⟨b,off+z * 3,none⟩=some (.int .i64 (xs z).flow):=HbO.out (HR1.out.c0 z hzn)
   have p1:wr.cell? ⟨b,off+z * 3+1,none⟩=some (.int .i64 (xs z).size):=HbO.out (HR1.out.c1 z hzn)
   have p2:wr.cell? ⟨b,off+z * 3+2,none⟩=some (.int .i64 (xs z).tick):=HbO.out (HR1.out.c2 z hzn)
   have q0:=H.out.1.c0 k hlt
   have q1:=H.out.1.c1 k hlt
   have q2:=H.out.1.c2 k hlt
   rw [Nat.zero_add] at q0 q1 q2
   have f0:=H.out.1.fz (k * 3)
   have f1:=H.out.1.fz (k * 3+1)
   have f2:=H.out.1.fz (k * 3+2)
   have H2:∃ V,Hid (CB wr O (k * 3) (xs z)=V) ∧ Hid (Ew V O 0 m (Ik xs) (upTo L (k+1)) ∧ But (fun z=>z=O) W2 V):=⟨_,rfl,by
    have:=H.out.1.put hlt (z+1)
    rw [Nat.zero_add] at this
    have e:=YI L hz
    rw [e] at this
    exact this,KL H.out.2 rfl _ _⟩
   obtain ⟨V,HV,HVS⟩:=H2
   unfold CB at HV
   generalize (xs z).flow=u0 at p0 HV
   generalize (xs z).size=u1 at p1 HV
   generalize (xs z).tick=u2 at p2 HV
   generalize (Ik xs (upTo L k k)).flow=v0 at q0
   generalize (Ik xs (upTo L k k)).size=v1 at q1
   generalize (Ik xs (upTo L k k)).tick=v2 at q2
   clear hnc2 H HbO hz
   go_wp2_with fail
   rw [HV.out]
   clear HV p0 p1 p2 q0 q1 q2 f0 f1 f2 cn
   go_wp2_with fail
   go_roundg (m - (k+1))
   case measure=>omega
   case rel=>exact ⟨k+1,by go_num,hlt,Nat.le_refl _,HVS⟩
  ·
   have hltz:¬ (k:Int) < (m:Int):=by omega
   obtain rfl:k=m:=by omega
   have HLO:Hid (AO wr (some ⟨O,0,none⟩) own):=by
    refine .inr ⟨O,0,rfl,H.out.1.lt,fun i p hi=>?_⟩
    have him:i < k:=by have:=Ad hi;rw [HOl.out,HM.out] at this;exact this
    obtain ⟨z,hz,-⟩:=Ai L i (by rw [HM.out];exact him)
    have e1:=HOw.out i z hz
    rw [hi] at e1
    have e2:Ik xs (upTo L k i)=p:=by
     unfold upTo
     rw [if_pos him]
     simp [List.getD,hz,Ik,Option.some.inj e1]
    have c0:=H.out.1.c0 i him
    have c1:=H.out.1.c1 i him
    have c2:=H.out.1.c2 i him
    rw [e2] at c0 c1 c2
    exact ⟨c0,c1,c2⟩
   have HBw:Hid (Below w.heap.size w wr):=by
    have h12:=HB1.out.trans (HB2.out.mono HB1.out.size)
    exact h12.trans (H.out.2.below h12.size fun z hz=>by rw [hz,← HOO.out];exact HB1.out.size)
   have HLn2:Hid (AV wr na (Am L)):=by
    rcases HLn.out with h | ⟨nb,noff,rfl,h1,h2⟩
    · exact .inl h
    · exact .inr ⟨nb,noff,rfl,Nat.lt_of_lt_of_le h1 (Nat.le_trans HB2.out.size H.out.2.size),fun i x hi=>HbO.out (h2 i x hi)⟩
   have HRw:Hid (Ew wr b off n xs (fun i=>i)):=by
    refine ⟨Nat.lt_of_lt_of_le HR1.out.lt (Nat.le_trans HB2.out.size H.out.2.size),fun i hi=>HbO.out (HR1.out.c0 i hi),fun i hi=>HbO.out (HR1.out.c1 i hi),fun i hi=>HbO.out (HR1.out.c2 i hi),fun j=>?_⟩
    rw [H.out.2.frozen (p:=⟨b,j,none⟩) (Nat.lt_of_lt_of_le HR1.out.lt HB2.out.size) hbO,World.frozen?_of_block (w:=w1) (HB2.out.block b HR1.out.lt)]
    exact HR1.out.fz j
   have HSh:=(show Hid (Calls Tryz.prog 164 #[.slice la ls.length lcap,.slice (some ⟨O,0,none⟩) k k] wr fun e w'=>Nl ls own ad wr e w') from by
    have:=PM la lcap ls (some ⟨O,0,none⟩) k own wr ad (HE.out.below HBw.out).four (HL.out.1.below HBw.out) HL.out.2 HLO.out HO.out
    rwa [HOl.out,HM.out] at this)
   clear HbO H HLO HLn HR1 HB2 HB1
   go_wp2_with fail
   refine HSh.out.mono ?_
   rintro e w3 ⟨hb3,⟨s,D,hs,rfl,hD,hlD⟩ | ⟨j,p,s,F,hj,hs,hst,rfl,hF0,hF1⟩⟩
   ·
    rw [HOl.out.trans HM.out]
    have hb4:Below w3.heap.size w3 (w3.alloc (.cells #[.pointer none] 75)):=(Below.refl _ _).alloc (Nat.le_refl _) _
    have hb34:=hb3.trans (hb4.mono hb3.size)
    have HB4:Hid (Below wr.heap.size wr (w3.alloc (.cells #[.pointer none] 75))):=hb34
    have HlD:Hid (AO (w3.alloc (.cells #[.pointer none] 75)) (some ⟨D,0,none⟩) s.out):=hlD.below hb4
    have HDb:Hid (b ≠ D):=by show b ≠ D;have:=HRw.out.lt;omega
    have HS:Hid (shape ls own=some s ∧ s.out.length=k):=⟨hs,by rw [(Hg HL.out.2 _ s HO.out hs).len,HOl.out,HM.out]⟩
    have HAs:Hid (∀ W,Calls Tryz.prog 27 #[.nilIface,.iface 77 (.pointer (some ⟨w3.heap.size,0,none⟩))] W fun ev w'=>ev=.returned (.bool false) ∧ w'=W):=fun W=>Ze _ W
    clear hb3 hb4 hb34 hlD hD hs HSh
    go_wp2_with fail
    refine (HAs.out _).mono ?_
    rintro e w5 ⟨rfl,rfl⟩
    obtain ⟨W4,hW4⟩:∃ W,w3.alloc (.cells #[.pointer none] 75)=W:=⟨_,rfl⟩
    rw [hW4] at HB4 HlD ⊢
    obtain ⟨fa,hfa⟩:∃ fa,w3.heap.size=fa:=⟨_,rfl⟩
    rw [hfa]
    clear hW4 hfa HAs
    obtain ⟨W0,hW0⟩:∃ W,W=wr:=⟨_,rfl⟩
    subst hW0
    obtain ⟨gO,hgO⟩:∃ z,z=gk:=⟨_,rfl⟩
    subst hgO
    go_wp2_with fail
    go_loopg [55] k (fun gk2 iv wr=>∃ q:Nat,iv=.int .i64 (q:Int) ∧ q ≤ k ∧ k - q ≤ gk2 ∧ Hid (Ew wr b off n (Gs n xs s.out) (over n L q) ∧ But (fun z=>z=b) W4 wr))
    case atStart=>
     refine ⟨0,rfl,Nat.zero_le _,Nat.le_refl _,?_,But.refl _ _⟩
     have h4:=HRw.out.later HB4.out
     have e:∀ i,i < n → Gs n xs s.out (over n L 0 i)=xs i:=fun i hi=>by simp [Gs,over,hi]
     exact ⟨h4.lt,fun i hi=>by rw [e i hi];exact h4.c0 i hi,fun i hi=>by rw [e i hi];exact h4.c1 i hi,fun i hi=>by rw [e i hi];exact h4.c2 i hi,h4.fz⟩
    case round=>
     obtain ⟨q,rfl,hqk,hgk2,H⟩:=hrel
     have HbO:Hid (∀ {g o:Nat} {u:Value},b ≠ g → W4.cell? ⟨g,o,none⟩=some u → wr.cell? ⟨g,o,none⟩=some u):=fun {g o u} hg hu=>by
      rw [H.out.2.cell (p:=⟨g,o,none⟩) (Ck hu) (fun e=>hg e.symm)]
      exact hu
     by_cases hlt:q < k
     ·
      have hltz2:(q:Int) < (k:Int):=by omega
      obtain ⟨z,hz,-⟩:=Ai L q (by rw [HM.out];exact hlt)
      have hzn:z < n:=HIn.out z (List.mem_of_getElem? hz)
      have hznz:(z:Int) < (n:Int):=by omega
      obtain ⟨o,ho',-⟩:=Ai s.out q (by rw [HS.out.2];exact hlt)
      obtain ⟨nb,noff,rfl,-,hnc2⟩:=HLn2.out.place (by simp [Am];have:=HM.out;omega)
      have cn:=HbO.out (HnB.out _ rfl) (cell_later HB4.out (hnc2 q (z:Int) (by simp [Am,hz])))
      obtain ⟨D',off',hD',-,hcl⟩:=HlD.out.place (by rw [HS.out.2];omega)
      injection hD' with hD'
      injection hD' with hD1 hD2
      subst hD1
      subst hD2
      obtain ⟨d0,d1,d2⟩:=hcl q o ho'
      have d0:=HbO.out HDb.out d0
      have d1:=HbO.out HDb.out d1
      have d2:=HbO.out HDb.out d2
      rw [Nat.zero_add] at d0 d1 d2
      obtain ⟨o0,o1,o2⟩:=o
      have hbx:Below wr.heap.size wr (wr.alloc (.cells #[.int .i64 o0,.int .i64 o1,.int .i64 o2] 58)):=(Below.refl _ _).alloc (Nat.le_refl _) _
      have HRx:=H.out.1.later hbx
      have HBx:=H.out.2.trans (.ofBelow hbx)
      have x0:(wr.alloc (.cells #[.int .i64 o0,.int .i64 o1,.int .i64 o2] 58)).cell? ⟨wr.heap.size,0,none⟩=some (.int .i64 o0):=by simp
      have x1:(wr.alloc (.cells #[.int .i64 o0,.int .i64 o1,.int .i64 o2] 58)).cell? ⟨wr.heap.size,1,none⟩=some (.int .i64 o1):=by simp
      have x2:(wr.alloc (.cells #[.int .i64 o0,.int .i64 o1,.int .i64 o2] 58)).cell? ⟨wr.heap.size,2,none⟩=some (.int .i64 o2):=by simp
      have cnx:=cell_later hbx cn
      obtain ⟨X,hX⟩:∃ X,wr.alloc (.cells #[.int .i64 o0,.int .i64 o1,.int .i64 o2] 58)=X:=⟨_,rfl⟩
      have HX:Hid (wr.alloc (.cells #[.int .i64 o0,.int .i64 o1,.int .i64 o2] 58)=X):=hX
      rw [hX] at HRx HBx x0 x1 x2 cnx
      have p0:=HRx.c0 z hzn
      have p1:=HRx.c1 z hzn
      have p2:=HRx.c2 z hzn
      have f0:=HRx.fz (off+z * 3)
      have f1:=HRx.fz (off+z * 3+1)
      have f2:=HRx.fz (off+z * 3+2)
      have H2:∃ V,Hid ((CB X b (off+z * 3) ⟨o0,o1,o2⟩).drew=V) ∧ Hid (Ew V b off n (Gs n xs s.out) (over n L (q+1)) ∧ But (fun z=>z=b) W4 V):=⟨_,rfl,by
       have h5:=HRx.put hzn (n+q)
       have e1:Gs n xs s.out (n+q)=⟨o0,o1,o2⟩:=by
        unfold Gs
        rw [if_neg (by omega),Nat.add_sub_cancel_left]
        simp [List.getD,ho']
       have e2:(fun j=>if j=z then n+q else over n L q j)=over n L (q+1):=by
        funext j
        simp [over,List.getD,hz]
       rw [e1,e2] at h5
       exact h5.later (below_drewN (Below.refl _ _) 1),(KL HBx rfl _ _).drew⟩
      obtain ⟨V,HV,HVS⟩:=H2
      unfold CB at HV
      generalize (Gs n xs s.out (over n L q z)).flow=v0 at p0
      generalize (Gs n xs s.out (over n L q z)).size=v1 at p1
      generalize (Gs n xs s.out (over n L q z)).tick=v2 at p2
      obtain ⟨xb,hxb⟩:∃ xb,wr.heap.size=xb:=⟨_,rfl⟩
      have HXB:Hid (wr.heap.size=xb):=hxb
      rw [hxb] at x0 x1 x2
      clear hnc2 hcl H HbO hz ho' HRx HBx hbx hX hxb
      go_wp2_with fail
      rw [HX.out,HXB.out]
      clear d0 d1 d2 cn
      go_wp2_with fail
      go_region
      rw [HV.out]
      clear HV p0 p1 p2 f0 f1 f2 x0 x1 x2 cnx
      go_wp2_with fail
      go_roundg (k - (q+1))
      case measure=>omega
      case rel=>exact ⟨q+1,by go_num,hlt,Nat.le_refl _,HVS⟩
     ·
      have hltz2:¬ (q:Int) < (k:Int):=by omega
      obtain rfl:q=k:=by omega
      have HEnd:Hid (Ml b off n xs ps f ls w (.returned (.int .i64 (n:Int))) wr):=by
       have hbt:But (fun z=>z=b) w wr:=(But.ofBelow (HBw.out.trans (HB4.out.mono HBw.out.size))).trans H.out.2
       refine ⟨hbt,.inl ⟨s,fun i=>Gs n xs s.out (over n L q i),by rw [HEq.out.2];exact HS.out.1,rfl,⟨H.out.1.lt,H.out.1.c0,H.out.1.c1,H.out.1.c2,H.out.1.fz⟩,fun r i hr=>?_,fun i hi hni=>?_⟩⟩
       ·
        rw [HEq.out.1] at hr
        have hrl:=Ad hr
        rw [HM.out] at hrl
        obtain ⟨o,ho',-⟩:=Ai s.out r (by rw [HS.out.2];exact hrl)
        show s.out[r]? = some (Gs n xs s.out (over n L q i))
        rw [VF n HPw.out hr q (by rw [HM.out];exact Nat.le_refl _) hrl]
        unfold Gs
        rw [if_neg (by omega),Nat.add_sub_cancel_left]
        simp [List.getD,ho']
       ·
        rw [HEq.out.1] at hni
        show Gs n xs s.out (over n L q i)=xs i
        rw [Sj n L q (by rw [HM.out];exact Nat.le_refl _) hni]
        simp [Gs,hi]
      clear H HbO
      go_wp2_with fail
      go_ret
      exact HEnd.out
   ·
    have hb4:Below w3.heap.size w3 (w3.alloc (.cells #[.pointer none] 75)):=(Below.refl _ _).alloc (Nat.le_refl _) _
    have hb34:=hb3.trans (hb4.mono hb3.size)
    have hb04:Below w.heap.size w (w3.alloc (.cells #[.pointer none] 75)):=HBw.out.trans (hb34.mono HBw.out.size)
    have HB4:Hid (Below w3.heap.size w3 (w3.alloc (.cells #[.pointer none] 75)) ∧ Below wr.heap.size wr w3):=⟨hb4,hb3⟩
    have hjk:j < k:=by have:=Ad hj;rw [HOl.out,HM.out] at this;exact this
    obtain ⟨z,hz,-⟩:=Ai L j (by rw [HM.out];exact hjk)
    obtain ⟨nb,noff,rfl,-,hnc2⟩:=HLn2.out.place (by simp [Am];have:=HM.out;omega)
    have cn3:=cell_later hb3 (hnc2 j (z:Int) (by simp [Am,hz]))
    have HTy:Hid ((w3.alloc (.cells #[.pointer none] 75)).cell? ⟨9,0,none⟩=some (.iface 151 (.agg #[.pointer (some ⟨16,25,none⟩)]))):=(HE.out.below hb04).typ
    have HSt:Hid (own[j]? = some p ∧ shape ls (own.take j)=some s ∧ Cz s p=none ∧ L[j]? = some z):=⟨hj,hs,hst,hz⟩
    have hjz:(j:Int) < (k:Int):=by omega
    clear hb3 hb4 hb34 hb04 hj hs hst hz hnc2 HSh hF1
    go_wp2_with fail
    refine (YF ⟨F,0,none⟩ ⟨w3.heap.size,0,none⟩ (.pointer none) _ HTy.out (by simp) (by simp)).mono ?_
    rintro e w5 ⟨rfl,hw5⟩
    have hb5:Below w3.heap.size w3 w5:=by
     rw [hw5]
     exact ((((HB4.out.1.alloc (by simp) _).alloc (by simp;omega) _).alloc (by simp;omega) _).alloc (by simp;omega) _).setCell (Nat.le_refl _) _
    have ht5:w5.cell? ⟨w3.heap.size,0,none⟩=some (.pointer (some ⟨F,0,none⟩)):=by
     rw [hw5]
     exact Y1 w3 _ _ _ _ _
    have cn5:=cell_later hb5 cn3
    have hF5:=cell_later hb5 hF0
    have HEnd:Hid (Ml b off n xs ps f ls w (.returned (.int .i64 (z:Int))) w5):=by
     have h35:=HB4.out.2.trans (hb5.mono HB4.out.2.size)
     refine ⟨.ofBelow (HBw.out.trans (h35.mono HBw.out.size)),.inr ⟨j,z,p,s,by rw [HEq.out.1];exact HSt.out.2.2.2,by rw [HEq.out.2];exact HSt.out.1,by rw [HEq.out.2];exact HSt.out.2.1,HSt.out.2.2.1,rfl,HRw.out.later h35⟩⟩
    obtain ⟨fa,hfa⟩:∃ fa,w3.heap.size=fa:=⟨_,rfl⟩
    rw [hfa] at ht5 ⊢
    clear hw5 hb5 HTy cn3 hF0 hfa
    go_wp2_with fail
    go_ret
    exact HEnd.out
theorem Ny (pa:Option Addr) (pcap:Nat) (f:Int) (w:World):Calls Tryz.prog 163 #[.slice pa 0 pcap,.int .i64 f] w fun e w'=>e=.returned (.slice none 0 0) ∧ w'=w:=by
 go_enter Tryz.func163,Tryz.ntmps163
 go_wp2_with fail
 refine wp_loop_rounds 1 ?_
 rw [rounds_succ]
 go_wp2_with fail
 go_ret
 exact ⟨rfl,rfl⟩
theorem MR (pa:Option Addr) (pcap:Nat) (fv:Value) (w:World):Calls Tryz.prog 193 #[.slice pa 0 pcap,.int .i64 0,.int .i64 0,fv] w fun e w'=>e=.returned (.tuple #[]) ∧ w'=w:=by
 go_enter Tryz.func193,Tryz.ntmps193
 go_wp2_with fail
 refine wp_loop_rounds 1 ?_
 rw [rounds_succ]
 go_wp2_with fail
 go_end0
 exact ⟨rfl,rfl⟩
theorem Rp (pa:Option Addr) (pcap:Nat) (fv:Value) (w:World):Calls Tryz.prog 165 #[.slice pa 0 pcap,.int .i64 0,fv] w fun e w'=>e=.returned (.tuple #[]) ∧ w'=w:=by
 have HI:Hid (∀ W,Calls Tryz.prog 193 #[.slice pa 0 pcap,.int .i64 0,.int .i64 0,fv] W fun e w'=>e=.returned (.tuple #[]) ∧ w'=W):=fun W=>MR pa pcap fv W
 go_enter Tryz.func165,Tryz.ntmps165
 go_wp2_with fail
 refine wp_loop_rounds 1 ?_
 rw [rounds_succ]
 go_wp2_with fail
 refine (HI.out _).mono ?_
 rintro e w1 ⟨rfl,rfl⟩
 go_wp2_with fail
 refine wp_loop_rounds 1 ?_
 rw [rounds_succ]
 go_wp2_with fail
 go_end0
 exact ⟨rfl,rfl⟩
theorem LW (pa:Option Addr) (pcap:Nat) (fv:Value) (w:World):Calls Tryz.prog 139 #[.slice pa 0 pcap,fv] w fun e w'=>e=.returned (.tuple #[]) ∧ w'=w:=by
 have HI:Hid (∀ W,Calls Tryz.prog 165 #[.slice pa 0 pcap,.int .i64 0,fv] W fun e w'=>e=.returned (.tuple #[]) ∧ w'=W):=fun W=>Rp pa pcap fv W
 go_enter Tryz.func139,Tryz.ntmps139
 go_wp2_with fail
 refine (HI.out _).mono ?_
 rintro e w1 ⟨rfl,rfl⟩
 go_wp2_with fail
 go_end0
 exact ⟨rfl,rfl⟩
theorem NR (la:Option Addr) (lcap:Nat) (ls:List (Int × Int)) (pa:Option Addr) (pcap:Nat) (f:Int) (w:World) (ad:Nat → Addr) (he:AP w ad) (hl:AL w la ls) (hk:Ag ls) :
  Calls Tryz.prog 138 #[.slice la ls.length lcap,.slice pa 0 pcap,.int .i64 f] w fun e w'=>e=.returned (.int .i64 0) ∧ Below w.heap.size w w':=by
 have HNu:Hid (∀ W,Calls Tryz.prog 163 #[.slice pa 0 pcap,.int .i64 f] W fun e w'=>e=.returned (.slice none 0 0) ∧ w'=W):=fun W=>Ny pa pcap f W
 have hmk:=O9 0 (by omega)
 have hb0:Below w.heap.size w (w.alloc (.cells (madeCells #[.int .i64 0,.int .i64 0,.int .i64 0] (0 * 3)) 58)):=(Below.refl _ _).alloc (Nat.le_refl _) _
 have HB0:Hid (Below w.heap.size w (w.alloc (.cells (madeCells #[.int .i64 0,.int .i64 0,.int .i64 0] (0 * 3)) 58))):=hb0
 have HSh:Hid (Calls Tryz.prog 164 #[.slice la ls.length lcap,.slice (some ⟨w.heap.size,0,none⟩) 0 0] (w.alloc (.cells (madeCells #[.int .i64 0,.int .i64 0,.int .i64 0] (0 * 3)) 58)) fun e w'=>Nl ls [] ad (w.alloc (.cells (madeCells #[.int .i64 0,.int .i64 0,.int .i64 0] (0 * 3)) 58)) e w'):=PM la lcap ls (some ⟨w.heap.size,0,none⟩) 0 [] _ ad (he.below hb0).four (hl.below hb0) hk (.inl rfl) Eh
 clear he hl hk hb0
 simp only [Int.ofNat_zero,Nat.zero_mul] at hmk HB0 HSh
 go_enter Tryz.func138,Tryz.ntmps138
 go_wp2_with fail
 refine (HNu.out _).mono ?_
 rintro e w1 ⟨rfl,rfl⟩
 go_wp2_with fail
 refine wp_loop_rounds 1 ?_
 rw [rounds_succ]
 go_wp2_with fail
 refine HSh.out.mono ?_
 rintro e w3 ⟨hb3,⟨s,D,-,rfl,-,-⟩ | ⟨j,p,s,F,hj,-⟩⟩
 ·
  have HB3:Hid (Below w1.heap.size w1 (w3.alloc (.cells #[.pointer none] 75))):=by
   have h3:=HB0.out.trans (hb3.mono HB0.out.size)
   exact h3.alloc h3.size _
  have HAs:Hid (∀ W,Calls Tryz.prog 27 #[.nilIface,.iface 77 (.pointer (some ⟨w3.heap.size,0,none⟩))] W fun ev w'=>ev=.returned (.bool false) ∧ w'=W):=fun W=>Ze _ W
  clear hb3 HSh
  go_wp2_with fail
  refine (HAs.out _).mono ?_
  rintro e w5 ⟨rfl,rfl⟩
  go_wp2_with fail
  refine wp_loop_rounds 1 ?_
  rw [rounds_succ]
  go_wp2_with fail
  go_ret
  exact ⟨rfl,HB3.out⟩
 · simp at hj
def Dp (cs:List (List (Int × Int))) (ps:List Pk) (ad:Nat → Addr) (w:World) (e:Ending) (w':World):Prop:=
 Below w.heap.size w w' ∧ ((∃ (i F:Nat),Be (Af cs) ps i ∧ (∀ j,j < i → ¬ Be (Af cs) ps j) ∧ e=.returned (.tuple #[.slice none 0 0,.iface 75 (.pointer (some ⟨F,0,none⟩))]) ∧ w'.cell? ⟨F,0,none⟩=some (.int .i64 (i:Int)) ∧ w'.cell? ⟨F,1,none⟩=some (.iface 312 (.pointer (some (ad 3))))) ∨
  (∃ qa qcap at_ L,(∀ i,¬ Be (Af cs) ps i) ∧ Shaped (Af cs) ps at_ ∧ Bg at_ ps.length L ∧ e=.returned (.tuple #[.slice qa (BQ ps at_ L).length qcap,.nilIface]) ∧ CE w' qa qcap (BQ ps at_ L)))
structure Dm (ps:List Pk) (f:Nat) (xs:Nat → Pk):Prop where
 flow:∀ i p,ps[i]? = some p → (xs i).flow=p.flow ∧ (xs i).size=p.size
 left:∀ i p,ps[i]? = some p → f ≤ Ae ps i → xs i=p
def Ch (n:Nat) (xs:Nat → Pk) (i:Nat):Int:=if i < n then (xs i).tick else 0
section
variable {cs:Nat → List (Int × Int)} {ps:List Pk} {f:Nat} {z:Int} {xs ys:Nat → Pk}
theorem Dm.nums (ho:Aj ps) (h:Dm ps f xs):∀ i,i < ps.length → ((xs i).flow == (f:Int))=(Ae ps i == f):=fun i hi=>by
 have e:ps[i]? = some ps[i]:=List.getElem?_eq_getElem hi
 rw [(h.flow i _ e).1]
 have:=Qt ho e f
 by_cases hf:Ae ps i=f
 · rw [beq_iff_eq.2 (this.2 hf),beq_iff_eq.2 hf]
 · rw [beq_eq_false_iff_ne.2 (fun h'=>hf (this.1 h')),beq_eq_false_iff_ne.2 hf]
theorem Dm.own (ho:Aj ps) (h:Dm ps f xs):∀ (r i:Nat),(A7 ps f ps.length)[r]? = some i → (Cj ps f ps.length)[r]? = some (xs i):=fun r i hr=>by
 obtain ⟨g1,g2,-,g4⟩:=(DJ ho f ps.length (Nat.le_refl _)).2 r i hr
 have e:ps[i]? = some ps[i]:=List.getElem?_eq_getElem g1
 rw [g4,e,h.left i _ e (by omega)]
theorem Vp (ho:Aj ps) (hc:cs f=[]) (h:Dm ps f xs) (hd:BA cs ps f z (Ch ps.length xs)):Dm ps (f+1) xs ∧ BA cs ps (f+1) z (Ch ps.length xs):=by
 refine ⟨⟨h.flow,fun i p hi hf=>h.left i p hi (by omega)⟩,hd.shaped ho (out:=Cj ps f ps.length) (by unfold CY;rw [if_pos hc]) (fun r i hr=>?_) (fun _ _=>rfl)⟩
 have hlt:=((DJ ho f ps.length (Nat.le_refl _)).2 r i hr).1
 unfold Ch
 rw [if_pos hlt,AJ (h.own ho r i hr)]
theorem Sc (ho:Aj ps) (hk:Ag (cs f)) (hne:cs f ≠ []) (h:Dm ps f xs) (hd:BA cs ps f z (Ch ps.length xs)) {s:Sh} (hs:shape (cs f) (Cj ps f ps.length)=some s) (h1:∀ (r i:Nat),(A7 ps f ps.length)[r]? = some i → s.out[r]? = some (ys i)) (h2:∀ i,i < ps.length → i ∉ A7 ps f ps.length → ys i=xs i):Dm ps (f+1) ys ∧ BA cs ps (f+1) z (Ch ps.length ys):=by
 have hown:=(QY ho f ps.length (Nat.le_refl _)).1
 have hg:=Hg hk _ s hown hs
 refine ⟨⟨fun i p hi=>?_,fun i p hi hf=>?_⟩,hd.shaped ho (out:=s.out) (by unfold CY;rw [if_neg hne,hs];rfl) (fun r i hr=>?_) (fun i hi=>?_)⟩
 ·
  by_cases hm:i ∈ A7 ps f ps.length
  ·
   obtain ⟨r,hr,e⟩:=List.getElem_of_mem hm
   have e2:(A7 ps f ps.length)[r]? = some i:=by rw [List.getElem?_eq_getElem hr,e]
   have:=hg.each r _ _ (h.own ho r i e2) (h1 r i e2)
   rw [this.1,this.2.1]
   exact h.flow i p hi
  ·
   rw [h2 i (Ad hi) hm]
   exact h.flow i p hi
 ·
  have hm:i ∉ A7 ps f ps.length:=fun hm=>by have:=(Jm.1 hm).2;omega
  rw [h2 i (Ad hi) hm]
  exact h.left i p hi (by omega)
 ·
  have hlt:=((DJ ho f ps.length (Nat.le_refl _)).2 r i hr).1
  unfold Ch
  rw [if_pos hlt,AJ (h1 r i hr)]
 ·
  unfold Ch
  by_cases hlt:i < ps.length
  · rw [if_pos hlt,if_pos hlt,h2 i hlt hi]
  · rw [if_neg hlt,if_neg hlt]
theorem R9 (ho:Aj ps) (hne:cs f ≠ []) (h:Dm ps f xs) (hd:BA cs ps f z (Ch ps.length xs)) {r i:Nat} {p:Pk} {s:Sh} (hr:(A7 ps f ps.length)[r]? = some i) (h1:(Cj ps f ps.length)[r]? = some p) (h2:shape (cs f) ((Cj ps f ps.length).take r)=some s) (h3:Cz s p=none):Dm ps (f+1) xs ∧ BA cs ps (f+1) (if z < 0 ∨ (i:Int) < z then (i:Int) else z) (Ch ps.length xs):=by
 obtain ⟨g1,g2⟩:=Xu ho hne hr h1 h2 h3
 exact ⟨⟨h.flow,fun j q hj hf=>h.left j q hj (by omega)⟩,hd.stuck ho g1 g2⟩
end
def D9 (n:Nat) (z:Int):Int:=if z < 0 then (n:Int) else z
theorem Xn {ps:List Pk} {xs:Nat → Pk} (h:∀ i p,ps[i]? = some p → (xs i).flow=p.flow ∧ (xs i).size=p.size) {i:Nat} (hi:i < ps.length):FI ps (Ch ps.length xs) i=xs i:=by
 have e:ps[i]? = some ps[i]:=List.getElem?_eq_getElem hi
 obtain ⟨h1,h2⟩:=h i _ e
 rw [Ee e,← h1,← h2]
 unfold Ch
 rw [if_pos hi]
theorem WT {w:World} {g off n:Nat} {pk:Nat → Pk} {h:Nat → Nat} (hr:Ew w g off n pk h):AO w (some ⟨g,off,none⟩) (((List.range n).map h).map pk):=by
 refine .inr ⟨g,off,rfl,hr.lt,fun i p hi=>?_⟩
 have hin:i < n:=by have:=Ad hi;simpa using this
 have e:pk (h i)=p:=by simpa [hin] using hi
 have c0:=hr.c0 i hin
 have c1:=hr.c1 i hin
 have c2:=hr.c2 i hin
 rw [e] at c0 c1 c2
 exact ⟨c0,c1,c2⟩
theorem U9 {w:World} {B g cap:Nat} {ps:List Pk} (h:DC w B (.slice (some ⟨g,0,none⟩) ps.length cap) ps) (hg:g < w.heap.size):Ew w g 0 ps.length (fun i=>ps.getD i ⟨0,0,0⟩) (fun i=>i):=by
 refine ⟨hg,fun i hi=>?_,fun i hi=>?_,fun i hi=>?_,fun j=>World.ownsRow.frozenAt h j⟩
 all_goals
  have e:ps[i]? = some ps[i]:=List.getElem?_eq_getElem hi
  have hc:=JI ps i ps[i] e
  rw [Nat.zero_add,World.ownsRow.cellAt h _ (by omega)]
  simp only [List.getD,e,Option.getD_some]
 · exact hc.1
 · exact hc.2.1
 · exact hc.2.2
end Go.Proofs.YtipdclphpkgceaaGreatDoor
