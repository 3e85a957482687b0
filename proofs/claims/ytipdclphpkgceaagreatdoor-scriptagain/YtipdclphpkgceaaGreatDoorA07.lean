/- Own facts, put together: no statement of its own. -/
import Derived.Test.YtipdclphpkgceaaGreatDoorA06
import Derived.Test.YtipdclphpkgceaaGreatDoorA01
import Derived.Test.YtipdclphpkgceaaGreatDoorA03
import Derived.Test.YtipdclphpkgceaaGreatDoorA05
import Derived.Test.YtipdclphpkgceaaGreatDoorA02
import Derived.Laws.OwnMore
import Derived.Sort.Row
import Derived.Deep.RegionHeldLaw
set_option maxHeartbeats 1000000

namespace Go.Proofs.YtipdclphpkgceaaGreatDoor
open Go.RowKit
def SX (ps:List Pk) (j:Nat) (p:Pk) (k:Nat):Prop:=(Jr p=false ∧ k=1) ∨ (Jr p=true ∧ p.tick < ahead ps j ∧ k=4)
theorem Xz (ps:List Pk):Aj ps ∨ 300 < ps.length ∨ (ps.length ≤ 300 ∧ ∃ j p k,ps[j]? = some p ∧ Lb ps j ∧ SX ps j p k):=by
 by_cases hn:300 < ps.length
 · exact .inr (.inl hn)
 ·
  have h:∀ j,j ≤ ps.length → Lb ps j ∨ ∃ i p k,ps[i]? = some p ∧ Lb ps i ∧ SX ps i p k:=by
   intro j
   induction j with
   | zero=>intro _;exact .inl fun i q hi=>by omega
   | succ j ih=>
    intro hj
    rcases ih (by omega) with h | h
    ·
     obtain ⟨p,hp,-⟩:=Ai ps j (by omega)
     cases ho:Jr p with
     | false=>exact .inr ⟨j,p,1,hp,h,.inl ⟨ho,rfl⟩⟩
     | true=>
      by_cases ht:p.tick < ahead ps j
      · exact .inr ⟨j,p,4,hp,h,.inr ⟨ho,ht,rfl⟩⟩
      ·
       refine .inl fun i q hi hq=>?_
       by_cases hij:i < j
       · exact h i q hij hq
       ·
        obtain rfl:i=j:=by omega
        obtain rfl:p=q:=Option.some.inj (hp.symm.trans hq)
        exact ⟨ho,by omega⟩
    · exact .inr h
  rcases h ps.length (Nat.le_refl _) with h | h
  ·
   exact .inl ⟨by omega,fun i p hp=>h i p (by
    rcases Nat.lt_or_ge i ps.length with h | h
    · exact h
    · simp [List.getElem?_eq_none h] at hp) hp⟩
  · exact .inr (.inr ⟨by omega,h⟩)
theorem UW (a:Option Addr) (cap:Nat) (ps:List Pk) (w:World) (ad:Nat → Addr) (he:Ii w ad) (hl:AO w a ps) (h300:ps.length ≤ 300) (j:Nat) (p:Pk) (hj:ps[j]? = some p) (hg:Lb ps j) (k:Nat) (hbad:SX ps j p k) :
  Calls Tryz.prog 105 #[.slice a ps.length cap] w fun e w'=>Below w.heap.size w w' ∧ ∃ B,e=.returned (.iface 75 (.pointer (some ⟨B,0,none⟩))) ∧ w.heap.size ≤ B ∧ B < w'.heap.size ∧ w'.cell? ⟨B,0,none⟩=some (.int .i64 j) ∧ w'.cell? ⟨B,1,none⟩=some (.iface 312 (.pointer (some (ad k)))):=by
 have hjl:j < ps.length:=by
  rcases Nat.lt_or_ge j ps.length with h | h
  · exact h
  · simp [List.getElem?_eq_none h] at hj
 obtain ⟨b,off,rfl,hlt,hc⟩:=hl.place (by omega)
 have HC:Hid (∀ (i:Nat) p,ps[i]? = some p → w.cell? ⟨b,off+i * 3,none⟩=some (.int .i64 p.flow) ∧ w.cell? ⟨b,off+i * 3+1,none⟩=some (.int .i64 p.size) ∧ w.cell? ⟨b,off+i * 3+2,none⟩=some (.int .i64 p.tick)):=hc
 have HG:Hid (Lb ps j):=hg
 have HE:Hid (Ii w ad):=he
 have HJ:Hid (ps[j]? = some p):=hj
 have HBad:Hid (SX ps j p k):=hbad
 clear hl hg hc he hj hbad
 generalize hn:ps.length=n at *
 have Hn:=(show Hid (ps.length=n) from hn)
 clear hn
 go_enter Tryz.func105,Tryz.ntmps105
 go_wp2
 go_loopw [3,12] (fun l i wr=>∃ q:Nat,q ≤ j ∧ i=.int .i64 q ∧ l=.int .i64 (ahead ps q) ∧ Below w.heap.size w wr) (fun _ i _=>n - (intOf i).toNat)
 case atStart=>exact ⟨0,Nat.zero_le _,rfl,rfl,Below.refl _ _⟩
 case round=>
  obtain ⟨q,hq,rfl,rfl,hb⟩:=hrel
  have HB:Hid (Below w.heap.size w wr):=hb
  have hs:=hb.size
  have hqn:q < n:=by omega
  obtain ⟨r,hp,-⟩:=Ai ps q (by rw [Hn.out];exact hqn)
  obtain ⟨d1,d2,d3⟩:=HC.out q r hp
  have hc1:wr.cell? ⟨b,off+q * 3,none⟩=some (.int .i64 r.flow):=by rw [hb.cell (p:=⟨b,off+q * 3,none⟩) hlt];exact d1
  have hc2:wr.cell? ⟨b,off+q * 3+1,none⟩=some (.int .i64 r.size):=by rw [hb.cell (p:=⟨b,off+q * 3+1,none⟩) hlt];exact d2
  have hc3:wr.cell? ⟨b,off+q * 3+2,none⟩=some (.int .i64 r.tick):=by rw [hb.cell (p:=⟨b,off+q * 3+2,none⟩) hlt];exact d3
  by_cases hqj:q < j
  ·
   obtain ⟨o1,o2⟩:=HG.out q r hqj hp
   have HA:Hid (ahead ps (q+1)=r.tick):=NQ hp
   have HP:Hid (∀ w',Calls Tryz.prog 130 #[.agg #[.int .i64 r.flow,.int .i64 r.size,.int .i64 r.tick]] w' fun e w''=>e=.returned (.bool true) ∧ w''=w'.alloc (.cells #[.int .i64 r.flow,.int .i64 r.size,.int .i64 r.tick] 58)):=fun w'=>by
    have:=FL r w'
    rwa [o1] at this
   clear d1 d2 d3 hp o1 hb
   have o2':¬ r.tick < ahead ps q:=by omega
   generalize ahead ps q=L at *
   generalize r.flow=x at *
   generalize r.size=y at *
   generalize r.tick=z at *
   go_wp2_with (go_at_call 130;refine (HP.out _).mono ?_;rintro e w' ⟨rfl,rfl⟩)
   go_roundw
   case rel=>exact ⟨q+1,by omega,by go_num,by rw [HA.out],(HB.out.alloc hs _).alloc (by simp;omega) _⟩
   case measure=>simp [intOf];omega
  ·
   obtain rfl:q=j:=by omega
   obtain rfl:r=p:=Option.some.inj (hp.symm.trans HJ.out)
   have hB2:=cell_later (((Below.refl wr.heap.size wr).alloc (Nat.le_refl _) (.cells #[.int .i64 r.flow,.int .i64 r.size,.int .i64 r.tick] 58)).alloc (by simp) (.cells #[.int .i64 r.flow,.int .i64 r.size,.int .i64 r.tick] 58)) (cell_later HB.out HE.out.c1)
   have hB5:=cell_later (((Below.refl wr.heap.size wr).alloc (Nat.le_refl _) (.cells #[.int .i64 r.flow,.int .i64 r.size,.int .i64 r.tick] 58)).alloc (by simp) (.cells #[.int .i64 r.flow,.int .i64 r.size,.int .i64 r.tick] 58)) (cell_later HB.out HE.out.c4)
   rcases HBad.out with ⟨o1,rfl⟩ | ⟨o1,o2,rfl⟩
   ·
    have HP:Hid (∀ w',Calls Tryz.prog 130 #[.agg #[.int .i64 r.flow,.int .i64 r.size,.int .i64 r.tick]] w' fun e w''=>e=.returned (.bool false) ∧ w''=w'.alloc (.cells #[.int .i64 r.flow,.int .i64 r.size,.int .i64 r.tick] 58)):=fun w'=>by
     have:=FL r w'
     rwa [o1] at this
    clear d1 d2 d3 hp o1 hb hB5 hqj
    generalize ahead ps q=L at *
    generalize r.flow=x at *
    generalize r.size=y at *
    generalize r.tick=z at *
    go_wp2_with (go_at_call 130;refine (HP.out _).mono ?_;rintro e w' ⟨rfl,rfl⟩)
    go_ret
    refine ⟨((HB.out.alloc hs _).alloc (by simp;omega) _).alloc (by simp;omega) _,_,rfl,?_,?_,?_,?_⟩
    · omega
    · simp
    · rw [World.cell?_alloc_at _ _ _ _ (by simp)];rfl
    · rw [World.cell?_alloc_at _ _ _ _ (by simp)];rfl
   ·
    have HP:Hid (∀ w',Calls Tryz.prog 130 #[.agg #[.int .i64 r.flow,.int .i64 r.size,.int .i64 r.tick]] w' fun e w''=>e=.returned (.bool true) ∧ w''=w'.alloc (.cells #[.int .i64 r.flow,.int .i64 r.size,.int .i64 r.tick] 58)):=fun w'=>by
     have:=FL r w'
     rwa [o1] at this
    clear d1 d2 d3 hp o1 hb hB2 hqj
    generalize ahead ps q=L at *
    generalize r.flow=x at *
    generalize r.size=y at *
    generalize r.tick=z at *
    go_wp2_with (go_at_call 130;refine (HP.out _).mono ?_;rintro e w' ⟨rfl,rfl⟩)
    go_ret
    refine ⟨((HB.out.alloc hs _).alloc (by simp;omega) _).alloc (by simp;omega) _,_,rfl,?_,?_,?_,?_⟩
    · omega
    · simp
    · rw [World.cell?_alloc_at _ _ _ _ (by simp)];rfl
    · rw [World.cell?_alloc_at _ _ _ _ (by simp)];rfl
theorem AP.bo {w:World} {ad:Nat → Addr} (h:AP w ad):Ii w ad:=⟨h.c1,h.c4⟩
def DY (ps:List Pk) (c p:Int):Prop:=
 (300 < ps.length ∧ c=2 ∧ p = -1) ∨
 (ps.length ≤ 300 ∧ ∃ (j:Nat) (q:Pk) (k:Nat),ps[j]? = some q ∧ Lb ps j ∧ SX ps j q k ∧ c=k+1 ∧ p=j) ∨
 (Aj ps ∧ c=0 ∧ p = -1)
theorem Ls (ps:List Pk):∃ c p,DY ps c p:=by
 rcases Xz ps with h | h | ⟨h,j,q,k,h1,h2,h3⟩
 · exact ⟨0,-1,.inr (.inr ⟨h,rfl,rfl⟩)⟩
 · exact ⟨2,-1,.inl ⟨h,rfl,rfl⟩⟩
 · exact ⟨k+1,j,.inr (.inl ⟨h,j,q,k,h1,h2,h3,rfl,rfl⟩)⟩
theorem DY.num {ps:List Pk} {c p:Int} (h:DY ps c p):c=0 ∧ p = -1 ∧ Aj ps ∨ 0 < c:=by
 rcases h with ⟨_,h,_⟩ | ⟨_,j,q,k,_,_,_,h,_⟩ | ⟨h,h1,h2⟩
 · exact .inr (by omega)
 · exact .inr (by omega)
 · exact .inl ⟨h1,h2,h⟩
theorem K7 (a:Option Addr) (cap:Nat) (ps:List Pk) (w:World) (ad:Nat → Addr) (he:AP w ad) (hl:AO w a ps) (hcap:ps.length ≤ cap) (hm:cap ≤ maxLen) (c p:Int) (h:DY ps c p) :
  Calls Tryz.prog 105 #[.slice a ps.length cap] w fun e w'=>∃ E,e=.returned E ∧ AR w' E c p ∧ Below w.heap.size w w':=by
 rcases h with ⟨h,rfl,rfl⟩ | ⟨h,j,q,k,h1,h2,h3,rfl,rfl⟩ | ⟨h,rfl,rfl⟩
 ·
  refine (RF a ps.length cap w ad he.bo (Nat.le_trans hcap hm) h).mono ?_
  rintro e w' ⟨rfl,rfl⟩
  exact ⟨_,rfl,AY he 1 (by decide),Below.refl _ _⟩
 ·
  refine (UW a cap ps w ad he.bo hl h j q h1 h2 k h3).mono ?_
  rintro e w' ⟨hb,B,rfl,-,-,c0,c1⟩
  have hk9:k < 9:=by rcases h3 with ⟨-,rfl⟩ | ⟨-,-,rfl⟩ <;> omega
  exact ⟨_,rfl,⟨FN (he.below hb) k hk9 j B c0 c1,fun h=>by omega,fun _=>⟨_,_,rfl⟩⟩,hb⟩
 ·
  refine (He a cap ps w hl h).mono ?_
  rintro e w' ⟨rfl,hb⟩
  exact ⟨_,rfl,CG _,hb⟩
end Go.Proofs.YtipdclphpkgceaaGreatDoor

namespace Go.Proofs.YtipdclphpkgceaaGreatDoor
def kindOf (bs:List UInt8):Nat:=if bs=[102,105,102,111] then 1 else if bs=[114,97,110,107] then 2 else if bs=[100,117,101] then 3 else if bs=[114,111,117,110,100] then 4 else if bs=[102,97,105,114] then 5 else 0
theorem G6 (bs:List UInt8):kindOf bs ≤ 5:=by
 unfold kindOf
 repeat' split
 all_goals omega
def DF (k:Nat) (ns:List Int) (c:Nat):Prop:=
 (k=1 ∧ ((c=3 ∧ ns ≠ []) ∨ (c=0 ∧ ns=[]))) ∨ (k=2 ∧ Ct 0 100 ns c) ∨ (k=3 ∧ Ct 0 1099511627776 ns c) ∨ (k=4 ∧ Ct 1 3000 ns c) ∨ (k=5 ∧ Gg ns c)
theorem Qu {k:Nat} (h1:1 ≤ k) (h5:k ≤ 5) (ns:List Int):∃ c,DF k ns c:=by
 rcases (show k=1 ∨ k=2 ∨ k=3 ∨ k=4 ∨ k=5 by omega) with rfl | rfl | rfl | rfl | rfl
 ·
  by_cases h:ns=[]
  · exact ⟨0,.inl ⟨rfl,.inr ⟨rfl,h⟩⟩⟩
  · exact ⟨3,.inl ⟨rfl,.inl ⟨rfl,h⟩⟩⟩
 ·
  obtain ⟨c,h⟩:=Ih 0 100 ns
  exact ⟨c,.inr (.inl ⟨rfl,h⟩)⟩
 ·
  obtain ⟨c,h⟩:=Ih 0 1099511627776 ns
  exact ⟨c,.inr (.inr (.inl ⟨rfl,h⟩))⟩
 ·
  obtain ⟨c,h⟩:=Ih 1 3000 ns
  exact ⟨c,.inr (.inr (.inr (.inl ⟨rfl,h⟩)))⟩
 ·
  obtain ⟨c,h⟩:=Tu ns
  exact ⟨c,.inr (.inr (.inr (.inr ⟨rfl,h⟩)))⟩
theorem DF.few {k:Nat} {ns:List Int} {c:Nat} (h:DF k ns c):c=0 ∨ c=2 ∨ c=3:=by
 rcases h with ⟨-,⟨h,-⟩ | ⟨h,-⟩⟩ | ⟨-,⟨h,-⟩ | ⟨h,-⟩ | ⟨h,-⟩⟩ | ⟨-,⟨h,-⟩ | ⟨h,-⟩ | ⟨h,-⟩⟩ | ⟨-,⟨h,-⟩ | ⟨h,-⟩ | ⟨h,-⟩⟩ | ⟨-,⟨h,-⟩ | ⟨h,-⟩ | ⟨h,-⟩⟩ <;> omega
def Af (cs:List (List (Int × Int))) (f:Nat):List (Int × Int):=cs.getD f []
theorem Cf {cs:List (List (Int × Int))} {f:Nat} {ls:List (Int × Int)} (h:cs[f]? = some ls):Af cs f=ls:=by simp [Af,List.getD,h]
def Ci (cs:List (List (Int × Int))) (k:Nat):Prop:=∀ (i:Nat) ls,i < k → cs[i]? = some ls → ls=[] ∨ Ag ls
def Jd (cs:List (List (Int × Int))) (i:Nat) (c:Int):Prop:=∃ ls p,cs[i]? = some ls ∧ ls ≠ [] ∧ CW ls c p ∧ 0 < c
theorem KD (cs:List (List (Int × Int))):∀ k,k ≤ cs.length → Ci cs k ∨ ∃ i c,i < k ∧ Jd cs i c ∧ Ci cs i
 | 0,_=>.inl fun i ls h=>absurd h (Nat.not_lt_zero _)
 | k+1,hk=>by
  rcases KD cs k (by omega) with h | ⟨i,c,h1,h2,h3⟩
  ·
   have e:cs[k]? = some cs[k]:=List.getElem?_eq_getElem (by omega)
   by_cases h0:cs[k]=[]
   ·
    refine .inl fun i ls hi hl=>?_
    rcases Nat.lt_or_ge i k with h' | h'
    · exact h i ls h' hl
    ·
     obtain rfl:i=k:=by omega
     rw [e] at hl
     obtain rfl:=Option.some.inj hl
     exact .inl h0
   ·
    obtain ⟨c,p,hf⟩:=Nf cs[k]
    by_cases hc:c=0
    ·
     subst hc
     refine .inl fun i ls hi hl=>?_
     rcases Nat.lt_or_ge i k with h' | h'
     · exact h i ls h' hl
     ·
      obtain rfl:i=k:=by omega
      rw [e] at hl
      obtain rfl:=Option.some.inj hl
      exact .inr hf.ok.1
    ·
     have:=hf.num
     exact .inr ⟨k,c,by omega,⟨_,p,e,h0,hf,by omega⟩,h⟩
  · exact .inr ⟨i,c,by omega,h2,h3⟩
theorem Ci.ok {cs:List (List (Int × Int))} (h:Ci cs 8):Cv (Af cs):=fun f hf=>by
 cases e:cs[f]? with
 | none=>exact .inl (by simp [Af,List.getD,e])
 | some ls=>rw [Cf e];exact h f ls hf e
def DT (cs:List (List (Int × Int))) (k:Nat) (per:Int) (ns:List Int) (c p:Int):Prop:=
 (cs.length ≠ 8 ∧ c=3 ∧ p = -1) ∨ (cs.length=8 ∧ ∃ i:Nat,Jd cs i c ∧ p=i ∧ Ci cs i) ∨
  (cs.length=8 ∧ Ci cs 8 ∧ p = -1 ∧ ((k=0 ∧ c=9) ∨ (1 ≤ k ∧ k ≤ 5 ∧ ((¬ (1 ≤ per ∧ per ≤ 1000) ∧ c=2) ∨ (1 ≤ per ∧ per ≤ 1000 ∧ ∃ d:Nat,DF k ns d ∧ c=d)))))
structure FD (cs:List (List (Int × Int))) (k:Nat) (per:Int) (ns:List Int):Prop where
 len:cs.length=8
 curves:Ci cs 8
 kind:1 ≤ k ∧ k ≤ 5
 per:1 ≤ per ∧ per ≤ 1000
 nums:DF k ns 0
theorem KW (cs:List (List (Int × Int))) {k:Nat} (hk:k ≤ 5) (per:Int) (ns:List Int):∃ c p,DT cs k per ns c p:=by
 by_cases hl:cs.length=8
 ·
  rcases KD cs 8 (by omega) with h | ⟨i,c,h1,h2,h3⟩
  ·
   by_cases h0:k=0
   · exact ⟨9,-1,.inr (.inr ⟨hl,h,rfl,.inl ⟨h0,rfl⟩⟩)⟩
   ·
    by_cases hp:1 ≤ per ∧ per ≤ 1000
    ·
     obtain ⟨d,hd⟩:=Qu (k:=k) (by omega) hk ns
     exact ⟨d,-1,.inr (.inr ⟨hl,h,rfl,.inr ⟨by omega,hk,.inr ⟨hp.1,hp.2,d,hd,rfl⟩⟩⟩)⟩
    · exact ⟨2,-1,.inr (.inr ⟨hl,h,rfl,.inr ⟨by omega,hk,.inl ⟨hp,rfl⟩⟩⟩)⟩
  · exact ⟨c,i,.inr (.inl ⟨hl,i,h2,rfl,h3⟩)⟩
 · exact ⟨3,-1,.inl ⟨hl,rfl,rfl⟩⟩
theorem DT.num {cs:List (List (Int × Int))} {k:Nat} {per:Int} {ns:List Int} {c p:Int} (h:DT cs k per ns c p):(c=0 ∧ p = -1 ∧ FD cs k per ns) ∨ (0 < c ∧ c ≤ 9):=by
 rcases h with ⟨-,h,-⟩ | ⟨-,i,⟨ls,q,-,-,hf,h⟩,-⟩ | ⟨h1,h2,hp,⟨-,h⟩ | ⟨k1,k5,⟨-,h⟩ | ⟨p1,p2,d,hd,h⟩⟩⟩
 · exact .inr (by omega)
 ·
  have:=hf.num
  exact .inr (by omega)
 · exact .inr (by omega)
 · exact .inr (by omega)
 ·
  rcases hd.few with rfl | rfl | rfl
  · exact .inl ⟨by omega,hp,h1,h2,⟨k1,k5⟩,⟨p1,p2⟩,hd⟩
  · exact .inr (by omega)
  · exact .inr (by omega)
def CZ (k:Nat) (per:Int) (ps:List Pk) (ns:List Int) (l:List Sn):Prop:=
 (k=1 ∧ l=BH per ps ps.length) ∨ (k=2 ∧ DZ per ps (Cu ps ns) l ∧ l.length=ps.length) ∨ (k=3 ∧ DZ per ps (Dj ps ns) l ∧ l.length=ps.length) ∨ (k=4 ∧ Dz per ps ns l) ∨ (k=5 ∧ ∃ ts,ED per ps ns l ts)
theorem CZ.same {k:Nat} {per:Int} {ps:List Pk} {ns:List Int} {l m:List Sn} (h:CZ k per ps ns l) (h':CZ k per ps ns m):l=m:=by
 rcases h with ⟨rfl,h⟩ | ⟨rfl,h1,h2⟩ | ⟨rfl,h1,h2⟩ | ⟨rfl,h⟩ | ⟨rfl,ts,h⟩
 ·
  rcases h' with ⟨-,h'⟩ | ⟨e,-⟩ | ⟨e,-⟩ | ⟨e,-⟩ | ⟨e,-⟩
  · rw [h,h']
  all_goals omega
 ·
  rcases h' with ⟨e,-⟩ | ⟨-,g1,g2⟩ | ⟨e,-⟩ | ⟨e,-⟩ | ⟨e,-⟩
  case inr.inl=>exact h1.same g1 (by omega)
  all_goals omega
 ·
  rcases h' with ⟨e,-⟩ | ⟨e,-⟩ | ⟨-,g1,g2⟩ | ⟨e,-⟩ | ⟨e,-⟩
  case inr.inr.inl=>exact h1.same g1 (by omega)
  all_goals omega
 ·
  rcases h' with ⟨e,-⟩ | ⟨e,-⟩ | ⟨e,-⟩ | ⟨-,g⟩ | ⟨e,-⟩
  case inr.inr.inr.inl=>exact h.same g
  all_goals omega
 ·
  rcases h' with ⟨e,-⟩ | ⟨e,-⟩ | ⟨e,-⟩ | ⟨e,-⟩ | ⟨-,us,g⟩
  case inr.inr.inr.inr=>exact (h.same g).1
  all_goals omega
theorem Wz {ns:List Int} (h:GD ns):IG ns:=fun f=>by
 cases hx:ns[f]? with
 | none=>simp [BN,List.getD,hx]
 | some x=>
  rw [IY hx]
  have:=h.each f x hx
  exact ⟨this.1,Int.ediv_mul_cancel (Int.dvd_of_emod_eq_zero this.2)⟩
theorem Ct.ok {lo hi:Int} {ns:List Int} (h:Ct lo hi ns 0):E5 lo hi ns:=by
 rcases h with ⟨h,-⟩ | ⟨h,-⟩ | ⟨-,h⟩
 · omega
 · omega
 · exact h
theorem Gg.ok {ns:List Int} (h:Gg ns 0):GD ns:=by
 rcases h with ⟨h,-⟩ | ⟨h,-⟩ | ⟨-,h⟩
 · omega
 · omega
 · exact h
theorem CZ.may {k:Nat} {per:Int} {ps:List Pk} {ns:List Int} {l:List Sn} (h:CZ k per ps ns l) (hn:DF k ns 0) (ho:Aj ps) (hper:1 ≤ per):Conv per ps l ∧ LK ps l ∧ l.length=ps.length:=by
 rcases h with ⟨rfl,rfl⟩ | ⟨rfl,h1,h2⟩ | ⟨rfl,h1,h2⟩ | ⟨rfl,h⟩ | ⟨rfl,ts,h⟩
 · exact ⟨(Rn ho).1,(Rn ho).2,by simp [BH]⟩
 · exact ⟨h1.conv,Us ho h1,h2⟩
 · exact ⟨h1.conv,V6 ho h1,h2⟩
 ·
  rcases hn with ⟨e,-⟩ | ⟨e,-⟩ | ⟨e,-⟩ | ⟨-,hn⟩ | ⟨e,-⟩
  case inr.inr.inr.inl=>exact h.may ho (fun f=>(H9 (fun i x hx=>hn.ok.each i x hx) (by decide) f).1) hper
  all_goals omega
 ·
  rcases hn with ⟨e,-⟩ | ⟨e,-⟩ | ⟨e,-⟩ | ⟨e,-⟩ | ⟨-,hn⟩
  case inr.inr.inr.inr=>exact h.may (Wz hn.ok) ho hper
  all_goals omega
def Be (cs:Nat → List (Int × Int)) (ps:List Pk) (i:Nat):Prop:=∃ p s,ps[i]? = some p ∧ cs (Ae ps i) ≠ [] ∧ shape (cs (Ae ps i)) ((Cj ps (Ae ps i) ps.length).take (GG ps i))=some s ∧ Cz s p=none
theorem Tk (ls:List (Int × Int)):∀ own:List Pk,shape ls own=none → ∃ (j:Nat) (p:Pk) (s:Sh),own[j]? = some p ∧ shape ls (own.take j)=some s ∧ Cz s p=none:=by
 refine R4 (fun h=>by cases h) (fun own p ih h=>?_)
 rw [JJ] at h
 cases hs:shape ls own with
 | none=>
  obtain ⟨j,q,s,h1,h2,h3⟩:=ih hs
  have hj:j < own.length:=Ad h1
  exact ⟨j,q,s,by rw [List.getElem?_append_left hj];exact h1,by rw [List.take_append_of_le_length (by omega)];exact h2,h3⟩
 | some s=>
  rw [hs] at h
  exact ⟨own.length,p,s,by simp,by simpa using hs,h⟩
section
variable {cs:Nat → List (Int × Int)} {ps:List Pk}
theorem Uk (ho:Aj ps) (hn:∀ i,¬ Be cs ps i) (f:Nat):∃ out,CY cs ps f=some out:=by
 unfold CY
 by_cases he:cs f=[]
 · exact ⟨_,if_pos he⟩
 ·
  rw [if_neg he]
  cases hs:shape (cs f) (Cj ps f ps.length) with
  | some s=>exact ⟨_,rfl⟩
  | none=>
   obtain ⟨j,p,s,h1,h2,h3⟩:=Tk _ _ hs
   have hown:=DJ ho f ps.length (Nat.le_refl _)
   have hj:j < (A7 ps f ps.length).length:=by rw [← hown.1];exact Ad h1
   have e:(A7 ps f ps.length)[j]? = some (A7 ps f ps.length)[j]:=List.getElem?_eq_getElem hj
   obtain ⟨g1,g2,g3,g4⟩:=hown.2 j _ e
   refine absurd ⟨p,s,by rw [← g4];exact h1,by rw [g2];exact he,by rw [g2,g3];exact h2,h3⟩ (hn (A7 ps f ps.length)[j])
def CV (cs:Nat → List (Int × Int)) (k:Nat) (per:Int) (ns:List Int) (ps qs:List Pk) (l:List Sn):Prop:=∃ at_ L,Shaped cs ps at_ ∧ Bg at_ ps.length L ∧ qs=BQ ps at_ L ∧ CZ k per qs ns l
theorem Wu (ho:Aj ps) (hn:∀ i,¬ Be cs ps i):∃ at_,Shaped cs ps at_:=by
 obtain ⟨out,hout⟩:=Classical.axiomOfChoice fun f=>Uk (cs:=cs) ho hn f
 refine ⟨fun i=>Ay (out (Ae ps i)) (GG ps i),fun f hf=>⟨out f,hout f,fun r i hi=>?_⟩⟩
 obtain ⟨-,g2,g3,-⟩:=(DJ ho f ps.length (Nat.le_refl _)).2 r i hi
 show Ay (out (Ae ps i)) (GG ps i)=_
 rw [g2,g3]
theorem Shaped.same (ho:Aj ps) {at1 at2:Nat → Int} (h1:Shaped cs ps at1) (h2:Shaped cs ps at2) {i:Nat} (hi:i < ps.length):at1 i=at2 i:=by
 have hf:=Iq ho hi
 obtain ⟨out,e1,g1⟩:=h1 _ hf
 obtain ⟨out',e2,g2⟩:=h2 _ hf
 obtain rfl:out=out':=Option.some.inj (e1.symm.trans e2)
 have hat:=Nr ho hi (Nat.le_refl _)
 rw [g1 _ _ hat,g2 _ _ hat]
theorem Bg.turn {at1 at2:Nat → Int} {n:Nat} {L:List Nat} (h:Bg at1 n L) (he:∀ i,i < n → at1 i=at2 i):Bg at2 n L:=by
 refine ⟨?_,h.mem⟩
 refine List.Pairwise.imp_of_mem (fun {a b} ha hb hab=>?_) h.sorted
 have e1:=he a ((h.mem a).1 ha)
 have e2:=he b ((h.mem b).1 hb)
 unfold Ahead at hab ⊢
 omega
theorem SI (ho:Aj ps) {at1 at2:Nat → Int} {L M:List Nat} (h1:Shaped cs ps at1) (h2:Shaped cs ps at2) (k1:Bg at1 ps.length L) (k2:Bg at2 ps.length M):BQ ps at1 L=BQ ps at2 M:=by
 obtain rfl:L=M:=(k1.turn fun i hi=>h1.same ho h2 hi).same k2
 refine List.map_congr_left fun i hi=>?_
 have hi':=(k1.mem i).1 hi
 have e:ps[i]? = some ps[i]:=List.getElem?_eq_getElem hi'
 rw [Ee e,Ee e,h1.same ho h2 hi']
theorem CV.same {k:Nat} {per:Int} {ns:List Int} {qs qs':List Pk} {l l':List Sn} (ho:Aj ps) (h:CV cs k per ns ps qs l) (h':CV cs k per ns ps qs' l'):qs=qs' ∧ l=l':=by
 obtain ⟨at1,L,a1,a2,rfl,a3⟩:=h
 obtain ⟨at2,M,b1,b2,rfl,b3⟩:=h'
 have e:=SI ho a1 b1 a2 b2
 rw [← e] at b3
 exact ⟨e,a3.same b3⟩
theorem CV.ok {k:Nat} {per:Int} {ns:List Int} {qs:List Pk} {l:List Sn} (ho:Aj ps) (hc:Cv cs) (h:CV cs k per ns ps qs l):Aj qs ∧ qs.length=ps.length ∧ CZ k per qs ns l:=by
 obtain ⟨at1,L,a1,a2,rfl,a3⟩:=h
 exact ⟨a1.ok ho hc a2,by rw [BQ,List.length_map];exact a2.length,a3⟩
end
theorem RD {P:Nat → Prop} (h:∃ i,P i):∃ i,P i ∧ ∀ j,j < i → ¬ P j:=by
 obtain ⟨n,hn⟩:=h
 induction n using Nat.strongRecOn with
 | _ n ih=>
  by_cases hl:∃ m,m < n ∧ P m
  ·
   obtain ⟨m,h1,h2⟩:=hl
   exact ih m h1 h2
  · exact ⟨n,hn,fun j hj h'=>hl ⟨j,hj,h'⟩⟩
def JG (cs:List (List (Int × Int))) (k:Nat) (per:Int) (ns:List Int) (ps:List Pk) (c p:Int):Prop:=
 (DT cs k per ns c p ∧ 0 < c) ∨ (FD cs k per ns ∧ DY ps c p ∧ 0 < c) ∨ (FD cs k per ns ∧ Aj ps ∧ ∃ i:Nat,Be (Af cs) ps i ∧ (∀ j,j < i → ¬ Be (Af cs) ps j) ∧ c=4 ∧ p=i) ∨ (FD cs k per ns ∧ Aj ps ∧ (∀ i,¬ Be (Af cs) ps i) ∧ c=0 ∧ p = -1)
theorem Yg (cs:List (List (Int × Int))) {k:Nat} (hk:k ≤ 5) (per:Int) (ns:List Int) (ps:List Pk):∃ c p,JG cs k per ns ps c p:=by
 obtain ⟨c,p,hg⟩:=KW cs hk per ns
 rcases hg.num with ⟨rfl,rfl,hok⟩ | hc
 ·
  obtain ⟨c,p,hp⟩:=Ls ps
  rcases hp.num with ⟨rfl,rfl,ho⟩ | hc
  ·
   by_cases hn:∃ i,Be (Af cs) ps i
   ·
    obtain ⟨i,h1,h2⟩:=RD hn
    exact ⟨4,i,.inr (.inr (.inl ⟨hok,ho,i,h1,h2,rfl,rfl⟩))⟩
   · exact ⟨0,-1,.inr (.inr (.inr ⟨hok,ho,fun i h=>hn ⟨i,h⟩,rfl,rfl⟩))⟩
  · exact ⟨c,p,.inr (.inl ⟨hok,hp,hc⟩)⟩
 · exact ⟨c,p,.inl ⟨hg,hc.1⟩⟩
end Go.Proofs.YtipdclphpkgceaaGreatDoor

namespace Go.Proofs.YtipdclphpkgceaaGreatDoor
open Go.RowKit Go.Sort
def ints (xs:List Int):List Value:=xs.map (Value.int .i64)
theorem Lm (xs:List Int):(ints xs).length=xs.length:=by simp [ints]
theorem G9 {xs:List Int} {j:Nat} {x:Int} (h:xs[j]? = some x):(ints xs)[j]? = some (.int .i64 x):=by simp [ints,h]
theorem GZ (xs:List Int):∀ u ∈ ints xs,u.oneCell'=true:=by
 intro u hu
 obtain ⟨x,-,rfl⟩:=List.mem_map.1 hu
 rfl
theorem PU {w:World} {B:Nat} {e:TypeId} {g cap:Nat} {zs:List Int} (h:w.ownsRow B e 1 (.slice (some ⟨g,0,none⟩) zs.length cap) zs.length (ints zs)):Holds (Value.int .i64) w g 0 zs.toArray:=by
 intro j hj
 have hj':j < zs.length:=by simpa using hj
 refine ⟨?_,h.frozenAt _⟩
 rw [Nat.zero_add,h.cellAt j (by omega),G9 (List.getElem?_eq_getElem hj')]
 congr 2
 rw [getElem!_pos _ j hj]
 simp
theorem Sy {w:World} {B:Nat} {e:TypeId} {g cap:Nat} {zs:List Int} (h:w.ownsRow B e 1 (.slice (some ⟨g,0,none⟩) zs.length cap) zs.length (ints zs)) (i q:Nat) (hi:i < zs.length) :
  (putRow (Value.int .i64) (Sort.ahead w q) g 0 (zs.take i ++ zs.drop (i+1) ++ List.replicate (i+1 - i) 0).toArray).ownsRow B e 1 (.slice (some ⟨g,0,none⟩) (zs.length - 1) cap) (zs.length - 1) (ints (zs.eraseIdx i)) ∧
   But (fun k=>k=g) w (putRow (Value.int .i64) (Sort.ahead w q) g 0 (zs.take i ++ zs.drop (i+1) ++ List.replicate (i+1 - i) 0).toArray):=by
 have hel:(zs.eraseIdx i).length=zs.length - 1:=by rw [List.length_eraseIdx,if_pos hi]
 rcases h.2 with ⟨h',_⟩ | ⟨g',cap',cur,h',hB,hg,hn,hm,hcs,ht⟩
 · simp at h'
 ·
  simp only [Value.slice.injEq,Option.some.injEq,Addr.mk.injEq,and_true,true_and] at h'
  obtain ⟨rfl,rfl⟩:=h'
  refine ⟨⟨by rw [Lm,hel,Nat.mul_one],.inr ⟨g,cap,putCells (Value.int .i64) 0 (zs.take i ++ zs.drop (i+1) ++ List.replicate (i+1 - i) 0).toArray cur,rfl,hB,?_,by omega,hm,by simp [putCells,hcs],?_⟩⟩,⟨rfl,rfl,rfl,by simp,fun k hk hs=>?_⟩⟩
  ·
   simp only [putRow,mapBlock,Array.getElem?_modify,heap_ahead,hg]
   rfl
  ·
   apply List.ext_getElem?
   intro k
   rw [List.getElem?_take,Nat.mul_one]
   by_cases hk:k < zs.length - 1
   ·
    rw [if_pos hk]
    have hz:(zs.eraseIdx i)[k]? = some ((zs.eraseIdx i)[k]'(by omega)):=List.getElem?_eq_getElem (by omega)
    rw [G9 hz]
    have hcur:cur[k]? = some cur[k]:=Array.getElem?_eq_getElem (by omega)
    have hsz:(zs.take i ++ zs.drop (i+1) ++ List.replicate (i+1 - i) (0:Int)).length=zs.length:=by
     simp only [List.length_append,List.length_take,List.length_drop,List.length_replicate]
     omega
    simp only [putCells,Array.getElem?_toList,Array.getElem?_mapIdx,hcur,Option.map_some]
    rw [if_pos ⟨Nat.zero_le _,by rw [List.size_toArray,hsz];omega⟩]
    congr 2
    rw [Nat.sub_zero,getElem!_pos _ k (by rw [List.size_toArray,hsz];omega)]
    have e1:zs.take i ++ zs.drop (i+1)=zs.eraseIdx i:=(List.eraseIdx_eq_take_drop_succ ..).symm
    simp only [e1,List.getElem_toArray]
    rw [List.getElem_append_left (by omega)]
   · rw [if_neg hk,List.getElem?_eq_none (by rw [Lm];omega)]
  ·
   simp only [putRow,mapBlock,Array.getElem?_modify,heap_ahead]
   rw [if_neg (fun h=>hs h.symm)]
end Go.Proofs.YtipdclphpkgceaaGreatDoor

namespace Go.Proofs.YtipdclphpkgceaaGreatDoor
open Go.RowKit
def IB (w:World) (a:Option Addr) (cs:List (List (Int × Int))):Prop:=
 cs=[] ∨ ∃ b off,a=some ⟨b,off,none⟩ ∧ b < w.heap.size ∧ ∀ (i:Nat) ls,cs[i]? = some ls → ∃ a' cap,w.cell? ⟨b,off+i,none⟩=some (.slice a' ls.length cap) ∧ AL w a' ls ∧ ls.length ≤ cap ∧ cap ≤ maxLen ∧ (a'=none → ls=[] ∧ cap=0)
theorem IB.place {w:World} {a:Option Addr} {cs:List (List (Int × Int))} (h:IB w a cs) (h1:1 ≤ cs.length) :
  ∃ b off,a=some ⟨b,off,none⟩ ∧ b < w.heap.size ∧ ∀ (i:Nat) ls,cs[i]? = some ls → ∃ a' cap,w.cell? ⟨b,off+i,none⟩=some (.slice a' ls.length cap) ∧ AL w a' ls ∧ ls.length ≤ cap ∧ cap ≤ maxLen ∧ (a'=none → ls=[] ∧ cap=0):=by
 rcases h with rfl | h
 · simp at h1
 · exact h
theorem IB.below {w w':World} {a:Option Addr} {cs:List (List (Int × Int))} (h:IB w a cs) (hb:Below w.heap.size w w'):IB w' a cs:=by
 rcases h with rfl | ⟨b,off,rfl,hlt,hc⟩
 · exact .inl rfl
 ·
  refine .inr ⟨b,off,rfl,Nat.lt_of_lt_of_le hlt hb.size,fun i ls hi=>?_⟩
  obtain ⟨a',cap,h1,h2,h3⟩:=hc i ls hi
  exact ⟨a',cap,cell_later hb h1,h2.below hb,h3⟩
structure El (w:World) (B:Nat) (ca:Value) (kb:ByteArray) (per:Int) (na:Value):Prop where
 c0:w.cell? ⟨B,0,none⟩=some ca
 c1:w.cell? ⟨B,1,none⟩=some (.string kb)
 c2:w.cell? ⟨B,2,none⟩=some (.int .i64 per)
 c3:w.cell? ⟨B,3,none⟩=some na
theorem F5 (w:World) (ca:Value) (kb:ByteArray) (per:Int) (na:Value) (t:TypeId):El (w.alloc (.cells #[ca,.string kb,.int .i64 per,na] t)) w.heap.size ca kb per na:=⟨by simp,by simp,by simp,by simp⟩
theorem El.later {w w':World} {B:Nat} {ca:Value} {kb:ByteArray} {per:Int} {na:Value} (h:El w B ca kb per na) (hb:Below w.heap.size w w'):El w' B ca kb per na:=⟨cell_later hb h.c0,cell_later hb h.c1,cell_later hb h.c2,cell_later hb h.c3⟩
theorem Hy:ByteArray.toList ⟨#[102,105,102,111]⟩=[102,105,102,111]:=by kernel_rfl
theorem TK:ByteArray.toList ⟨#[114,97,110,107]⟩=[114,97,110,107]:=by kernel_rfl
theorem Wi:ByteArray.toList ⟨#[100,117,101]⟩=[100,117,101]:=by kernel_rfl
theorem RP:ByteArray.toList ⟨#[114,111,117,110,100]⟩=[114,111,117,110,100]:=by kernel_rfl
theorem Vo:ByteArray.toList ⟨#[102,97,105,114]⟩=[102,97,105,114]:=by kernel_rfl
structure Xy (s:ByteArray) (b1 b2 b3 b4 b5:Bool):Prop where
 t1:(s.toList == [102,105,102,111])=b1
 t2:(s.toList == [114,97,110,107])=b2
 t3:(s.toList == [100,117,101])=b3
 t4:(s.toList == [114,111,117,110,100])=b4
 t5:(s.toList == [102,97,105,114])=b5
 u1:(s.toList == ByteArray.toList ⟨#[102,105,102,111]⟩)=b1
 u2:(s.toList == ByteArray.toList ⟨#[114,97,110,107]⟩)=b2
 u3:(s.toList == ByteArray.toList ⟨#[100,117,101]⟩)=b3
 u4:(s.toList == ByteArray.toList ⟨#[114,111,117,110,100]⟩)=b4
 u5:(s.toList == ByteArray.toList ⟨#[102,97,105,114]⟩)=b5
theorem PI (s:ByteArray):Xy s (decide (kindOf s.toList=1)) (decide (kindOf s.toList=2)) (decide (kindOf s.toList=3)) (decide (kindOf s.toList=4)) (decide (kindOf s.toList=5)):=by
 have key:∀ bs:List UInt8,(bs == [102,105,102,111])=decide (kindOf bs=1) ∧ (bs == [114,97,110,107])=decide (kindOf bs=2) ∧ (bs == [100,117,101])=decide (kindOf bs=3) ∧ (bs == [114,111,117,110,100])=decide (kindOf bs=4) ∧ (bs == [102,97,105,114])=decide (kindOf bs=5):=by
  intro bs
  by_cases h1:bs=[102,105,102,111]
  · subst h1;decide
  ·
   by_cases h2:bs=[114,97,110,107]
   · subst h2;decide
   ·
    by_cases h3:bs=[100,117,101]
    · subst h3;decide
    ·
     by_cases h4:bs=[114,111,117,110,100]
     · subst h4;decide
     ·
      by_cases h5:bs=[102,97,105,114]
      · subst h5;decide
      ·
       have h0:kindOf bs=0:=by simp [kindOf,h1,h2,h3,h4,h5]
       rw [h0]
       refine ⟨?_,?_,?_,?_,?_⟩
       · simpa using h1
       · simpa using h2
       · simpa using h3
       · simpa using h4
       · simpa using h5
 obtain ⟨k1,k2,k3,k4,k5⟩:=key s.toList
 exact ⟨k1,k2,k3,k4,k5,by rw [Hy];exact k1,by rw [TK];exact k2,by rw [Wi];exact k3,by rw [RP];exact k4,by rw [Vo];exact k5⟩
structure Ez (w:World) (g:Nat) (b:Bk):Prop where
 c0:w.cell? ⟨g,0,none⟩=some (.int .i64 b.most)
 c1:w.cell? ⟨g,1,none⟩=some (.int .i64 b.rate)
 c2:w.cell? ⟨g,2,none⟩=some (.int .i64 b.has)
 c3:w.cell? ⟨g,3,none⟩=some (.int .i64 b.last)
 f2:w.frozen? ⟨g,2,none⟩=false
 f3:w.frozen? ⟨g,3,none⟩=false
theorem Ez.lt {w:World} {g:Nat} {b:Bk} (h:Ez w g b):g < w.heap.size:=Ck h.c0
theorem Ez.but {S:Nat → Prop} {w w':World} {g:Nat} {b:Bk} (h:Ez w g b) (hb:But S w w') (hs:¬ S g):Ez w' g b:=
 have l:=h.lt
 ⟨by rw [hb.cell (p:=⟨g,0,none⟩) l hs];exact h.c0,by rw [hb.cell (p:=⟨g,1,none⟩) l hs];exact h.c1,by rw [hb.cell (p:=⟨g,2,none⟩) l hs];exact h.c2,by rw [hb.cell (p:=⟨g,3,none⟩) l hs];exact h.c3,
  by rw [hb.frozen (p:=⟨g,2,none⟩) l hs];exact h.f2,by rw [hb.frozen (p:=⟨g,3,none⟩) l hs];exact h.f3⟩
theorem Ez.below {w w':World} {g:Nat} {b:Bk} (h:Ez w g b) (hb:Below w.heap.size w w'):Ez w' g b:=h.but (S:=fun _=>False) (.ofBelow hb) id
theorem YJ (m r h d:Int) (w:World) (h0:0 ≤ h) (h1:h ≤ 20000000) (r0:0 ≤ r * d) (r1:r * d ≤ 109951162777600000) :
  Calls Tryz.prog 242 #[.agg #[.int .i64 m,.int .i64 r],.int .i64 h,.int .i64 d] w fun e w'=>e=.returned (.int .i64 (min m (h+r * d))) ∧ w'=w.alloc (.cells #[.int .i64 m,.int .i64 r] 290):=by
 go_enter Tryz.func242,Tryz.ntmps242
 go_wp2
 all_goals
  go_ret
  exact ⟨congrArg (fun z=>Ending.returned (.int .i64 z)) (by omega),rfl⟩
theorem Vk (g:Nat) (m r h l t v:Int) (w:World) (c0:w.cell? ⟨g,0,none⟩=some (.int .i64 m)) (c1:w.cell? ⟨g,1,none⟩=some (.int .i64 r)) (c2:w.cell? ⟨g,2,none⟩=some (.int .i64 h)) (c3:w.cell? ⟨g,3,none⟩=some (.int .i64 l)) (l0:0 ≤ l) (ht:l ≤ t) (t1:t ≤ 1099511627776)
  (H:Hid (∀ w':World,Calls Tryz.prog 242 #[.agg #[.int .i64 m,.int .i64 r],.int .i64 h,.int .i64 (t - l)] w' fun e w''=>e=.returned (.int .i64 v) ∧ w''=w'.alloc (.cells #[.int .i64 m,.int .i64 r] 290))) :
  Calls Tryz.prog 230 #[.pointer (some ⟨g,0,none⟩),.int .i64 t] w fun e w'=>e=.returned (.int .i64 v) ∧ Below w.heap.size w w':=by
 have hw:IntKind.i64.wrap (t - l)=t - l:=IntWalk.i64_in _ (by omega)
 go_enter Tryz.func230,Tryz.ntmps230
 go_wp2_with fail
 go_region_with (first
  | (go_simp;go_at_call 242;go_must (refine (H.out _).mono ?_;rintro e w1 ⟨rfl,rfl⟩))
  | fail)
 all_goals
  go_wp2_with fail
  go_ret
  exact ⟨rfl,(Below.refl _ _).drew.alloc (Nat.le_refl _) _⟩
theorem RB (g:Nat) (b:Bk) (t:Int) (w:World) (hb:Ez w g b) (hk:b.Ok) (ht:b.last ≤ t) (t1:t ≤ 1099511627776) :
  Calls Tryz.prog 230 #[.pointer (some ⟨g,0,none⟩),.int .i64 t] w fun e w'=>e=.returned (.int .i64 (b.lev t)) ∧ Below w.heap.size w w':=by
 obtain ⟨r0,r1⟩:=hk.grow ht t1
 exact Vk g b.most b.rate b.has b.last t (b.lev t) w hb.c0 hb.c1 hb.c2 hb.c3 hk.l0 ht t1 (fun w'=>YJ b.most b.rate b.has (t - b.last) w' hk.h0 (by have:=hk.h1;have:=hk.m1;omega) r0 r1)
structure Gt (w:World) (ad:Nat → Addr):Prop where
 c1:w.cell? ⟨0,0,none⟩=some (.iface 312 (.pointer (some (ad 1))))
 c2:w.cell? ⟨2,0,none⟩=some (.iface 312 (.pointer (some (ad 2))))
 c3:w.cell? ⟨3,0,none⟩=some (.iface 312 (.pointer (some (ad 3))))
 c4:w.cell? ⟨4,0,none⟩=some (.iface 312 (.pointer (some (ad 4))))
theorem Gt.below {w w':World} {ad:Nat → Addr} (h:Gt w ad) (hb:Below w.heap.size w w'):Gt w' ad:=
 ⟨cell_later hb h.c1,cell_later hb h.c2,cell_later hb h.c3,cell_later hb h.c4⟩
theorem OT (g:Nat) (l t:Int) (w:World) (ad:Nat → Addr) (he:Gt w ad) (c3:w.cell? ⟨g,3,none⟩=some (.int .i64 l)) :
  Calls Tryz.prog 241 #[.pointer (some ⟨g,0,none⟩),.int .i64 t] w fun e w'=>e=.returned (Ec ad (DD l t)) ∧ w'=w:=by
 have e1:=he.c1
 have e4:=he.c4
 clear he
 by_cases h0:0 ≤ t ∧ t ≤ 1099511627776
 ·
  have hd:decide (0 ≤ t ∧ t ≤ 1099511627776)=true:=by simpa using h0
  have HT:Hid (Calls Tryz.prog 155 #[.int .i64 t] w fun e w'=>e=.returned (.bool true) ∧ w'=w):=by
   have:=JO t w
   rw [hd] at this
   exact this
  clear hd
  by_cases h1:t < l
  ·
   have hs:DD l t=5:=by unfold DD;rw [if_pos h0,if_pos h1]
   rw [hs]
   show Calls _ _ _ _ fun e w'=>e=.returned (.iface 312 (.pointer (some (ad 4)))) ∧ w'=w
   clear h0 hs
   go_enter Tryz.func241,Tryz.ntmps241
   go_wp2_with (go_at_call 155;refine HT.out.mono ?_;rintro e w1 ⟨rfl,rfl⟩)
   go_ret
   exact ⟨rfl,rfl⟩
  ·
   have hs:DD l t=0:=by unfold DD;rw [if_pos h0,if_neg h1]
   rw [hs]
   show Calls _ _ _ _ fun e w'=>e=.returned .nilIface ∧ w'=w
   clear h0 hs
   go_enter Tryz.func241,Tryz.ntmps241
   go_wp2_with (go_at_call 155;refine HT.out.mono ?_;rintro e w1 ⟨rfl,rfl⟩)
   go_ret
   exact ⟨rfl,rfl⟩
 ·
  have hd:decide (0 ≤ t ∧ t ≤ 1099511627776)=false:=by simpa using h0
  have HT:Hid (Calls Tryz.prog 155 #[.int .i64 t] w fun e w'=>e=.returned (.bool false) ∧ w'=w):=by
   have:=JO t w
   rw [hd] at this
   exact this
  have hs:DD l t=2:=by unfold DD;rw [if_neg h0]
  rw [hs]
  show Calls _ _ _ _ fun e w'=>e=.returned (.iface 312 (.pointer (some (ad 1)))) ∧ w'=w
  clear h0 hs hd
  go_enter Tryz.func241,Tryz.ntmps241
  go_wp2_with (go_at_call 155;refine HT.out.mono ?_;rintro e w1 ⟨rfl,rfl⟩)
  go_ret
  exact ⟨rfl,rfl⟩
theorem Fe (g:Nat) (l t n:Int) (w:World) (ad:Nat → Addr) (he:Gt w ad) (c3:w.cell? ⟨g,3,none⟩=some (.int .i64 l)) :
  Calls Tryz.prog 228 #[.pointer (some ⟨g,0,none⟩),.int .i64 t,.int .i64 n] w fun e w'=>e=.returned (Ec ad (Dq l t n)) ∧ w'=w:=by
 have e1:=he.c1
 have HC:Hid (Calls Tryz.prog 241 #[.pointer (some ⟨g,0,none⟩),.int .i64 t] w fun e w'=>e=.returned (Ec ad (DD l t)) ∧ w'=w):=OT g l t w ad he c3
 clear he c3
 by_cases h0:1 ≤ n ∧ n ≤ 1500
 ·
  have hd:decide (1 ≤ n ∧ n ≤ 1500)=true:=by simpa using h0
  have HT:Hid (Calls Tryz.prog 154 #[.int .i64 n] w fun e w'=>e=.returned (.bool true) ∧ w'=w):=by
   have:=JV n w
   rw [hd] at this
   exact this
  have hs:Dq l t n=DD l t:=by unfold Dq;rw [if_pos h0]
  rw [hs]
  clear hd hs h0
  generalize Ec ad (DD l t)=E at *
  go_enter Tryz.func228,Tryz.ntmps228
  go_wp2_with (first
   | (go_at_call 154;refine HT.out.mono ?_;rintro e w1 ⟨rfl,rfl⟩)
   | (go_at_call 241;refine HC.out.mono ?_;rintro e w1 ⟨rfl,rfl⟩))
  go_ret
  exact ⟨rfl,rfl⟩
 ·
  have hd:decide (1 ≤ n ∧ n ≤ 1500)=false:=by simpa using h0
  have HT:Hid (Calls Tryz.prog 154 #[.int .i64 n] w fun e w'=>e=.returned (.bool false) ∧ w'=w):=by
   have:=JV n w
   rw [hd] at this
   exact this
  have hs:Dq l t n=2:=by unfold Dq;rw [if_neg h0]
  rw [hs]
  show Calls _ _ _ _ fun e w'=>e=.returned (.iface 312 (.pointer (some (ad 1)))) ∧ w'=w
  clear hd hs h0 HC
  go_enter Tryz.func228,Tryz.ntmps228
  go_wp2_with (go_at_call 154;refine HT.out.mono ?_;rintro e w1 ⟨rfl,rfl⟩)
  go_ret
  exact ⟨rfl,rfl⟩
theorem UO (m r h n:Int) (w:World) (hn:n ≤ h) :
  Calls Tryz.prog 229 #[.agg #[.int .i64 m,.int .i64 r],.int .i64 h,.int .i64 n] w fun e w'=>e=.returned (.tuple #[.int .i64 0,.bool true]) ∧ w'=w.alloc (.cells #[.int .i64 m,.int .i64 r] 290):=by
 go_enter Tryz.func229,Tryz.ntmps229
 go_wp2
 go_ret2
 exact ⟨rfl,rfl⟩
theorem Vw (m r h n:Int) (w:World) (hn:h < n) (hz:m < n ∨ r=0) :
  Calls Tryz.prog 229 #[.agg #[.int .i64 m,.int .i64 r],.int .i64 h,.int .i64 n] w fun e w'=>e=.returned (.tuple #[.int .i64 0,.bool false]) ∧ w'=w.alloc (.cells #[.int .i64 m,.int .i64 r] 290):=by
 have hn':¬ n ≤ h:=by omega
 by_cases h1:m < n
 ·
  clear hz
  go_enter Tryz.func229,Tryz.ntmps229
  go_wp2
  go_ret2
  exact ⟨rfl,rfl⟩
 ·
  obtain rfl:r=0:=by omega
  clear hz
  go_enter Tryz.func229,Tryz.ntmps229
  go_wp2
  go_ret2
  exact ⟨rfl,rfl⟩
theorem NA (m r h n:Int) (w:World) (hn:h < n) (hm:n ≤ m) (hr:0 < r) (r1:r ≤ 100000) (h0:0 ≤ h) (m1:m ≤ 20000000) :
  Calls Tryz.prog 229 #[.agg #[.int .i64 m,.int .i64 r],.int .i64 h,.int .i64 n] w fun e w'=>e=.returned (.tuple #[.int .i64 ((n - h+r - 1) / r),.bool true]) ∧ w'=w.alloc (.cells #[.int .i64 m,.int .i64 r] 290):=by
 have hn':¬ n ≤ h:=by omega
 have hm':¬ m < n:=by omega
 have hr':¬ r=0:=by omega
 have hr2:(r == 0)=false:=by simpa using hr'
 go_enter Tryz.func229,Tryz.ntmps229
 go_wp2
 go_ret2
 exact ⟨rfl,rfl⟩
end Go.Proofs.YtipdclphpkgceaaGreatDoor
