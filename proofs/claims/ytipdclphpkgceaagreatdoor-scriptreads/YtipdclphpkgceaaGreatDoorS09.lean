/- Own facts, put together: no statement of its own. -/
import Derived.Test.YtipdclphpkgceaaGreatDoorS08
import Derived.Test.YtipdclphpkgceaaGreatDoorS01
import Derived.Test.YtipdclphpkgceaaGreatDoorS03
import Derived.Test.YtipdclphpkgceaaGreatDoorS05
import Derived.Laws.OwnMore
import Derived.Sort.Row
import Derived.Deep.RegionHeldLaw
import Derived.Test.YtipdclphpkgceaaGreatDoorS04
set_option maxHeartbeats 1000000

namespace Go.Proofs.YtipdclphpkgceaaGreatDoor
open Go.RowKit
def PkBad (ps:List Pk) (j:Nat) (p:Pk) (k:Nat):Prop:=(okPk p=false ∧ k=1) ∨ (okPk p=true ∧ p.tick < ahead ps j ∧ k=4)
theorem pks_split (ps:List Pk):OkPks ps ∨ 300 < ps.length ∨ (ps.length ≤ 300 ∧ ∃ j p k,ps[j]? = some p ∧ goodTo ps j ∧ PkBad ps j p k):=by
 by_cases hn:300 < ps.length
 · exact .inr (.inl hn)
 ·
  have h:∀ j,j ≤ ps.length → goodTo ps j ∨ ∃ i p k,ps[i]? = some p ∧ goodTo ps i ∧ PkBad ps i p k:=by
   intro j
   induction j with
   | zero=>intro _;exact .inl fun i q hi=>by omega
   | succ j ih=>
    intro hj
    rcases ih (by omega) with h | h
    ·
     obtain ⟨p,hp,-⟩:=get_some ps j (by omega)
     cases ho:okPk p with
     | false=>exact .inr ⟨j,p,1,hp,h,.inl ⟨ho,rfl⟩⟩
     | true=>
      by_cases ht:p.tick < ahead ps j
      · exact .inr ⟨j,p,4,hp,h,.inr ⟨ho,ht,rfl⟩⟩
      ·
       refine .inl fun i q hi hq=>?_
       by_cases hij:i < j
       · exact h i q hij hq
       ·
        obtain rfl:i=j:=by omega
        obtain rfl:p=q:=Option.some.inj (hp.symm.trans hq)
        exact ⟨ho,by omega⟩
    · exact .inr h
  rcases h ps.length (Nat.le_refl _) with h | h
  ·
   exact .inl ⟨by omega,fun i p hp=>h i p (by
    rcases Nat.lt_or_ge i ps.length with h | h
    · exact h
    · simp [List.getElem?_eq_none h] at hp) hp⟩
  · exact .inr (.inr ⟨by omega,h⟩)
theorem pcheck_bad (a:Option Addr) (cap:Nat) (ps:List Pk) (w:World) (ad:Nat → Addr) (he:ErrsBO w ad) (hl:LiesP w a ps) (h300:ps.length ≤ 300) (j:Nat) (p:Pk) (hj:ps[j]? = some p) (hg:goodTo ps j) (k:Nat) (hbad:PkBad ps j p k) :
  Calls Tryz.prog 105 #[.slice a ps.length cap] w fun e w'=>Below w.heap.size w w' ∧ ∃ B,e=.returned (.iface 75 (.pointer (some ⟨B,0,none⟩))) ∧ w.heap.size ≤ B ∧ B < w'.heap.size ∧ w'.cell? ⟨B,0,none⟩=some (.int .i64 j) ∧ w'.cell? ⟨B,1,none⟩=some (.iface 312 (.pointer (some (ad k)))):=by
 have hjl:j < ps.length:=by
  rcases Nat.lt_or_ge j ps.length with h | h
  · exact h
  · simp [List.getElem?_eq_none h] at hj
 obtain ⟨b,off,rfl,hlt,hc⟩:=hl.place (by omega)
 have HC:Hid (∀ (i:Nat) p,ps[i]? = some p → w.cell? ⟨b,off+i * 3,none⟩=some (.int .i64 p.flow) ∧ w.cell? ⟨b,off+i * 3+1,none⟩=some (.int .i64 p.size) ∧ w.cell? ⟨b,off+i * 3+2,none⟩=some (.int .i64 p.tick)):=hc
 have HG:Hid (goodTo ps j):=hg
 have HE:Hid (ErrsBO w ad):=he
 have HJ:Hid (ps[j]? = some p):=hj
 have HBad:Hid (PkBad ps j p k):=hbad
 clear hl hg hc he hj hbad
 generalize hn:ps.length=n at *
 have Hn:=(show Hid (ps.length=n) from hn)
 clear hn
 go_enter Tryz.func105,Tryz.ntmps105
 go_wp2
 go_loopw [3,12] (fun l i wr=>∃ q:Nat,q ≤ j ∧ i=.int .i64 q ∧ l=.int .i64 (ahead ps q) ∧ Below w.heap.size w wr) (fun _ i _=>n - (intOf i).toNat)
 case atStart=>exact ⟨0,Nat.zero_le _,rfl,rfl,Below.refl _ _⟩
 case round=>
  obtain ⟨q,hq,rfl,rfl,hb⟩:=hrel
  have HB:Hid (Below w.heap.size w wr):=hb
  have hs:=hb.size
  have hqn:q < n:=by omega
  obtain ⟨r,hp,-⟩:=get_some ps q (by rw [Hn.out];exact hqn)
  obtain ⟨d1,d2,d3⟩:=HC.out q r hp
  have hc1:wr.cell? ⟨b,off+q * 3,none⟩=some (.int .i64 r.flow):=by rw [hb.cell (p:=⟨b,off+q * 3,none⟩) hlt];exact d1
  have hc2:wr.cell? ⟨b,off+q * 3+1,none⟩=some (.int .i64 r.size):=by rw [hb.cell (p:=⟨b,off+q * 3+1,none⟩) hlt];exact d2
  have hc3:wr.cell? ⟨b,off+q * 3+2,none⟩=some (.int .i64 r.tick):=by rw [hb.cell (p:=⟨b,off+q * 3+2,none⟩) hlt];exact d3
  by_cases hqj:q < j
  ·
   obtain ⟨o1,o2⟩:=HG.out q r hqj hp
   have HA:Hid (ahead ps (q+1)=r.tick):=ahead_succ hp
   have HP:Hid (∀ w',Calls Tryz.prog 130 #[.agg #[.int .i64 r.flow,.int .i64 r.size,.int .i64 r.tick]] w' fun e w''=>e=.returned (.bool true) ∧ w''=w'.alloc (.cells #[.int .i64 r.flow,.int .i64 r.size,.int .i64 r.tick] 58)):=fun w'=>by
    have:=isPacket_any r w'
    rwa [o1] at this
   clear d1 d2 d3 hp o1 hb
   have o2':¬ r.tick < ahead ps q:=by omega
   generalize ahead ps q=L at *
   generalize r.flow=x at *
   generalize r.size=y at *
   generalize r.tick=z at *
   go_wp2_with (go_at_call 130;refine (HP.out _).mono ?_;rintro e w' ⟨rfl,rfl⟩)
   go_roundw
   case rel=>exact ⟨q+1,by omega,by go_num,by rw [HA.out],(HB.out.alloc hs _).alloc (by simp;omega) _⟩
   case measure=>simp [intOf];omega
  ·
   obtain rfl:q=j:=by omega
   obtain rfl:r=p:=Option.some.inj (hp.symm.trans HJ.out)
   have hB2:=cell_later (((Below.refl wr.heap.size wr).alloc (Nat.le_refl _) (.cells #[.int .i64 r.flow,.int .i64 r.size,.int .i64 r.tick] 58)).alloc (by simp) (.cells #[.int .i64 r.flow,.int .i64 r.size,.int .i64 r.tick] 58)) (cell_later HB.out HE.out.c1)
   have hB5:=cell_later (((Below.refl wr.heap.size wr).alloc (Nat.le_refl _) (.cells #[.int .i64 r.flow,.int .i64 r.size,.int .i64 r.tick] 58)).alloc (by simp) (.cells #[.int .i64 r.flow,.int .i64 r.size,.int .i64 r.tick] 58)) (cell_later HB.out HE.out.c4)
   rcases HBad.out with ⟨o1,rfl⟩ | ⟨o1,o2,rfl⟩
   ·
    have HP:Hid (∀ w',Calls Tryz.prog 130 #[.agg #[.int .i64 r.flow,.int .i64 r.size,.int .i64 r.tick]] w' fun e w''=>e=.returned (.bool false) ∧ w''=w'.alloc (.cells #[.int .i64 r.flow,.int .i64 r.size,.int .i64 r.tick] 58)):=fun w'=>by
     have:=isPacket_any r w'
     rwa [o1] at this
    clear d1 d2 d3 hp o1 hb hB5 hqj
    generalize ahead ps q=L at *
    generalize r.flow=x at *
    generalize r.size=y at *
    generalize r.tick=z at *
    go_wp2_with (go_at_call 130;refine (HP.out _).mono ?_;rintro e w' ⟨rfl,rfl⟩)
    go_ret
    refine ⟨((HB.out.alloc hs _).alloc (by simp;omega) _).alloc (by simp;omega) _,_,rfl,?_,?_,?_,?_⟩
    · omega
    · simp
    · rw [World.cell?_alloc_at _ _ _ _ (by simp)];rfl
    · rw [World.cell?_alloc_at _ _ _ _ (by simp)];rfl
   ·
    have HP:Hid (∀ w',Calls Tryz.prog 130 #[.agg #[.int .i64 r.flow,.int .i64 r.size,.int .i64 r.tick]] w' fun e w''=>e=.returned (.bool true) ∧ w''=w'.alloc (.cells #[.int .i64 r.flow,.int .i64 r.size,.int .i64 r.tick] 58)):=fun w'=>by
     have:=isPacket_any r w'
     rwa [o1] at this
    clear d1 d2 d3 hp o1 hb hB2 hqj
    generalize ahead ps q=L at *
    generalize r.flow=x at *
    generalize r.size=y at *
    generalize r.tick=z at *
    go_wp2_with (go_at_call 130;refine (HP.out _).mono ?_;rintro e w' ⟨rfl,rfl⟩)
    go_ret
    refine ⟨((HB.out.alloc hs _).alloc (by simp;omega) _).alloc (by simp;omega) _,_,rfl,?_,?_,?_,?_⟩
    · omega
    · simp
    · rw [World.cell?_alloc_at _ _ _ _ (by simp)];rfl
    · rw [World.cell?_alloc_at _ _ _ _ (by simp)];rfl
theorem Errs9.bo {w:World} {ad:Nat → Addr} (h:Errs9 w ad):ErrsBO w ad:=⟨h.c1,h.c4⟩
def PksFault (ps:List Pk) (c p:Int):Prop:=
 (300 < ps.length ∧ c=2 ∧ p = -1) ∨
 (ps.length ≤ 300 ∧ ∃ (j:Nat) (q:Pk) (k:Nat),ps[j]? = some q ∧ goodTo ps j ∧ PkBad ps j q k ∧ c=k+1 ∧ p=j) ∨
 (OkPks ps ∧ c=0 ∧ p = -1)
theorem pksFault_is (ps:List Pk):∃ c p,PksFault ps c p:=by
 rcases pks_split ps with h | h | ⟨h,j,q,k,h1,h2,h3⟩
 · exact ⟨0,-1,.inr (.inr ⟨h,rfl,rfl⟩)⟩
 · exact ⟨2,-1,.inl ⟨h,rfl,rfl⟩⟩
 · exact ⟨k+1,j,.inr (.inl ⟨h,j,q,k,h1,h2,h3,rfl,rfl⟩)⟩
theorem PksFault.num {ps:List Pk} {c p:Int} (h:PksFault ps c p):c=0 ∧ p = -1 ∧ OkPks ps ∨ 0 < c:=by
 rcases h with ⟨_,h,_⟩ | ⟨_,j,q,k,_,_,_,h,_⟩ | ⟨h,h1,h2⟩
 · exact .inr (by omega)
 · exact .inr (by omega)
 · exact .inl ⟨h1,h2,h⟩
theorem pcheck_is (a:Option Addr) (cap:Nat) (ps:List Pk) (w:World) (ad:Nat → Addr) (he:Errs9 w ad) (hl:LiesP w a ps) (hcap:ps.length ≤ cap) (hm:cap ≤ maxLen) (c p:Int) (h:PksFault ps c p) :
  Calls Tryz.prog 105 #[.slice a ps.length cap] w fun e w'=>∃ E,e=.returned E ∧ ErrIs w' E c p ∧ Below w.heap.size w w':=by
 rcases h with ⟨h,rfl,rfl⟩ | ⟨h,j,q,k,h1,h2,h3,rfl,rfl⟩ | ⟨h,rfl,rfl⟩
 ·
  refine (pcheck_long a ps.length cap w ad he.bo (Nat.le_trans hcap hm) h).mono ?_
  rintro e w' ⟨rfl,rfl⟩
  exact ⟨_,rfl,errIs_sent he 1 (by decide),Below.refl _ _⟩
 ·
  refine (pcheck_bad a cap ps w ad he.bo hl h j q h1 h2 k h3).mono ?_
  rintro e w' ⟨hb,B,rfl,-,-,c0,c1⟩
  have hk9:k < 9:=by rcases h3 with ⟨-,rfl⟩ | ⟨-,-,rfl⟩ <;> omega
  exact ⟨_,rfl,⟨codeIs_fault (he.below hb) k hk9 j B c0 c1,fun h=>by omega,fun _=>⟨_,_,rfl⟩⟩,hb⟩
 ·
  refine (pcheck_ok a cap ps w hl h).mono ?_
  rintro e w' ⟨rfl,hb⟩
  exact ⟨_,rfl,errIs_nil _,hb⟩
end Go.Proofs.YtipdclphpkgceaaGreatDoor

namespace Go.Proofs.YtipdclphpkgceaaGreatDoor
def kindOf (bs:List UInt8):Nat:=if bs=[102,105,102,111] then 1 else if bs=[114,97,110,107] then 2 else if bs=[100,117,101] then 3 else if bs=[114,111,117,110,100] then 4 else if bs=[102,97,105,114] then 5 else 0
theorem kindOf_le (bs:List UInt8):kindOf bs ≤ 5:=by
 unfold kindOf
 repeat' split
 all_goals omega
def KindFault (k:Nat) (ns:List Int) (c:Nat):Prop:=
 (k=1 ∧ ((c=3 ∧ ns ≠ []) ∨ (c=0 ∧ ns=[]))) ∨ (k=2 ∧ NumsFault 0 100 ns c) ∨ (k=3 ∧ NumsFault 0 1099511627776 ns c) ∨ (k=4 ∧ NumsFault 1 3000 ns c) ∨ (k=5 ∧ WtsFault ns c)
theorem kindFault_is {k:Nat} (h1:1 ≤ k) (h5:k ≤ 5) (ns:List Int):∃ c,KindFault k ns c:=by
 rcases (show k=1 ∨ k=2 ∨ k=3 ∨ k=4 ∨ k=5 by omega) with rfl | rfl | rfl | rfl | rfl
 ·
  by_cases h:ns=[]
  · exact ⟨0,.inl ⟨rfl,.inr ⟨rfl,h⟩⟩⟩
  · exact ⟨3,.inl ⟨rfl,.inl ⟨rfl,h⟩⟩⟩
 ·
  obtain ⟨c,h⟩:=numsFault_is 0 100 ns
  exact ⟨c,.inr (.inl ⟨rfl,h⟩)⟩
 ·
  obtain ⟨c,h⟩:=numsFault_is 0 1099511627776 ns
  exact ⟨c,.inr (.inr (.inl ⟨rfl,h⟩))⟩
 ·
  obtain ⟨c,h⟩:=numsFault_is 1 3000 ns
  exact ⟨c,.inr (.inr (.inr (.inl ⟨rfl,h⟩)))⟩
 ·
  obtain ⟨c,h⟩:=wtsFault_is ns
  exact ⟨c,.inr (.inr (.inr (.inr ⟨rfl,h⟩)))⟩
theorem KindFault.few {k:Nat} {ns:List Int} {c:Nat} (h:KindFault k ns c):c=0 ∨ c=2 ∨ c=3:=by
 rcases h with ⟨-,⟨h,-⟩ | ⟨h,-⟩⟩ | ⟨-,⟨h,-⟩ | ⟨h,-⟩ | ⟨h,-⟩⟩ | ⟨-,⟨h,-⟩ | ⟨h,-⟩ | ⟨h,-⟩⟩ | ⟨-,⟨h,-⟩ | ⟨h,-⟩ | ⟨h,-⟩⟩ | ⟨-,⟨h,-⟩ | ⟨h,-⟩ | ⟨h,-⟩⟩ <;> omega
def curveFl (cs:List (List (Int × Int))) (f:Nat):List (Int × Int):=cs.getD f []
theorem curveFl_get {cs:List (List (Int × Int))} {f:Nat} {ls:List (Int × Int)} (h:cs[f]? = some ls):curveFl cs f=ls:=by simp [curveFl,List.getD,h]
def CurvesTo (cs:List (List (Int × Int))) (k:Nat):Prop:=∀ (i:Nat) ls,i < k → cs[i]? = some ls → ls=[] ∨ okCurve ls
def CurveBad (cs:List (List (Int × Int))) (i:Nat) (c:Int):Prop:=∃ ls p,cs[i]? = some ls ∧ ls ≠ [] ∧ FaultIs ls c p ∧ 0 < c
theorem curves_split (cs:List (List (Int × Int))):∀ k,k ≤ cs.length → CurvesTo cs k ∨ ∃ i c,i < k ∧ CurveBad cs i c ∧ CurvesTo cs i
 | 0,_=>.inl fun i ls h=>absurd h (Nat.not_lt_zero _)
 | k+1,hk=>by
  rcases curves_split cs k (by omega) with h | ⟨i,c,h1,h2,h3⟩
  ·
   have e:cs[k]? = some cs[k]:=List.getElem?_eq_getElem (by omega)
   by_cases h0:cs[k]=[]
   ·
    refine .inl fun i ls hi hl=>?_
    rcases Nat.lt_or_ge i k with h' | h'
    · exact h i ls h' hl
    ·
     obtain rfl:i=k:=by omega
     rw [e] at hl
     obtain rfl:=Option.some.inj hl
     exact .inl h0
   ·
    obtain ⟨c,p,hf⟩:=fault_is cs[k]
    by_cases hc:c=0
    ·
     subst hc
     refine .inl fun i ls hi hl=>?_
     rcases Nat.lt_or_ge i k with h' | h'
     · exact h i ls h' hl
     ·
      obtain rfl:i=k:=by omega
      rw [e] at hl
      obtain rfl:=Option.some.inj hl
      exact .inr hf.ok.1
    ·
     have:=hf.num
     exact .inr ⟨k,c,by omega,⟨_,p,e,h0,hf,by omega⟩,h⟩
  · exact .inr ⟨i,c,by omega,h2,h3⟩
theorem CurvesTo.ok {cs:List (List (Int × Int))} (h:CurvesTo cs 8):CurvesOk (curveFl cs):=fun f hf=>by
 cases e:cs[f]? with
 | none=>exact .inl (by simp [curveFl,List.getD,e])
 | some ls=>rw [curveFl_get e];exact h f ls hf e
def GateIs (cs:List (List (Int × Int))) (k:Nat) (per:Int) (ns:List Int) (c p:Int):Prop:=
 (cs.length ≠ 8 ∧ c=3 ∧ p = -1) ∨ (cs.length=8 ∧ ∃ i:Nat,CurveBad cs i c ∧ p=i ∧ CurvesTo cs i) ∨
  (cs.length=8 ∧ CurvesTo cs 8 ∧ p = -1 ∧ ((k=0 ∧ c=9) ∨ (1 ≤ k ∧ k ≤ 5 ∧ ((¬ (1 ≤ per ∧ per ≤ 1000) ∧ c=2) ∨ (1 ≤ per ∧ per ≤ 1000 ∧ ∃ d:Nat,KindFault k ns d ∧ c=d)))))
structure GateOk (cs:List (List (Int × Int))) (k:Nat) (per:Int) (ns:List Int):Prop where
 len:cs.length=8
 curves:CurvesTo cs 8
 kind:1 ≤ k ∧ k ≤ 5
 per:1 ≤ per ∧ per ≤ 1000
 nums:KindFault k ns 0
theorem gateIs_is (cs:List (List (Int × Int))) {k:Nat} (hk:k ≤ 5) (per:Int) (ns:List Int):∃ c p,GateIs cs k per ns c p:=by
 by_cases hl:cs.length=8
 ·
  rcases curves_split cs 8 (by omega) with h | ⟨i,c,h1,h2,h3⟩
  ·
   by_cases h0:k=0
   · exact ⟨9,-1,.inr (.inr ⟨hl,h,rfl,.inl ⟨h0,rfl⟩⟩)⟩
   ·
    by_cases hp:1 ≤ per ∧ per ≤ 1000
    ·
     obtain ⟨d,hd⟩:=kindFault_is (k:=k) (by omega) hk ns
     exact ⟨d,-1,.inr (.inr ⟨hl,h,rfl,.inr ⟨by omega,hk,.inr ⟨hp.1,hp.2,d,hd,rfl⟩⟩⟩)⟩
    · exact ⟨2,-1,.inr (.inr ⟨hl,h,rfl,.inr ⟨by omega,hk,.inl ⟨hp,rfl⟩⟩⟩)⟩
  · exact ⟨c,i,.inr (.inl ⟨hl,i,h2,rfl,h3⟩)⟩
 · exact ⟨3,-1,.inl ⟨hl,rfl,rfl⟩⟩
theorem GateIs.num {cs:List (List (Int × Int))} {k:Nat} {per:Int} {ns:List Int} {c p:Int} (h:GateIs cs k per ns c p):(c=0 ∧ p = -1 ∧ GateOk cs k per ns) ∨ (0 < c ∧ c ≤ 9):=by
 rcases h with ⟨-,h,-⟩ | ⟨-,i,⟨ls,q,-,-,hf,h⟩,-⟩ | ⟨h1,h2,hp,⟨-,h⟩ | ⟨k1,k5,⟨-,h⟩ | ⟨p1,p2,d,hd,h⟩⟩⟩
 · exact .inr (by omega)
 ·
  have:=hf.num
  exact .inr (by omega)
 · exact .inr (by omega)
 · exact .inr (by omega)
 ·
  rcases hd.few with rfl | rfl | rfl
  · exact .inl ⟨by omega,hp,h1,h2,⟨k1,k5⟩,⟨p1,p2⟩,hd⟩
  · exact .inr (by omega)
  · exact .inr (by omega)
def LinkSends (k:Nat) (per:Int) (ps:List Pk) (ns:List Int) (l:List Sn):Prop:=
 (k=1 ∧ l=lindAll per ps ps.length) ∨ (k=2 ∧ Sched per ps (rankKeys ps ns) l ∧ l.length=ps.length) ∨ (k=3 ∧ Sched per ps (dueKeys ps ns) l ∧ l.length=ps.length) ∨ (k=4 ∧ RoundSent per ps ns l) ∨ (k=5 ∧ ∃ ts,FairSent per ps ns l ts)
theorem LinkSends.same {k:Nat} {per:Int} {ps:List Pk} {ns:List Int} {l m:List Sn} (h:LinkSends k per ps ns l) (h':LinkSends k per ps ns m):l=m:=by
 rcases h with ⟨rfl,h⟩ | ⟨rfl,h1,h2⟩ | ⟨rfl,h1,h2⟩ | ⟨rfl,h⟩ | ⟨rfl,ts,h⟩
 ·
  rcases h' with ⟨-,h'⟩ | ⟨e,-⟩ | ⟨e,-⟩ | ⟨e,-⟩ | ⟨e,-⟩
  · rw [h,h']
  all_goals omega
 ·
  rcases h' with ⟨e,-⟩ | ⟨-,g1,g2⟩ | ⟨e,-⟩ | ⟨e,-⟩ | ⟨e,-⟩
  case inr.inl=>exact h1.same g1 (by omega)
  all_goals omega
 ·
  rcases h' with ⟨e,-⟩ | ⟨e,-⟩ | ⟨-,g1,g2⟩ | ⟨e,-⟩ | ⟨e,-⟩
  case inr.inr.inl=>exact h1.same g1 (by omega)
  all_goals omega
 ·
  rcases h' with ⟨e,-⟩ | ⟨e,-⟩ | ⟨e,-⟩ | ⟨-,g⟩ | ⟨e,-⟩
  case inr.inr.inr.inl=>exact h.same g
  all_goals omega
 ·
  rcases h' with ⟨e,-⟩ | ⟨e,-⟩ | ⟨e,-⟩ | ⟨e,-⟩ | ⟨-,us,g⟩
  case inr.inr.inr.inr=>exact (h.same g).1
  all_goals omega
theorem wtsOk_all {ns:List Int} (h:WtsAll ns):WtsOk ns:=fun f=>by
 cases hx:ns[f]? with
 | none=>simp [quOf,List.getD,hx]
 | some x=>
  rw [quOf_get hx]
  have:=h.each f x hx
  exact ⟨this.1,Int.ediv_mul_cancel (Int.dvd_of_emod_eq_zero this.2)⟩
theorem NumsFault.ok {lo hi:Int} {ns:List Int} (h:NumsFault lo hi ns 0):NumsOk lo hi ns:=by
 rcases h with ⟨h,-⟩ | ⟨h,-⟩ | ⟨-,h⟩
 · omega
 · omega
 · exact h
theorem WtsFault.ok {ns:List Int} (h:WtsFault ns 0):WtsAll ns:=by
 rcases h with ⟨h,-⟩ | ⟨h,-⟩ | ⟨-,h⟩
 · omega
 · omega
 · exact h
theorem LinkSends.may {k:Nat} {per:Int} {ps:List Pk} {ns:List Int} {l:List Sn} (h:LinkSends k per ps ns l) (hn:KindFault k ns 0) (ho:OkPks ps) (hper:1 ≤ per):Conv per ps l ∧ Turns ps l ∧ l.length=ps.length:=by
 rcases h with ⟨rfl,rfl⟩ | ⟨rfl,h1,h2⟩ | ⟨rfl,h1,h2⟩ | ⟨rfl,h⟩ | ⟨rfl,ts,h⟩
 · exact ⟨(lind_may ho).1,(lind_may ho).2,by simp [lindAll]⟩
 · exact ⟨h1.conv,rank_turns ho h1,h2⟩
 · exact ⟨h1.conv,due_turns ho h1,h2⟩
 ·
  rcases hn with ⟨e,-⟩ | ⟨e,-⟩ | ⟨e,-⟩ | ⟨-,hn⟩ | ⟨e,-⟩
  case inr.inr.inr.inl=>exact h.may ho (fun f=>(quOf_in (fun i x hx=>hn.ok.each i x hx) (by decide) f).1) hper
  all_goals omega
 ·
  rcases hn with ⟨e,-⟩ | ⟨e,-⟩ | ⟨e,-⟩ | ⟨e,-⟩ | ⟨-,hn⟩
  case inr.inr.inr.inr=>exact h.may (wtsOk_all hn.ok) ho hper
  all_goals omega
def NeverAt (cs:Nat → List (Int × Int)) (ps:List Pk) (i:Nat):Prop:=∃ p s,ps[i]? = some p ∧ cs (flowOf ps i) ≠ [] ∧ shape (cs (flowOf ps i)) ((ownTo ps (flowOf ps i) ps.length).take (rankIn ps i))=some s ∧ shStep s p=none
theorem shape_first (ls:List (Int × Int)):∀ own:List Pk,shape ls own=none → ∃ (j:Nat) (p:Pk) (s:Sh),own[j]? = some p ∧ shape ls (own.take j)=some s ∧ shStep s p=none:=by
 refine snoc_ind (fun h=>by cases h) (fun own p ih h=>?_)
 rw [shape_snoc] at h
 cases hs:shape ls own with
 | none=>
  obtain ⟨j,q,s,h1,h2,h3⟩:=ih hs
  have hj:j < own.length:=lt_of_get h1
  exact ⟨j,q,s,by rw [List.getElem?_append_left hj];exact h1,by rw [List.take_append_of_le_length (by omega)];exact h2,h3⟩
 | some s=>
  rw [hs] at h
  exact ⟨own.length,p,s,by simp,by simpa using hs,h⟩
section
variable {cs:Nat → List (Int × Int)} {ps:List Pk}
theorem shaped_all (ho:OkPks ps) (hn:∀ i,¬ NeverAt cs ps i) (f:Nat):∃ out,shapedFl cs ps f=some out:=by
 unfold shapedFl
 by_cases he:cs f=[]
 · exact ⟨_,if_pos he⟩
 ·
  rw [if_neg he]
  cases hs:shape (cs f) (ownTo ps f ps.length) with
  | some s=>exact ⟨_,rfl⟩
  | none=>
   obtain ⟨j,p,s,h1,h2,h3⟩:=shape_first _ _ hs
   have hown:=own_num ho f ps.length (Nat.le_refl _)
   have hj:j < (numTo ps f ps.length).length:=by rw [← hown.1];exact lt_of_get h1
   have e:(numTo ps f ps.length)[j]? = some (numTo ps f ps.length)[j]:=List.getElem?_eq_getElem hj
   obtain ⟨g1,g2,g3,g4⟩:=hown.2 j _ e
   refine absurd ⟨p,s,by rw [← g4];exact h1,by rw [g2];exact he,by rw [g2,g3];exact h2,h3⟩ (hn (numTo ps f ps.length)[j])
def GateRun (cs:Nat → List (Int × Int)) (k:Nat) (per:Int) (ns:List Int) (ps qs:List Pk) (l:List Sn):Prop:=∃ at_ L,Shaped cs ps at_ ∧ IsOrder at_ ps.length L ∧ qs=gatePks ps at_ L ∧ LinkSends k per qs ns l
theorem shaped_is (ho:OkPks ps) (hn:∀ i,¬ NeverAt cs ps i):∃ at_,Shaped cs ps at_:=by
 obtain ⟨out,hout⟩:=Classical.axiomOfChoice fun f=>shaped_all (cs:=cs) ho hn f
 refine ⟨fun i=>tickOf (out (flowOf ps i)) (rankIn ps i),fun f hf=>⟨out f,hout f,fun r i hi=>?_⟩⟩
 obtain ⟨-,g2,g3,-⟩:=(own_num ho f ps.length (Nat.le_refl _)).2 r i hi
 show tickOf (out (flowOf ps i)) (rankIn ps i)=_
 rw [g2,g3]
theorem Shaped.same (ho:OkPks ps) {at1 at2:Nat → Int} (h1:Shaped cs ps at1) (h2:Shaped cs ps at2) {i:Nat} (hi:i < ps.length):at1 i=at2 i:=by
 have hf:=flow_range ho hi
 obtain ⟨out,e1,g1⟩:=h1 _ hf
 obtain ⟨out',e2,g2⟩:=h2 _ hf
 obtain rfl:out=out':=Option.some.inj (e1.symm.trans e2)
 have hat:=num_at ho hi (Nat.le_refl _)
 rw [g1 _ _ hat,g2 _ _ hat]
theorem IsOrder.turn {at1 at2:Nat → Int} {n:Nat} {L:List Nat} (h:IsOrder at1 n L) (he:∀ i,i < n → at1 i=at2 i):IsOrder at2 n L:=by
 refine ⟨?_,h.mem⟩
 refine List.Pairwise.imp_of_mem (fun {a b} ha hb hab=>?_) h.sorted
 have e1:=he a ((h.mem a).1 ha)
 have e2:=he b ((h.mem b).1 hb)
 unfold Ahead at hab ⊢
 omega
theorem gate_one (ho:OkPks ps) {at1 at2:Nat → Int} {L M:List Nat} (h1:Shaped cs ps at1) (h2:Shaped cs ps at2) (k1:IsOrder at1 ps.length L) (k2:IsOrder at2 ps.length M):gatePks ps at1 L=gatePks ps at2 M:=by
 obtain rfl:L=M:=(k1.turn fun i hi=>h1.same ho h2 hi).same k2
 refine List.map_congr_left fun i hi=>?_
 have hi':=(k1.mem i).1 hi
 have e:ps[i]? = some ps[i]:=List.getElem?_eq_getElem hi'
 rw [gatePk_get e,gatePk_get e,h1.same ho h2 hi']
theorem GateRun.same {k:Nat} {per:Int} {ns:List Int} {qs qs':List Pk} {l l':List Sn} (ho:OkPks ps) (h:GateRun cs k per ns ps qs l) (h':GateRun cs k per ns ps qs' l'):qs=qs' ∧ l=l':=by
 obtain ⟨at1,L,a1,a2,rfl,a3⟩:=h
 obtain ⟨at2,M,b1,b2,rfl,b3⟩:=h'
 have e:=gate_one ho a1 b1 a2 b2
 rw [← e] at b3
 exact ⟨e,a3.same b3⟩
theorem GateRun.ok {k:Nat} {per:Int} {ns:List Int} {qs:List Pk} {l:List Sn} (ho:OkPks ps) (hc:CurvesOk cs) (h:GateRun cs k per ns ps qs l):OkPks qs ∧ qs.length=ps.length ∧ LinkSends k per qs ns l:=by
 obtain ⟨at1,L,a1,a2,rfl,a3⟩:=h
 exact ⟨a1.ok ho hc a2,by rw [gatePks,List.length_map];exact a2.length,a3⟩
end
theorem least_of {P:Nat → Prop} (h:∃ i,P i):∃ i,P i ∧ ∀ j,j < i → ¬ P j:=by
 obtain ⟨n,hn⟩:=h
 induction n using Nat.strongRecOn with
 | _ n ih=>
  by_cases hl:∃ m,m < n ∧ P m
  ·
   obtain ⟨m,h1,h2⟩:=hl
   exact ih m h1 h2
  · exact ⟨n,hn,fun j hj h'=>hl ⟨j,hj,h'⟩⟩
def RunIs (cs:List (List (Int × Int))) (k:Nat) (per:Int) (ns:List Int) (ps:List Pk) (c p:Int):Prop:=
 (GateIs cs k per ns c p ∧ 0 < c) ∨ (GateOk cs k per ns ∧ PksFault ps c p ∧ 0 < c) ∨ (GateOk cs k per ns ∧ OkPks ps ∧ ∃ i:Nat,NeverAt (curveFl cs) ps i ∧ (∀ j,j < i → ¬ NeverAt (curveFl cs) ps j) ∧ c=4 ∧ p=i) ∨ (GateOk cs k per ns ∧ OkPks ps ∧ (∀ i,¬ NeverAt (curveFl cs) ps i) ∧ c=0 ∧ p = -1)
theorem runIs_is (cs:List (List (Int × Int))) {k:Nat} (hk:k ≤ 5) (per:Int) (ns:List Int) (ps:List Pk):∃ c p,RunIs cs k per ns ps c p:=by
 obtain ⟨c,p,hg⟩:=gateIs_is cs hk per ns
 rcases hg.num with ⟨rfl,rfl,hok⟩ | hc
 ·
  obtain ⟨c,p,hp⟩:=pksFault_is ps
  rcases hp.num with ⟨rfl,rfl,ho⟩ | hc
  ·
   by_cases hn:∃ i,NeverAt (curveFl cs) ps i
   ·
    obtain ⟨i,h1,h2⟩:=least_of hn
    exact ⟨4,i,.inr (.inr (.inl ⟨hok,ho,i,h1,h2,rfl,rfl⟩))⟩
   · exact ⟨0,-1,.inr (.inr (.inr ⟨hok,ho,fun i h=>hn ⟨i,h⟩,rfl,rfl⟩))⟩
  · exact ⟨c,p,.inr (.inl ⟨hok,hp,hc⟩)⟩
 · exact ⟨c,p,.inl ⟨hg,hc.1⟩⟩
end Go.Proofs.YtipdclphpkgceaaGreatDoor

namespace Go.Proofs.YtipdclphpkgceaaGreatDoor
open Go.RowKit Go.Sort
def ints (xs:List Int):List Value:=xs.map (Value.int .i64)
theorem ints_length (xs:List Int):(ints xs).length=xs.length:=by simp [ints]
theorem ints_get {xs:List Int} {j:Nat} {x:Int} (h:xs[j]? = some x):(ints xs)[j]? = some (.int .i64 x):=by simp [ints,h]
theorem ints_one (xs:List Int):∀ u ∈ ints xs,u.oneCell'=true:=by
 intro u hu
 obtain ⟨x,-,rfl⟩:=List.mem_map.1 hu
 rfl
theorem holds_of_own {w:World} {B:Nat} {e:TypeId} {g cap:Nat} {zs:List Int} (h:w.ownsRow B e 1 (.slice (some ⟨g,0,none⟩) zs.length cap) zs.length (ints zs)):Holds (Value.int .i64) w g 0 zs.toArray:=by
 intro j hj
 have hj':j < zs.length:=by simpa using hj
 refine ⟨?_,h.frozenAt _⟩
 rw [Nat.zero_add,h.cellAt j (by omega),ints_get (List.getElem?_eq_getElem hj')]
 congr 2
 rw [getElem!_pos _ j hj]
 simp
theorem own_deleted {w:World} {B:Nat} {e:TypeId} {g cap:Nat} {zs:List Int} (h:w.ownsRow B e 1 (.slice (some ⟨g,0,none⟩) zs.length cap) zs.length (ints zs)) (i q:Nat) (hi:i < zs.length) :
  (putRow (Value.int .i64) (Sort.ahead w q) g 0 (zs.take i ++ zs.drop (i+1) ++ List.replicate (i+1 - i) 0).toArray).ownsRow B e 1 (.slice (some ⟨g,0,none⟩) (zs.length - 1) cap) (zs.length - 1) (ints (zs.eraseIdx i)) ∧
   But (fun k=>k=g) w (putRow (Value.int .i64) (Sort.ahead w q) g 0 (zs.take i ++ zs.drop (i+1) ++ List.replicate (i+1 - i) 0).toArray):=by
 have hel:(zs.eraseIdx i).length=zs.length - 1:=by rw [List.length_eraseIdx,if_pos hi]
 rcases h.2 with ⟨h',_⟩ | ⟨g',cap',cur,h',hB,hg,hn,hm,hcs,ht⟩
 · simp at h'
 ·
  simp only [Value.slice.injEq,Option.some.injEq,Addr.mk.injEq,and_true,true_and] at h'
  obtain ⟨rfl,rfl⟩:=h'
  refine ⟨⟨by rw [ints_length,hel,Nat.mul_one],.inr ⟨g,cap,putCells (Value.int .i64) 0 (zs.take i ++ zs.drop (i+1) ++ List.replicate (i+1 - i) 0).toArray cur,rfl,hB,?_,by omega,hm,by simp [putCells,hcs],?_⟩⟩,⟨rfl,rfl,rfl,by simp,fun k hk hs=>?_⟩⟩
  ·
   simp only [putRow,mapBlock,Array.getElem?_modify,heap_ahead,hg]
   rfl
  ·
   apply List.ext_getElem?
   intro k
   rw [List.getElem?_take,Nat.mul_one]
   by_cases hk:k < zs.length - 1
   ·
    rw [if_pos hk]
    have hz:(zs.eraseIdx i)[k]? = some ((zs.eraseIdx i)[k]'(by omega)):=List.getElem?_eq_getElem (by omega)
    rw [ints_get hz]
    have hcur:cur[k]? = some cur[k]:=Array.getElem?_eq_getElem (by omega)
    have hsz:(zs.take i ++ zs.drop (i+1) ++ List.replicate (i+1 - i) (0:Int)).length=zs.length:=by
     simp only [List.length_append,List.length_take,List.length_drop,List.length_replicate]
     omega
    simp only [putCells,Array.getElem?_toList,Array.getElem?_mapIdx,hcur,Option.map_some]
    rw [if_pos ⟨Nat.zero_le _,by rw [List.size_toArray,hsz];omega⟩]
    congr 2
    rw [Nat.sub_zero,getElem!_pos _ k (by rw [List.size_toArray,hsz];omega)]
    have e1:zs.take i ++ zs.drop (i+1)=zs.eraseIdx i:=(List.eraseIdx_eq_take_drop_succ ..).symm
    simp only [e1,List.getElem_toArray]
    rw [List.getElem_append_left (by omega)]
   · rw [if_neg hk,List.getElem?_eq_none (by rw [ints_length];omega)]
  ·
   simp only [putRow,mapBlock,Array.getElem?_modify,heap_ahead]
   rw [if_neg (fun h=>hs h.symm)]
end Go.Proofs.YtipdclphpkgceaaGreatDoor

namespace Go.Proofs.YtipdclphpkgceaaGreatDoor
open Go.RowKit
def LiesC (w:World) (a:Option Addr) (cs:List (List (Int × Int))):Prop:=
 cs=[] ∨ ∃ b off,a=some ⟨b,off,none⟩ ∧ b < w.heap.size ∧ ∀ (i:Nat) ls,cs[i]? = some ls → ∃ a' cap,w.cell? ⟨b,off+i,none⟩=some (.slice a' ls.length cap) ∧ Lies w a' ls ∧ ls.length ≤ cap ∧ cap ≤ maxLen ∧ (a'=none → ls=[] ∧ cap=0)
theorem LiesC.place {w:World} {a:Option Addr} {cs:List (List (Int × Int))} (h:LiesC w a cs) (h1:1 ≤ cs.length) :
  ∃ b off,a=some ⟨b,off,none⟩ ∧ b < w.heap.size ∧ ∀ (i:Nat) ls,cs[i]? = some ls → ∃ a' cap,w.cell? ⟨b,off+i,none⟩=some (.slice a' ls.length cap) ∧ Lies w a' ls ∧ ls.length ≤ cap ∧ cap ≤ maxLen ∧ (a'=none → ls=[] ∧ cap=0):=by
 rcases h with rfl | h
 · simp at h1
 · exact h
theorem LiesC.below {w w':World} {a:Option Addr} {cs:List (List (Int × Int))} (h:LiesC w a cs) (hb:Below w.heap.size w w'):LiesC w' a cs:=by
 rcases h with rfl | ⟨b,off,rfl,hlt,hc⟩
 · exact .inl rfl
 ·
  refine .inr ⟨b,off,rfl,Nat.lt_of_lt_of_le hlt hb.size,fun i ls hi=>?_⟩
  obtain ⟨a',cap,h1,h2,h3⟩:=hc i ls hi
  exact ⟨a',cap,cell_later hb h1,h2.below hb,h3⟩
structure GateAt (w:World) (B:Nat) (ca:Value) (kb:ByteArray) (per:Int) (na:Value):Prop where
 c0:w.cell? ⟨B,0,none⟩=some ca
 c1:w.cell? ⟨B,1,none⟩=some (.string kb)
 c2:w.cell? ⟨B,2,none⟩=some (.int .i64 per)
 c3:w.cell? ⟨B,3,none⟩=some na
theorem gateAt_new (w:World) (ca:Value) (kb:ByteArray) (per:Int) (na:Value) (t:TypeId):GateAt (w.alloc (.cells #[ca,.string kb,.int .i64 per,na] t)) w.heap.size ca kb per na:=⟨by simp,by simp,by simp,by simp⟩
theorem GateAt.later {w w':World} {B:Nat} {ca:Value} {kb:ByteArray} {per:Int} {na:Value} (h:GateAt w B ca kb per na) (hb:Below w.heap.size w w'):GateAt w' B ca kb per na:=⟨cell_later hb h.c0,cell_later hb h.c1,cell_later hb h.c2,cell_later hb h.c3⟩
theorem bytes_fifo:ByteArray.toList ⟨#[102,105,102,111]⟩=[102,105,102,111]:=by kernel_rfl
theorem bytes_rank:ByteArray.toList ⟨#[114,97,110,107]⟩=[114,97,110,107]:=by kernel_rfl
theorem bytes_due:ByteArray.toList ⟨#[100,117,101]⟩=[100,117,101]:=by kernel_rfl
theorem bytes_round:ByteArray.toList ⟨#[114,111,117,110,100]⟩=[114,111,117,110,100]:=by kernel_rfl
theorem bytes_fair:ByteArray.toList ⟨#[102,97,105,114]⟩=[102,97,105,114]:=by kernel_rfl
structure KindTests (s:ByteArray) (b1 b2 b3 b4 b5:Bool):Prop where
 t1:(s.toList == [102,105,102,111])=b1
 t2:(s.toList == [114,97,110,107])=b2
 t3:(s.toList == [100,117,101])=b3
 t4:(s.toList == [114,111,117,110,100])=b4
 t5:(s.toList == [102,97,105,114])=b5
 u1:(s.toList == ByteArray.toList ⟨#[102,105,102,111]⟩)=b1
 u2:(s.toList == ByteArray.toList ⟨#[114,97,110,107]⟩)=b2
 u3:(s.toList == ByteArray.toList ⟨#[100,117,101]⟩)=b3
 u4:(s.toList == ByteArray.toList ⟨#[114,111,117,110,100]⟩)=b4
 u5:(s.toList == ByteArray.toList ⟨#[102,97,105,114]⟩)=b5
theorem kindTests (s:ByteArray):KindTests s (decide (kindOf s.toList=1)) (decide (kindOf s.toList=2)) (decide (kindOf s.toList=3)) (decide (kindOf s.toList=4)) (decide (kindOf s.toList=5)):=by
 have key:∀ bs:List UInt8,(bs == [102,105,102,111])=decide (kindOf bs=1) ∧ (bs == [114,97,110,107])=decide (kindOf bs=2) ∧ (bs == [100,117,101])=decide (kindOf bs=3) ∧ (bs == [114,111,117,110,100])=decide (kindOf bs=4) ∧ (bs == [102,97,105,114])=decide (kindOf bs=5):=by
  intro bs
  by_cases h1:bs=[102,105,102,111]
  · subst h1;decide
  ·
   by_cases h2:bs=[114,97,110,107]
   · subst h2;decide
   ·
    by_cases h3:bs=[100,117,101]
    · subst h3;decide
    ·
     by_cases h4:bs=[114,111,117,110,100]
     · subst h4;decide
     ·
      by_cases h5:bs=[102,97,105,114]
      · subst h5;decide
      ·
       have h0:kindOf bs=0:=by simp [kindOf,h1,h2,h3,h4,h5]
       rw [h0]
       refine ⟨?_,?_,?_,?_,?_⟩
       · simpa using h1
       · simpa using h2
       · simpa using h3
       · simpa using h4
       · simpa using h5
 obtain ⟨k1,k2,k3,k4,k5⟩:=key s.toList
 exact ⟨k1,k2,k3,k4,k5,by rw [bytes_fifo];exact k1,by rw [bytes_rank];exact k2,by rw [bytes_due];exact k3,by rw [bytes_round];exact k4,by rw [bytes_fair];exact k5⟩
structure BkAt (w:World) (g:Nat) (b:Bk):Prop where
 c0:w.cell? ⟨g,0,none⟩=some (.int .i64 b.most)
 c1:w.cell? ⟨g,1,none⟩=some (.int .i64 b.rate)
 c2:w.cell? ⟨g,2,none⟩=some (.int .i64 b.has)
 c3:w.cell? ⟨g,3,none⟩=some (.int .i64 b.last)
 f2:w.frozen? ⟨g,2,none⟩=false
 f3:w.frozen? ⟨g,3,none⟩=false
theorem BkAt.lt {w:World} {g:Nat} {b:Bk} (h:BkAt w g b):g < w.heap.size:=cell_lt h.c0
theorem BkAt.but {S:Nat → Prop} {w w':World} {g:Nat} {b:Bk} (h:BkAt w g b) (hb:But S w w') (hs:¬ S g):BkAt w' g b:=
 have l:=h.lt
 ⟨by rw [hb.cell (p:=⟨g,0,none⟩) l hs];exact h.c0,by rw [hb.cell (p:=⟨g,1,none⟩) l hs];exact h.c1,by rw [hb.cell (p:=⟨g,2,none⟩) l hs];exact h.c2,by rw [hb.cell (p:=⟨g,3,none⟩) l hs];exact h.c3,
  by rw [hb.frozen (p:=⟨g,2,none⟩) l hs];exact h.f2,by rw [hb.frozen (p:=⟨g,3,none⟩) l hs];exact h.f3⟩
theorem BkAt.below {w w':World} {g:Nat} {b:Bk} (h:BkAt w g b) (hb:Below w.heap.size w w'):BkAt w' g b:=h.but (S:=fun _=>False) (.ofBelow hb) id
theorem after_ok (m r h d:Int) (w:World) (h0:0 ≤ h) (h1:h ≤ 20000000) (r0:0 ≤ r * d) (r1:r * d ≤ 109951162777600000) :
  Calls Tryz.prog 242 #[.agg #[.int .i64 m,.int .i64 r],.int .i64 h,.int .i64 d] w fun e w'=>e=.returned (.int .i64 (min m (h+r * d))) ∧ w'=w.alloc (.cells #[.int .i64 m,.int .i64 r] 290):=by
 go_enter Tryz.func242,Tryz.ntmps242
 go_wp2
 all_goals
  go_ret
  exact ⟨congrArg (fun z=>Ending.returned (.int .i64 z)) (by omega),rfl⟩
theorem hasAt_core (g:Nat) (m r h l t v:Int) (w:World) (c0:w.cell? ⟨g,0,none⟩=some (.int .i64 m)) (c1:w.cell? ⟨g,1,none⟩=some (.int .i64 r)) (c2:w.cell? ⟨g,2,none⟩=some (.int .i64 h)) (c3:w.cell? ⟨g,3,none⟩=some (.int .i64 l)) (l0:0 ≤ l) (ht:l ≤ t) (t1:t ≤ 1099511627776)
  (H:Hid (∀ w':World,Calls Tryz.prog 242 #[.agg #[.int .i64 m,.int .i64 r],.int .i64 h,.int .i64 (t - l)] w' fun e w''=>e=.returned (.int .i64 v) ∧ w''=w'.alloc (.cells #[.int .i64 m,.int .i64 r] 290))) :
  Calls Tryz.prog 230 #[.pointer (some ⟨g,0,none⟩),.int .i64 t] w fun e w'=>e=.returned (.int .i64 v) ∧ Below w.heap.size w w':=by
 have hw:IntKind.i64.wrap (t - l)=t - l:=IntWalk.i64_in _ (by omega)
 go_enter Tryz.func230,Tryz.ntmps230
 go_wp2_with fail
 go_region_with (first
  | (go_simp;go_at_call 242;go_must (refine (H.out _).mono ?_;rintro e w1 ⟨rfl,rfl⟩))
  | fail)
 all_goals
  go_wp2_with fail
  go_ret
  exact ⟨rfl,(Below.refl _ _).drew.alloc (Nat.le_refl _) _⟩
theorem hasAt_ok (g:Nat) (b:Bk) (t:Int) (w:World) (hb:BkAt w g b) (hk:b.Ok) (ht:b.last ≤ t) (t1:t ≤ 1099511627776) :
  Calls Tryz.prog 230 #[.pointer (some ⟨g,0,none⟩),.int .i64 t] w fun e w'=>e=.returned (.int .i64 (b.lev t)) ∧ Below w.heap.size w w':=by
 obtain ⟨r0,r1⟩:=hk.grow ht t1
 exact hasAt_core g b.most b.rate b.has b.last t (b.lev t) w hb.c0 hb.c1 hb.c2 hb.c3 hk.l0 ht t1 (fun w'=>after_ok b.most b.rate b.has (t - b.last) w' hk.h0 (by have:=hk.h1;have:=hk.m1;omega) r0 r1)
structure Errs4 (w:World) (ad:Nat → Addr):Prop where
 c1:w.cell? ⟨0,0,none⟩=some (.iface 312 (.pointer (some (ad 1))))
 c2:w.cell? ⟨2,0,none⟩=some (.iface 312 (.pointer (some (ad 2))))
 c3:w.cell? ⟨3,0,none⟩=some (.iface 312 (.pointer (some (ad 3))))
 c4:w.cell? ⟨4,0,none⟩=some (.iface 312 (.pointer (some (ad 4))))
theorem Errs4.below {w w':World} {ad:Nat → Addr} (h:Errs4 w ad) (hb:Below w.heap.size w w'):Errs4 w' ad:=
 ⟨cell_later hb h.c1,cell_later hb h.c2,cell_later hb h.c3,cell_later hb h.c4⟩
theorem checkTick_any (g:Nat) (l t:Int) (w:World) (ad:Nat → Addr) (he:Errs4 w ad) (c3:w.cell? ⟨g,3,none⟩=some (.int .i64 l)) :
  Calls Tryz.prog 241 #[.pointer (some ⟨g,0,none⟩),.int .i64 t] w fun e w'=>e=.returned (sentOf ad (tickErr l t)) ∧ w'=w:=by
 have e1:=he.c1
 have e4:=he.c4
 clear he
 by_cases h0:0 ≤ t ∧ t ≤ 1099511627776
 ·
  have hd:decide (0 ≤ t ∧ t ≤ 1099511627776)=true:=by simpa using h0
  have HT:Hid (Calls Tryz.prog 155 #[.int .i64 t] w fun e w'=>e=.returned (.bool true) ∧ w'=w):=by
   have:=isTick_any t w
   rw [hd] at this
   exact this
  clear hd
  by_cases h1:t < l
  ·
   have hs:tickErr l t=5:=by unfold tickErr;rw [if_pos h0,if_pos h1]
   rw [hs]
   show Calls _ _ _ _ fun e w'=>e=.returned (.iface 312 (.pointer (some (ad 4)))) ∧ w'=w
   clear h0 hs
   go_enter Tryz.func241,Tryz.ntmps241
   go_wp2_with (go_at_call 155;refine HT.out.mono ?_;rintro e w1 ⟨rfl,rfl⟩)
   go_ret
   exact ⟨rfl,rfl⟩
  ·
   have hs:tickErr l t=0:=by unfold tickErr;rw [if_pos h0,if_neg h1]
   rw [hs]
   show Calls _ _ _ _ fun e w'=>e=.returned .nilIface ∧ w'=w
   clear h0 hs
   go_enter Tryz.func241,Tryz.ntmps241
   go_wp2_with (go_at_call 155;refine HT.out.mono ?_;rintro e w1 ⟨rfl,rfl⟩)
   go_ret
   exact ⟨rfl,rfl⟩
 ·
  have hd:decide (0 ≤ t ∧ t ≤ 1099511627776)=false:=by simpa using h0
  have HT:Hid (Calls Tryz.prog 155 #[.int .i64 t] w fun e w'=>e=.returned (.bool false) ∧ w'=w):=by
   have:=isTick_any t w
   rw [hd] at this
   exact this
  have hs:tickErr l t=2:=by unfold tickErr;rw [if_neg h0]
  rw [hs]
  show Calls _ _ _ _ fun e w'=>e=.returned (.iface 312 (.pointer (some (ad 1)))) ∧ w'=w
  clear h0 hs hd
  go_enter Tryz.func241,Tryz.ntmps241
  go_wp2_with (go_at_call 155;refine HT.out.mono ?_;rintro e w1 ⟨rfl,rfl⟩)
  go_ret
  exact ⟨rfl,rfl⟩
theorem checkTake_any (g:Nat) (l t n:Int) (w:World) (ad:Nat → Addr) (he:Errs4 w ad) (c3:w.cell? ⟨g,3,none⟩=some (.int .i64 l)) :
  Calls Tryz.prog 228 #[.pointer (some ⟨g,0,none⟩),.int .i64 t,.int .i64 n] w fun e w'=>e=.returned (sentOf ad (askErr l t n)) ∧ w'=w:=by
 have e1:=he.c1
 have HC:Hid (Calls Tryz.prog 241 #[.pointer (some ⟨g,0,none⟩),.int .i64 t] w fun e w'=>e=.returned (sentOf ad (tickErr l t)) ∧ w'=w):=checkTick_any g l t w ad he c3
 clear he c3
 by_cases h0:1 ≤ n ∧ n ≤ 1500
 ·
  have hd:decide (1 ≤ n ∧ n ≤ 1500)=true:=by simpa using h0
  have HT:Hid (Calls Tryz.prog 154 #[.int .i64 n] w fun e w'=>e=.returned (.bool true) ∧ w'=w):=by
   have:=isSize_any n w
   rw [hd] at this
   exact this
  have hs:askErr l t n=tickErr l t:=by unfold askErr;rw [if_pos h0]
  rw [hs]
  clear hd hs h0
  generalize sentOf ad (tickErr l t)=E at *
  go_enter Tryz.func228,Tryz.ntmps228
  go_wp2_with (first
   | (go_at_call 154;refine HT.out.mono ?_;rintro e w1 ⟨rfl,rfl⟩)
   | (go_at_call 241;refine HC.out.mono ?_;rintro e w1 ⟨rfl,rfl⟩))
  go_ret
  exact ⟨rfl,rfl⟩
 ·
  have hd:decide (1 ≤ n ∧ n ≤ 1500)=false:=by simpa using h0
  have HT:Hid (Calls Tryz.prog 154 #[.int .i64 n] w fun e w'=>e=.returned (.bool false) ∧ w'=w):=by
   have:=isSize_any n w
   rw [hd] at this
   exact this
  have hs:askErr l t n=2:=by unfold askErr;rw [if_neg h0]
  rw [hs]
  show Calls _ _ _ _ fun e w'=>e=.returned (.iface 312 (.pointer (some (ad 1)))) ∧ w'=w
  clear hd hs h0 HC
  go_enter Tryz.func228,Tryz.ntmps228
  go_wp2_with (go_at_call 154;refine HT.out.mono ?_;rintro e w1 ⟨rfl,rfl⟩)
  go_ret
  exact ⟨rfl,rfl⟩
theorem until_have (m r h n:Int) (w:World) (hn:n ≤ h) :
  Calls Tryz.prog 229 #[.agg #[.int .i64 m,.int .i64 r],.int .i64 h,.int .i64 n] w fun e w'=>e=.returned (.tuple #[.int .i64 0,.bool true]) ∧ w'=w.alloc (.cells #[.int .i64 m,.int .i64 r] 290):=by
 go_enter Tryz.func229,Tryz.ntmps229
 go_wp2
 go_ret2
 exact ⟨rfl,rfl⟩
theorem until_none (m r h n:Int) (w:World) (hn:h < n) (hz:m < n ∨ r=0) :
  Calls Tryz.prog 229 #[.agg #[.int .i64 m,.int .i64 r],.int .i64 h,.int .i64 n] w fun e w'=>e=.returned (.tuple #[.int .i64 0,.bool false]) ∧ w'=w.alloc (.cells #[.int .i64 m,.int .i64 r] 290):=by
 have hn':¬ n ≤ h:=by omega
 by_cases h1:m < n
 ·
  clear hz
  go_enter Tryz.func229,Tryz.ntmps229
  go_wp2
  go_ret2
  exact ⟨rfl,rfl⟩
 ·
  obtain rfl:r=0:=by omega
  clear hz
  go_enter Tryz.func229,Tryz.ntmps229
  go_wp2
  go_ret2
  exact ⟨rfl,rfl⟩
theorem until_some (m r h n:Int) (w:World) (hn:h < n) (hm:n ≤ m) (hr:0 < r) (r1:r ≤ 100000) (h0:0 ≤ h) (m1:m ≤ 20000000) :
  Calls Tryz.prog 229 #[.agg #[.int .i64 m,.int .i64 r],.int .i64 h,.int .i64 n] w fun e w'=>e=.returned (.tuple #[.int .i64 ((n - h+r - 1) / r),.bool true]) ∧ w'=w.alloc (.cells #[.int .i64 m,.int .i64 r] 290):=by
 have hn':¬ n ≤ h:=by omega
 have hm':¬ m < n:=by omega
 have hr':¬ r=0:=by omega
 have hr2:(r == 0)=false:=by simpa using hr'
 go_enter Tryz.func229,Tryz.ntmps229
 go_wp2
 go_ret2
 exact ⟨rfl,rfl⟩
end Go.Proofs.YtipdclphpkgceaaGreatDoor
