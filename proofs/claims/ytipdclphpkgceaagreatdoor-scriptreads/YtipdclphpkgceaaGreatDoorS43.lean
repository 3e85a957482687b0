/- Own facts, put together: no statement of its own. -/
import Derived.Test.YtipdclphpkgceaaGreatDoorS42
import Derived.Deep.AppendLies
set_option maxHeartbeats 4000000
set_option maxRecDepth 100000

namespace Go.Proofs.YtipdclphpkgceaaGreatDoor
open Go.RowKit
def hpk:Pk:=⟨0,3,5⟩
def hs1:Scr:=⟨bare8,fifoW,2,[],[]⟩
def hs2:Scr:=⟨bare8,fifoW,2,[],[hpk]⟩
def hl0:List UInt8:=[108,105,110,107,32,102,105,102,111,32,50]
def hl1:List UInt8:=[112,97,99,107,101,116,32,48,32,51,32,53]
theorem curves_bare:CurvesTo bare8 8:=fun _ _ _ h=>.inl (List.eq_of_mem_replicate (List.mem_of_getElem? h))
theorem hpk_ok:OkPks [hpk]:=⟨by decide,fun i p h=>by
 match i,h with
 | 0,h=>cases h;exact ⟨rfl,by decide⟩
 | i+1,h=>simp at h⟩
theorem hsay0:Says firstScr hl0 okText hs1:=by
 refine ⟨0,okText,hs1,.inl ?_,.inl ⟨rfl,rfl,rfl⟩⟩
 rw [cut_blank,show cutW hl0=(linkW,[102,105,102,111,32,50],true) by decide]
 refine ⟨rfl,.inr (.inl ⟨rfl,.inr ⟨fifoW,[50],by rw [split_blank];decide,.inr ⟨2,by decide,by simp [hs1,firstScr,firstNs],0,-1,?_,.inr ⟨by decide,rfl⟩⟩⟩,fun _=>rfl⟩)⟩
 rw [show firstNs fifoW=[] by simp [firstNs]]
 exact .inr (.inr ⟨rfl,curves_bare,rfl,.inr ⟨by decide,by decide,.inr ⟨by decide,by decide,0,.inl ⟨rfl,.inr ⟨rfl,rfl⟩⟩,rfl⟩⟩⟩)
theorem hsay1:Says hs1 hl1 okText hs2:=by
 refine ⟨0,okText,hs2,.inl ?_,.inl ⟨rfl,rfl,rfl⟩⟩
 rw [cut_blank,show cutW hl1=(packetW,[48,32,51,32,53],true) by decide]
 exact ⟨rfl,.inr (.inr (.inr (.inl ⟨rfl,.inr ⟨[48],[51],[53],by rw [split_blank];decide,.inr ⟨0,by decide,.inr ⟨3,5,-1,by decide,rfl,.inr (.inr ⟨hpk_ok,rfl,rfl⟩)⟩⟩⟩,fun _=>rfl⟩)))⟩
theorem hrun_zero {c p:Int} (h:RunIs hs2.cs (kindOf hs2.kb) hs2.per hs2.ns hs2.ps c p):c=0:=by
 have e1:kindOf hs2.kb=1:=rfl
 rw [e1] at h
 rcases h with ⟨h,hc⟩ | ⟨-,h,hc⟩ | ⟨-,-,i,h,-⟩ | ⟨-,-,-,h,-⟩
 ·
  rcases h with ⟨h,-⟩ | ⟨-,i,⟨ls,q,h1,h2,-⟩,-⟩ | ⟨-,-,-,⟨h,-⟩ | ⟨-,-,⟨h,-⟩ | ⟨-,-,d,hd,hcd⟩⟩⟩
  · exact absurd rfl h
  · exact absurd (List.eq_of_mem_replicate (List.mem_of_getElem? h1)) h2
  · cases h
  · exact absurd (by decide) h
  ·
   rcases hd with ⟨-,⟨-,h⟩ | ⟨h,-⟩⟩ | ⟨h,-⟩ | ⟨h,-⟩ | ⟨h,-⟩ | ⟨h,-⟩
   · exact absurd rfl h
   · omega
   · cases h
   · cases h
   · cases h
   · cases h
 ·
  rcases h with ⟨h,-⟩ | ⟨-,j,q,k,h1,-,hb,-⟩ | ⟨-,h,-⟩
  · exact absurd h (by decide)
  ·
   have h1':([hpk]:List Pk)[j]? = some q:=h1
   match j,h1',hb with
   | 0,h1',hb=>
    cases h1'
    rcases hb with ⟨h,-⟩ | ⟨-,h,-⟩
    · exact absurd h (by decide)
    · exact absurd h (by decide)
   | j+1,h1',_=>simp at h1'
  · exact h
 · exact absurd h (never_bare [hpk] i)
 · exact h
theorem hrun_sent {qs:List Pk} {l:List Sn} (h:GateRun (curveFl hs2.cs) (kindOf hs2.kb) hs2.per hs2.ns hs2.ps qs l):qs=[hpk] ∧ l=[⟨0,5,11⟩]:=by
 have h':GateRun (curveFl bare8) 1 2 [] [hpk] qs l:=h
 obtain ⟨rfl,h5⟩:=run_bare hpk_ok h'
 refine ⟨rfl,?_⟩
 rcases h5 with ⟨-,rfl⟩ | ⟨e,-⟩ | ⟨e,-⟩ | ⟨e,-⟩ | ⟨e,-⟩
 · rfl
 · cases e
 · cases e
 · cases e
 · cases e
theorem itoa_0:Go.Lib.itoa 0=[48]:=by unfold Go.Lib.itoa;rw [if_neg (by decide),Go.Lib.decDigits,dif_pos (by decide)];rfl
theorem itoa_5:Go.Lib.itoa 5=[53]:=by unfold Go.Lib.itoa;rw [if_neg (by decide),Go.Lib.decDigits,dif_pos (by decide)];rfl
theorem itoa_6:Go.Lib.itoa 6=[54]:=by unfold Go.Lib.itoa;rw [if_neg (by decide),Go.Lib.decDigits,dif_pos (by decide)];rfl
theorem itoa_11:Go.Lib.itoa 11=[49,49]:=by
 unfold Go.Lib.itoa
 rw [if_neg (by decide),Go.Lib.decDigits,dif_neg (by decide),Go.Lib.decDigits,dif_pos (by decide)]
 rfl
theorem hsay2 {out:List UInt8} {s':Scr} (h:Says hs2 runW out s'):out=[48,58,53,45,49,49] ∧ s'=hs2:=by
 obtain ⟨c,o,s1,hob,hc⟩:=h
 unfold Obeys at hob
 rw [cut_blank,show cutW runW=(runW,[],false) by decide] at hob
 rcases hob with ⟨h,-⟩ | ⟨-,h⟩
 · cases h
 ·
  rcases h with ⟨h,-⟩ | ⟨-,rfl,l,⟨p,hr,hq⟩,hco⟩ | ⟨h,-⟩ | ⟨h,-⟩ | ⟨-,h,-⟩
  · exact absurd h (by decide)
  ·
   have h0:=hrun_zero hr
   obtain ⟨qs,hq⟩:=hq h0
   obtain ⟨-,rfl⟩:=hrun_sent hq
   rcases hc with ⟨-,rfl,rfl⟩ | ⟨h,-⟩
   ·
    rw [hco h0]
    refine ⟨?_,rfl⟩
    simp [sentText,Go.Lib.join_one,sentW,itoa_0,itoa_5,itoa_11]
   · omega
  · exact absurd h (by decide)
  · exact absurd h (by decide)
  · exact absurd rfl h
theorem hsay3 {out:List UInt8} {s':Scr} (h:Says hs2 worstW out s'):out=[54] ∧ s'=hs2:=by
 obtain ⟨c,o,s1,hob,hc⟩:=h
 unfold Obeys at hob
 rw [cut_blank,show cutW worstW=(worstW,[],false) by decide] at hob
 rcases hob with ⟨h,-⟩ | ⟨-,h⟩
 · cases h
 ·
  rcases h with ⟨h,-⟩ | ⟨h,-⟩ | ⟨h,-⟩ | ⟨-,rfl,n,⟨p,hr,hq⟩,hco⟩ | ⟨-,-,-,h,-⟩
  · exact absurd h (by decide)
  · exact absurd h (by decide)
  · exact absurd h (by decide)
  ·
   have h0:=hrun_zero hr
   obtain ⟨qs,l,hq2,rfl⟩:=hq h0
   obtain ⟨rfl,rfl⟩:=hrun_sent hq2
   rcases hc with ⟨-,rfl,rfl⟩ | ⟨h,-⟩
   ·
    rw [hco h0]
    exact ⟨itoa_6,rfl⟩
   · omega
  · exact absurd rfl h
theorem hsay4 {out:List UInt8} {s':Scr} (h:Says hs2 boundW out s'):out=errText 4 ∧ s'=hs2:=by
 obtain ⟨c,o,s1,hob,hc⟩:=h
 unfold Obeys at hob
 rw [cut_blank,show cutW boundW=(boundW,[],false) by decide] at hob
 rcases hob with ⟨h,-⟩ | ⟨-,h⟩
 · cases h
 ·
  rcases h with ⟨h,-⟩ | ⟨h,-⟩ | ⟨-,rfl,n,⟨o',hb,ho⟩,hco⟩ | ⟨h,-⟩ | ⟨-,-,h,-⟩
  · exact absurd h (by decide)
  · exact absurd h (by decide)
  ·
   have hn:o'=none:=by
    rcases hb with ⟨-,h⟩ | ⟨L,hL,-⟩
    · exact h
    · exact absurd rfl hL.1
   subst hn
   rcases ho with ⟨-,h4⟩ | ⟨h,-⟩
   ·
    subst h4
    rcases hc with ⟨h,-⟩ | ⟨-,h1,h2⟩
    · cases h
    · exact ⟨h1,h2⟩
   · cases h
  · exact absurd h (by decide)
  · exact absurd rfl h
def hlines:List (List UInt8):=[hl0,hl1,runW,worstW,boundW]
def houts:List (List UInt8):=[okText,okText,[48,58,53,45,49,49],[54],errText 4]
def hstate:Nat → Scr
 | 0=>firstScr
 | 1=>hs1
 | _=>hs2
theorem liesW_new (w:World) (xs:List (List UInt8)) (t:TypeId):LiesW (w.alloc (.cells ((xs.map strW).toArray) t)) (some ⟨w.heap.size,0,none⟩) xs:=by
 refine .inr ⟨w.heap.size,0,rfl,by simp,fun i x hi=>?_⟩
 rw [World.cell?_alloc_at _ _ _ _ rfl,Nat.zero_add,List.getElem?_toArray,List.getElem?_map,hi]
 rfl
theorem hello_run (w:World) (ad:Nat → Addr) (he:Env w ad) (a:Option Addr) (hl:LiesW w a hlines) :
  Calls Tryz.prog 7 #[.slice a 5 5] w fun e w'=>∃ O,e=.returned (.tuple #[.slice (some ⟨O,0,none⟩) 5 5,.nilIface]) ∧ LiesW w' (some ⟨O,0,none⟩) houts ∧ Below w.heap.size w w':=by
 have:=scriptRun_is a 5 hlines w ad he hl (by decide) (by decide) (fun i o=>houts[i]? = some o) (fun i s=>s=hstate i) rfl (fun i x s hi hg ho hex=>by
  subst hg
  match i,hi,hex with
  | 0,hi,_=>cases hi;exact ⟨_,_,hsay0,rfl,rfl⟩
  | 1,hi,_=>cases hi;exact ⟨_,_,hsay1,rfl,rfl⟩
  | 2,hi,hex=>
   cases hi
   obtain ⟨out,s',h⟩:=hex
   obtain ⟨rfl,rfl⟩:=hsay2 h
   exact ⟨_,_,h,rfl,rfl⟩
  | 3,hi,hex=>
   cases hi
   obtain ⟨out,s',h⟩:=hex
   obtain ⟨rfl,rfl⟩:=hsay3 h
   exact ⟨_,_,h,rfl,rfl⟩
  | 4,hi,hex=>
   cases hi
   obtain ⟨out,s',h⟩:=hex
   obtain ⟨rfl,rfl⟩:=hsay4 h
   exact ⟨_,_,h,rfl,rfl⟩
  | i+5,hi,_=>simp [hlines] at hi)
 refine this.mono ?_
 rintro e w' ⟨O,outs,s',rfl,h1,h2,-,h4,h5⟩
 have hlen:=saysAll_length h4
 have eo:outs=houts:=by
  apply List.ext_getElem?
  intro i
  rcases Nat.lt_or_ge i 5 with hi | hi
  ·
   obtain ⟨o,ho,-⟩:=get_some outs i (by rw [hlen];exact hi)
   rw [ho]
   exact (h2 i o ho).symm
  · rw [List.getElem?_eq_none (by rw [hlen];exact hi),List.getElem?_eq_none (by exact hi)]
 subst eo
 exact ⟨O,rfl,h1,h5⟩
theorem hello_is (w:World) (ad:Nat → Addr) (he:Env w ad):Calls Tryz.prog 6 #[] w fun e w'=>e=.returned (.bool true) ∧ Below w.heap.size w w':=by
 have hb1:Below w.heap.size w (w.alloc (.cells ((hlines.map strW).toArray) 9)):=(Below.refl _ _).alloc (Nat.le_refl _) _
 have HR:Hid (Calls Tryz.prog 7 #[.slice (some ⟨w.heap.size,0,none⟩) 5 5] (w.alloc (.cells ((hlines.map strW).toArray) 9)) fun e w'=>∃ O,e=.returned (.tuple #[.slice (some ⟨O,0,none⟩) 5 5,.nilIface]) ∧ LiesW w' (some ⟨O,0,none⟩) houts ∧ Below (w.alloc (.cells ((hlines.map strW).toArray) 9)).heap.size (w.alloc (.cells ((hlines.map strW).toArray) 9)) w'):=hello_run _ ad (he.below hb1) _ (liesW_new w hlines 9)
 have HB1:Hid (Below w.heap.size w (w.alloc (.cells ((hlines.map strW).toArray) 9))):=hb1
 clear he hb1
 go_enter Tryz.func6,Tryz.ntmps6
 go_wp2_with fail
 refine HR.out.mono ?_
 rintro e w1 ⟨O,rfl,h1,h2⟩
 have hb2:Below w.heap.size w w1:=HB1.out.trans (h2.mono HB1.out.size)
 have HSm:Hid (Calls Tryz.prog 11 #[.slice (some ⟨O,0,none⟩) 5 5,.slice (some ⟨w1.heap.size,0,none⟩) 5 5] (w1.alloc (.cells ((houts.map strW).toArray) 9)) fun e w'=>e=.returned (.bool true) ∧ Below (w1.alloc (.cells ((houts.map strW).toArray) 9)).heap.size (w1.alloc (.cells ((houts.map strW).toArray) 9)) w'):=sameTexts_yes (some ⟨O,0,none⟩) (some ⟨w1.heap.size,0,none⟩) 5 5 houts _ (h1.below ((Below.refl _ _).alloc (Nat.le_refl _) _)) (liesW_new w1 houts 9) (by decide)
 have HB2:Hid (Below w.heap.size w (w1.alloc (.cells ((houts.map strW).toArray) 9))):=hb2.alloc hb2.size _
 clear h1 h2 hb2 HR HB1
 go_wp2_with fail
 refine HSm.out.mono ?_
 rintro e w2 ⟨rfl,h3⟩
 have HB3:Hid (Below w.heap.size w w2):=HB2.out.trans (h3.mono HB2.out.size)
 clear h3
 go_wp2_with fail
 go_ret
 exact ⟨rfl,HB3.out⟩
def OwnW (w:World) (B:Nat) (v:Value) (xs:List (List UInt8)):Prop:=w.ownsRow B 9 1 v xs.length (xs.map strW)
theorem ownW_nil (w:World) (B:Nat):OwnW w B (.slice none 0 0) []:=World.ownsRow_nil _ _ _ _
theorem OwnW.value {w:World} {B:Nat} {v:Value} {xs:List (List UInt8)} (h:OwnW w B v xs):∃ a cap,v=.slice a xs.length cap ∧ LiesW w a xs ∧ xs.length ≤ cap:=by
 have h':=h
 obtain ⟨-,⟨rfl,h0⟩ | ⟨b,cap,cur,rfl,hB,hg,hc,hm,hcs,ht⟩⟩:=h'
 · exact ⟨none,0,by rw [h0],.inl (List.length_eq_zero_iff.1 h0),by omega⟩
 ·
  refine ⟨_,cap,rfl,.inr ⟨b,0,rfl,?_,fun i x hi=>?_⟩,hc⟩
  ·
   rcases Nat.lt_or_ge b w.heap.size with h' | h'
   · exact h'
   · rw [Array.getElem?_eq_none h'] at hg;cases hg
  ·
   have hil:=lt_of_get hi
   rw [Nat.zero_add,World.ownsRow.cellAt h i (by omega),List.getElem?_map,hi]
   rfl
theorem OwnW.below {w w':World} {B:Nat} {v:Value} {xs:List (List UInt8)} (h:OwnW w B v xs) (hb:Below w.heap.size w w'):OwnW w' B v xs:=ownsRow_of_block h fun g _ hg=>hb.block g hg
def TextOn (w:World) (B:Nat) (v:Value) (xs:List (List UInt8)) (x:List UInt8) (g cap:Nat) (w':World):Prop:=
 OwnW w' B (.slice (some ⟨g,0,none⟩) (xs.length+1) cap) (xs ++ [x]) ∧ But (fun k=>v.ownBlock=some k) w w' ∧ (v.ownBlock=some g ∨ w.heap.size ≤ g) ∧ g < w'.heap.size
theorem append_text (w:World) (B:Nat) (v:Value) (xs:List (List UInt8)) (x:List UInt8) (h:OwnW w B v xs) (hB:B ≤ w.heap.size) (hn:xs.length ≤ 1000) (ad:Addr) (c:Nat) (hx:w.cell? ad=some (strW x)) :
  ∃ g cap w',(Builtin.append_ #[22,22] 22 #[v,.slice (some ad) 1 c]).run Tryz.prog w=.ok (.slice (some ⟨g,0,none⟩) (xs.length+1) cap) w' ∧ TextOn w B v xs x g cap w':=by
 obtain ⟨i0,hi,hz0,hz1,hz2⟩:=info_parts Tryz.infoStr
 obtain ⟨g,cap,w',hrun,r1,r2,r3,r4⟩:=run_append_lies (P:=Tryz.prog) w 22 22 B 9 i0 _ 1 16 Tryz.underlying22 hi hz0 hz1 hz2 rfl (by decide) v xs.length (xs.map strW) h ad 1 c [strW x] rfl (fun j u hu=>by
  have hj:=lt_of_get hu
  obtain rfl:j=0:=by simpa using hj
  obtain rfl:u=strW x:=by simpa using hu.symm
  have e0:ad.add 0=ad:=by cases ad;simp [Addr.add]
  rw [e0,hx]) (by simp [Value.oneCell']) (by decide) (by unfold maxLen;omega) (by omega) hB _ rfl
 refine ⟨g,cap,w',hrun,?_,⟨r2.os,r2.tape,r2.output,r2.size,fun k hk hs=>r2.block k hk (fun e=>hs e.symm)⟩,?_,r4⟩
 ·
  unfold OwnW
  rw [List.length_append,List.map_append]
  exact r1
 ·
  rcases r3 with r3 | r3
  · exact .inl r3
  · exact .inr (by rw [r3];exact Nat.le_refl _)
theorem wpList_append_text (w:World) {ops:Array Oper} {rest:List Oper} {o:Oper} {a:Act} {Q:Exit → Act → World → Prop} (hgd:o.guard=none) (hty:o.type=22) (s x:Operand)
  (ho:o.op=.call { callee:=.builtin .append,args:=#[s,x],argTypes:=#[22,22] })
  (B:Nat) (v:Value) (xs:List (List UInt8)) (y:List UInt8) (hs:a.eval s=v) (h:OwnW w B v xs) (hB:B ≤ w.heap.size) (hn:xs.length ≤ 1000) (ad:Addr) (c:Nat) (hx:a.eval x=.slice (some ad) 1 c) (hy:w.cell? ad=some (strW y))
  (hK:∀ g cap w',TextOn w B v xs y g cap w' → wpList Tryz.prog ops Q rest (a.put o.dst (.slice (some ⟨g,0,none⟩) (xs.length+1) cap)) w'):wpList Tryz.prog ops Q (o :: rest) a w:=by
 refine wpList_plain hgd fun K hK'=>?_
 obtain ⟨g,cap,w',hrun,g1⟩:=append_text w B v xs y h hB hn ad c hy
 unfold Oper.wp
 simp [execOp,ho,hty,resolve,invoke,builtin,hs,hx,hrun,Result.andThen]
 exact hK' _ _ (hK g cap w' g1)
def cmdW (nm:List UInt8):Prop:=nm=curveW ∨ nm=linkW ∨ nm=numbersW ∨ nm=packetW ∨ nm=atW ∨ nm=clearW ∨ nm=runW ∨ nm=worstW ∨ nm=boundW
theorem decDigits_ne (u:Nat):Go.Lib.decDigits u ≠ []:=by
 rw [Go.Lib.decDigits]
 split <;> simp
theorem itoa_ne (n:Int):Go.Lib.itoa n ≠ []:=by
 unfold Go.Lib.itoa
 split
 · simp
 · exact decDigits_ne _
theorem sentText_ne (l:List Sn):sentText l ≠ []:=by
 unfold sentText
 split
 · decide
 ·
  cases l with
  | nil=>contradiction
  | cons x r=>
   rw [List.map_cons,Go.Lib.join_cons]
   have:=itoa_ne x.num
   simp [sentW,this]
theorem errText_ne (c:Int):errText c ≠ []:=by simp [errText]
theorem says_least {s s':Scr} {x out:List UInt8} (h:Says s x out s'):out ≠ [] ∧ (¬ cmdW (cutW x).1 → out=errText 1):=by
 obtain ⟨c,o,s1,hob,hc⟩:=h
 unfold Obeys at hob
 rw [cut_blank] at hob
 have key:(c=0 → o ≠ []) ∧ (¬ cmdW (cutW x).1 → c=1):=by
  rcases hob with ⟨-,h⟩ | ⟨-,h⟩
  ·
   rcases h with ⟨hn,-,ho⟩ | ⟨hn,-,ho⟩ | ⟨hn,-,ho⟩ | ⟨hn,-,ho⟩ | ⟨hn,-,n,-,ho⟩ | ⟨-,-,-,-,-,hc1,-⟩
   · exact ⟨fun h0=>by rw [ho h0];decide,fun hno=>absurd (.inl hn) hno⟩
   · exact ⟨fun h0=>by rw [ho h0];decide,fun hno=>absurd (.inr (.inl hn)) hno⟩
   · exact ⟨fun h0=>by rw [ho h0];decide,fun hno=>absurd (.inr (.inr (.inl hn))) hno⟩
   · exact ⟨fun h0=>by rw [ho h0];decide,fun hno=>absurd (.inr (.inr (.inr (.inl hn)))) hno⟩
   · exact ⟨fun h0=>by rw [ho h0];exact itoa_ne n,fun hno=>absurd (.inr (.inr (.inr (.inr (.inl hn))))) hno⟩
   · exact ⟨fun h0=>by omega,fun _=>hc1⟩
  ·
   rcases h with ⟨hn,-,ho,-⟩ | ⟨hn,-,l,-,ho⟩ | ⟨hn,-,n,-,ho⟩ | ⟨hn,-,n,-,ho⟩ | ⟨-,-,-,-,hc1,-⟩
   · exact ⟨fun _=>by rw [ho];decide,fun hno=>absurd (.inr (.inr (.inr (.inr (.inr (.inl hn)))))) hno⟩
   · exact ⟨fun h0=>by rw [ho h0];exact sentText_ne l,fun hno=>absurd (.inr (.inr (.inr (.inr (.inr (.inr (.inl hn))))))) hno⟩
   · exact ⟨fun h0=>by rw [ho h0];exact itoa_ne n,fun hno=>absurd (.inr (.inr (.inr (.inr (.inr (.inr (.inr (.inr hn)))))))) hno⟩
   · exact ⟨fun h0=>by rw [ho h0];exact itoa_ne n,fun hno=>absurd (.inr (.inr (.inr (.inr (.inr (.inr (.inr (.inl hn)))))))) hno⟩
   · exact ⟨fun h0=>by omega,fun _=>hc1⟩
 rcases hc with ⟨h0,rfl,-⟩ | ⟨h0,rfl,-⟩
 · exact ⟨key.1 h0,fun hno=>by have:=key.2 hno;omega⟩
 · exact ⟨errText_ne c,fun hno=>by rw [key.2 hno]⟩
theorem cutW_take:∀ (x:List UInt8) (j:Nat),(∀ (i:Nat) b,i < j → x[i]? = some b → b ≠ 32) → (x[j]? = some 32 ∨ j=x.length) → (cutW x).1=x.take j
 | [],j,_,h=>by simp [cutW]
 | b :: l,0,_,h=>by
  rcases h with h | h
  ·
   simp only [List.getElem?_cons_zero,Option.some.injEq] at h
   simp [cutW,h]
  · simp at h
 | b :: l,j+1,hn,h=>by
  have hb:b ≠ 32:=hn 0 b (by omega) rfl
  have ih:=cutW_take l j (fun i c hi hc=>hn (i+1) c (by omega) (by simpa using hc)) (by simpa using h)
  simp [cutW,hb,ih]
end Go.Proofs.YtipdclphpkgceaaGreatDoor
