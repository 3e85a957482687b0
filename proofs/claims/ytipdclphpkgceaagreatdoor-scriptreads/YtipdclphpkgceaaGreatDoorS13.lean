/- Own facts, put together: no statement of its own. -/
import Derived.Deep.Onto
import Derived.Laws.Rows
import Derived.Test.YtipdclphpkgceaaGreatDoorS01
import Derived.Test.YtipdclphpkgceaaGreatDoorS04
import Derived.Test.YtipdclphpkgceaaGreatDoorS12
import Derived.Test.YtipdclphpkgceaaGreatDoorS09
import Derived.Test.YtipdclphpkgceaaGreatDoorS08
import Derived.Test.YtipdclphpkgceaaGreatDoorS05
import Derived.Deep.RegionHeldLaw
import Derived.Deep.AppendLies
import Derived.Deep.LoopGhost
import Derived.Test.YtipdclphpkgceaaGreatDoorS07
set_option maxHeartbeats 1000000
set_option maxRecDepth 100000

namespace Go.Proofs.YtipdclphpkgceaaGreatDoor
open Go.RowKit
def nums (xs:List Nat):List Value:=xs.map fun (k:Nat)=>.int .i64 (k:Int)
theorem nums_length (xs:List Nat):(nums xs).length=xs.length:=by simp [nums]
theorem nums_append (a b:List Nat):nums (a ++ b)=nums a ++ nums b:=by simp [nums]
structure Slides (w:World) (B:Nat) (v:Value) (F:Nat → Prop) (xs:List Nat):Prop where
 made:∃ ao b off cap,v=.slice ao xs.length cap ∧ Came w 1 ao b off xs.length cap (nums xs) ∧ cap ≤ maxLen ∧ (0 < cap → F b)
 foot:∀ k,F k → B ≤ k ∧ k < w.heap.size
theorem Slides.nil (w:World) (B:Nat):Slides w B (.slice none 0 0) (fun _=>False) []:=
 ⟨⟨none,0,0,0,rfl,⟨Nat.le_refl _,fun h=>absurd h (Nat.lt_irrefl _),fun h=>absurd h (Nat.lt_irrefl _),rfl,fun j u h=>by simp [nums] at h,fun j h=>by simp at h⟩,Nat.zero_le _,fun h=>absurd h (Nat.lt_irrefl _)⟩,fun _ h=>h.elim⟩
theorem Slides.but {S:Nat → Prop} {w w':World} {B:Nat} {v:Value} {F:Nat → Prop} {xs:List Nat} (h:Slides w B v F xs) (hb:But S w w') (hs:∀ k,F k → ¬ S k):Slides w' B v F xs:=by
 obtain ⟨ao,b,off,cap,rfl,⟨h1,h2,h3,h4,h5,h6⟩,hm,hB⟩:=h.made
 refine ⟨⟨ao,b,off,cap,rfl,⟨h1,h2,fun h=>Nat.lt_of_lt_of_le (h3 h) hb.size,h4,fun j u hu=>?_,fun j hj=>?_⟩,hm,hB⟩,fun k hk=>⟨(h.foot k hk).1,Nat.lt_of_lt_of_le (h.foot k hk).2 hb.size⟩⟩
 ·
  have hc:0 < cap:=by
   have:=(List.getElem?_eq_some_iff.1 hu).1
   rw [nums_length] at this
   omega
  rw [hb.cell (p:=⟨b,off + j,none⟩) (h3 hc) (hs b (hB hc))]
  exact h5 j u hu
 ·
  have hc:0 < cap:=by omega
  rw [hb.cell (p:=⟨b,off + xs.length * 1 + j,none⟩) (h3 hc) (hs b (hB hc)),hb.frozen (p:=⟨b,off + xs.length * 1 + j,none⟩) (h3 hc) (hs b (hB hc))]
  exact h6 j hj
theorem Slides.form {w:World} {B:Nat} {v:Value} {F:Nat → Prop} {xs:List Nat} (h:Slides w B v F xs):∃ ao cap,v=.slice ao xs.length cap ∧ xs.length ≤ cap ∧ cap ≤ maxLen:=by
 obtain ⟨ao,b,off,cap,rfl,hc,hm,-⟩:=h.made
 exact ⟨ao,cap,rfl,hc.le,hm⟩
theorem Slides.first {w:World} {B:Nat} {v:Value} {F:Nat → Prop} {k:Nat} {xs:List Nat} (h:Slides w B v F (k :: xs)) :
  ∃ b off cap,v=.slice (some ⟨b,off,none⟩) (xs.length + 1) cap ∧ xs.length + 1 ≤ cap ∧ cap ≤ maxLen ∧ w.cell? ⟨b,off,none⟩=some (.int .i64 (k:Int)) ∧ F b ∧
   (1 < cap → Slides w B (.slice (some ⟨b,off + 1,none⟩) xs.length (cap - 1)) F xs) ∧ (cap=1 → xs=[] ∧ Slides w B (.slice (some ⟨b,off,none⟩) 0 0) F []):=by
 obtain ⟨ao,b,off,cap,rfl,⟨h1,h2,h3,h4,h5,h6⟩,hm,hB⟩:=h.made
 simp only [List.length_cons] at h1 h6
 have hc:0 < cap:=by omega
 obtain rfl:=h2 hc
 refine ⟨b,off,cap,rfl,h1,hm,by have:=h5 0 _ rfl; simpa using this,hB hc,fun h'=>⟨⟨_,b,off + 1,_,rfl,⟨by omega,fun _=>rfl,fun _=>h3 hc,by simp [nums],fun j u hu=>?_,fun j hj=>?_⟩,by omega,fun _=>hB hc⟩,h.foot⟩,fun h'=>?_⟩
 ·
  have:=h5 (j + 1) u (by simpa [nums] using hu)
  rwa [show off + (j + 1)=off + 1 + j by omega] at this
 ·
  have:=h6 j (by omega)
  rwa [show off + (xs.length + 1) * 1 + j=off + 1 + xs.length * 1 + j by omega] at this
 ·
  subst h'
  have hx:xs=[]:=List.length_eq_zero_iff.1 (by omega)
  exact ⟨hx,⟨some ⟨b,off,none⟩,b,off,0,rfl,⟨Nat.le_refl _,fun h=>absurd h (Nat.lt_irrefl _),fun h=>absurd h (Nat.lt_irrefl _),rfl,fun j u h=>by simp [nums] at h,fun j h=>by simp at h⟩,Nat.zero_le _,fun h=>absurd h (Nat.lt_irrefl _)⟩,h.foot⟩
theorem Slides.room {w:World} {B:Nat} {F:Nat → Prop} {ao:Option Addr} {b off cap:Nat} {xs:List Nat} {k:Nat} (hc:Came w 1 ao b off xs.length cap (nums xs)) (hm:cap ≤ maxLen) (hB:0 < cap → F b) (hF:∀ k,F k → B ≤ k ∧ k < w.heap.size) (hr:xs.length + 1 ≤ cap) :
  Slides (w.setCells b (off + xs.length * 1) (nums [k])) B (.slice ao (xs.length + 1) cap) F (xs ++ [k]) ∧ But F w (w.setCells b (off + xs.length * 1) (nums [k])):=by
 have hc0:0 < cap:=by omega
 have hbut:But F w (w.setCells b (off + xs.length * 1) (nums [k])):=But.setCell (S:=F) (But.refl _ w) (p:=⟨b,off + xs.length * 1,none⟩) (hB hc0) (.int .i64 (k:Int))
 refine ⟨⟨⟨ao,b,off,cap,by simp,⟨by simpa using hr,hc.addr,fun h=>Nat.lt_of_lt_of_le (hc.lt h) hbut.size,by simp [nums],fun j u hu=>?_,fun j hj=>?_⟩,hm,hB⟩,fun k hk=>⟨(hF k hk).1,Nat.lt_of_lt_of_le (hF k hk).2 hbut.size⟩⟩,hbut⟩
 ·
  rw [nums_append] at hu
  by_cases hj:j < xs.length
  ·
   rw [List.getElem?_append_left (by rw [nums_length]; exact hj)] at hu
   rw [World.cell?_setCells_out b _ _ _ _ (fun _ _=>Or.inl (by show off + j < off + xs.length * 1; omega))]
   exact hc.olds j u hu
  ·
   rw [List.getElem?_append_right (by rw [nums_length]; omega),nums_length] at hu
   have hl:=(List.getElem?_eq_some_iff.1 hu).1
   have:(nums [k]).length=1:=rfl
   have hj0:j - xs.length=0:=by omega
   rw [hj0] at hu
   have hs:=(hc.spare 0 (by omega)).1
   rw [show off + j=off + xs.length * 1 + 0 by omega]
   have h2:(w.setCells b (off + xs.length * 1) (nums [k])).cell? ⟨b,off + xs.length * 1 + 0,none⟩=some (.int .i64 (k:Int)):=World.cell?_setCell_same' w ⟨b,off + xs.length * 1,none⟩ _ hs
   rw [h2]
   exact hu
 ·
  simp only [List.length_append,List.length_cons,List.length_nil] at hj ⊢
  have hsp:=hc.spare (j + 1) (by omega)
  rw [show off + (xs.length + (0 + 1)) * 1 + j=off + xs.length * 1 + (j + 1) by omega]
  refine ⟨?_,?_⟩
  ·
   rw [World.cell?_setCells_out b _ _ _ _ (fun _ _=>Or.inr (by show off + xs.length * 1 + (nums [k]).length ≤ off + xs.length * 1 + (j + 1); have:(nums [k]).length=1:=rfl; omega))]
   exact hsp.1
  · rw [World.frozen?_setCells]; exact hsp.2
def SlidesOn (w w':World) (B:Nat) (F:Nat → Prop) (ao:Option Addr) (n cap:Nat) (xs:List Nat):Prop:=
 ∃ F',Slides w' B (.slice ao n cap) F' xs ∧ (∀ k,F' k → F k ∨ w.heap.size ≤ k) ∧ But F w w'
theorem Slides.grown {w w':World} {B e:Nat} {v':Value} {F:Nat → Prop} {k:Nat} {xs:List Nat} (hBw:B ≤ w.heap.size) (hown:w'.ownsRow w.heap.size e 1 v' (xs.length + 1) (nums xs ++ nums [k])) (hg:w.grownBy w' none) :
  ∃ ao cap,v'=.slice ao (xs.length + 1) cap ∧ SlidesOn w w' B F ao (xs.length + 1) cap (xs ++ [k]):=by
 have hbut:But F w w':=⟨hg.os,hg.tape,hg.output,hg.size,fun i hi _=>hg.block i hi (by simp)⟩
 obtain ⟨hlen,⟨_,h0⟩ | ⟨g,cap',cur,rfl,hBg,hgc,hn,hmx,hcz,ht⟩⟩:=hown
 · omega
 ·
  have hh:w'.ownsRow w.heap.size e 1 (.slice (some ⟨g,0,none⟩) (xs.length + 1) cap') (xs.length + 1) (nums xs ++ nums [k]):=⟨hlen,.inr ⟨g,cap',cur,rfl,hBg,hgc,hn,hmx,hcz,ht⟩⟩
  have hglt:g < w'.heap.size:=by
   rcases Nat.lt_or_ge g w'.heap.size with h | h
   · exact h
   · simp [Array.getElem?_eq_none h] at hgc
  refine ⟨_,_,rfl,fun i=>i=g,⟨⟨_,g,0,cap',by simp,⟨by simpa using hn,fun _=>rfl,fun _=>hglt,by simp [nums],fun j u hu=>?_,fun j hj=>?_⟩,hmx,fun _=>rfl⟩,fun i hi=>by subst hi; exact ⟨by omega,hglt⟩⟩,fun i hi=>by subst hi; exact .inr hBg,hbut⟩
  ·
   rw [nums_append] at hu
   have hl:=(List.getElem?_eq_some_iff.1 hu).1
   rw [List.length_append,nums_length] at hl
   have:(nums [k]).length=1:=rfl
   rw [Nat.zero_add,hh.cellAt _ (by omega)]
   exact hu
  ·
   simp only [List.length_append,List.length_cons,List.length_nil] at hj ⊢
   have hjc:xs.length + 1 + j < cur.size:=by omega
   rw [show 0 + (xs.length + (0 + 1)) * 1 + j=xs.length + 1 + j by omega]
   refine ⟨?_,?_⟩
   · rw [cell_of_row w' g _ cur e (0,0) hgc,Array.getElem?_eq_getElem hjc]; rfl
   · exact frozen_of_row w' g _ cur e hgc
theorem run_append_slide {P:Program} (w:World) (t ty e:TypeId) (i:TypeInfo) (z:Value) (bytes:Nat) (ht:P.underlying t=some (.slice e)) (hi:P.info? e=some i) (hz:i.zero=some z) (hsize:i.size=1) (hby:i.bytes=bytes) (hzs:z.cells.size=1)
  (B:Nat) (v:Value) (F:Nat → Prop) (k:Nat) (xs:List Nat) (h:Slides w B v F xs) (hBw:B ≤ w.heap.size) (ad:Addr) (c:Nat) (hk:w.cell? ad=some (.int .i64 (k:Int))) (h63:xs.length + 1 ≤ maxLen) (hbytes:(xs.length + 1) * bytes ≤ 140737488355328) :
  ∃ ao cap w',(Builtin.append_ #[t,t] ty #[v,.slice (some ad) 1 c]).run P w=.ok (.slice ao (xs.length + 1) cap) w' ∧ SlidesOn w w' B F ao (xs.length + 1) cap (xs ++ [k]):=by
 have hF:=h.foot
 obtain ⟨ao,b,off,cap,rfl,hc,hm,hB⟩:=h.made
 have hnews:∀ j u,(nums [k])[j]? = some u → w.cell? (ad.add j)=some u:=by
  intro j u hu
  have hl:=(List.getElem?_eq_some_iff.1 hu).1
  have:(nums [k]).length=1:=rfl
  obtain rfl:j=0:=by omega
  have e0:ad.add 0=ad:=by cases ad; simp [Addr.add]
  rw [e0,hk]
  exact hu
 have h1:∀ u ∈ nums [k],u.oneCell'=true:=by
  intro u hu
  simp [nums] at hu
  subst hu
  rfl
 have hlo:(nums xs).length=xs.length * 1:=by rw [nums_length,Nat.mul_one]
 by_cases hr:xs.length + 1 ≤ cap
 ·
  obtain rfl:=hc.addr (by omega)
  have hrun:=run_append_room_cells (P:=P) w t ty e i ht hi b off xs.length cap ad 1 c (nums [k]) (by rw [hsize]; rfl) hnews h1 hr
   (fun j hj=>by rw [hsize]; exact (hc.spare j (by have:(nums [k]).length=1:=rfl; omega)).1) (fun j hj=>by rw [hsize]; exact (hc.spare j (by have:(nums [k]).length=1:=rfl; omega)).2)
  rw [hsize] at hrun
  obtain ⟨h2,h3⟩:=Slides.room (k:=k) hc hm hB hF hr
  exact ⟨_,_,_,hrun,F,h2,fun _ h=>.inl h,h3⟩
 ·
  cases ao with
  | some a0=>
   obtain ⟨v',w',hrun,r1,r2⟩:=run_append_arg_grows (P:=P) w t ty e i z 1 bytes ht hi hz hsize hby hzs (by decide) a0 xs.length cap (nums xs) hlo (fun j u hu=>by
    have hl:=(List.getElem?_eq_some_iff.1 hu).1
    have hle:=hc.le
    have ha:=hc.addr (by omega)
    cases ha
    rw [Addr.add_lit]
    exact hc.olds j u hu) ad 1 c (nums [k]) rfl hnews (by omega) h63 hbytes
   obtain ⟨ao',cap',rfl,g1⟩:=Slides.grown (F:=F) hBw r1 r2
   exact ⟨_,_,w',hrun,g1⟩
  | none=>
   have hcap:cap=0:=by
    rcases Nat.eq_zero_or_pos cap with h0 | h0
    · exact h0
    · cases hc.addr h0
   have hle:=hc.le
   have hx:xs=[]:=List.length_eq_zero_iff.1 (by omega)
   subst hx hcap
   obtain ⟨v',w',hrun,r1,r2,_⟩:=run_append_own (P:=P) w w.heap.size t ty e i z 1 bytes ht hi hz hsize hby hzs (by decide) (.slice none 0 0) 0 [] (World.ownsRow_nil w _ e 1) ad 1 c (nums [k]) rfl hnews h1 h63 hbytes (Nat.le_refl _)
   obtain ⟨ao',cap',rfl,g1⟩:=Slides.grown (xs:=[]) (F:=F) hBw r1 r2
   exact ⟨_,_,w',hrun,g1⟩
theorem wpList_append_slide {P:Program} (w:World) {ops:Array Oper} {rest:List Oper} {o:Oper} {a:Act} {Q:Exit → Act → World → Prop} (hgd:o.guard=none) (s x:Operand) (t:TypeId)
  (ho:o.op=.call { callee:=.builtin .append,args:=#[s,x],argTypes:=#[t,t] })
  (e:TypeId) (i:TypeInfo) (z:Value) (bytes:Nat) (ht:P.underlying t=some (.slice e)) (hi:P.info? e=some i) (hz:i.zero=some z) (hsize:i.size=1) (hby:i.bytes=bytes) (hzs:z.cells.size=1)
  (B:Nat) (v:Value) (F:Nat → Prop) (k:Nat) (xs:List Nat) (hs:a.eval s=v) (h:Slides w B v F xs) (hBw:B ≤ w.heap.size) (ad:Addr) (c:Nat) (hx:a.eval x=.slice (some ad) 1 c) (hk:w.cell? ad=some (.int .i64 (k:Int))) (h63:xs.length + 1 ≤ maxLen) (hbytes:(xs.length + 1) * bytes ≤ 140737488355328)
  (hK:∀ ao cap w',SlidesOn w w' B F ao (xs.length + 1) cap (xs ++ [k]) → wpList P ops Q rest (a.put o.dst (.slice ao (xs.length + 1) cap)) w'):wpList P ops Q (o :: rest) a w:=by
 refine wpList_plain hgd fun K hK'=>?_
 obtain ⟨ao,cap,w',hrun,g1⟩:=run_append_slide (P:=P) w t o.type e i z bytes ht hi hz hsize hby hzs B v F k xs h hBw ad c hk h63 hbytes
 unfold Oper.wp
 simp [execOp,ho,resolve,invoke,builtin,hs,hx,hrun,Result.andThen]
 exact hK' _ _ (hK ao cap w' g1)
def HeldF (B g:Nat) (w:World) (D:Nat → Prop) (q:List Nat):Prop:=
 ∃ v F,w.heap[g]? = some (.cells #[v] 32 (0,0)) ∧ Slides w B v F q ∧ ¬ F g ∧ B ≤ g ∧ (∀ k,D k ↔ k=g ∨ F k)
theorem HeldF.foot {B g:Nat} {w:World} {D:Nat → Prop} {q:List Nat} (h:HeldF B g w D q):∀ k,D k → B ≤ k ∧ k < w.heap.size:=by
 obtain ⟨v,F,h1,h2,h3,h4,h5⟩:=h
 intro k hk
 rcases (h5 k).1 hk with rfl | hk
 · exact ⟨h4,lt_of_block h1⟩
 · exact h2.foot k hk
theorem HeldF.but {B g:Nat} {S:Nat → Prop} {w w':World} {D:Nat → Prop} {q:List Nat} (h:HeldF B g w D q) (hb:But S w w') (hs:∀ k,D k → ¬ S k):HeldF B g w' D q:=by
 obtain ⟨v,F,h1,h2,h3,h4,h5⟩:=h
 exact ⟨v,F,(hb.block g (lt_of_block h1) (hs g ((h5 g).2 (.inl rfl)))).trans h1,h2.but hb (fun k hk=>hs k ((h5 k).2 (.inr hk))),h3,h4,h5⟩
def QueOn (B g:Nat) (w w':World) (D:Nat → Prop) (q:List Nat):Prop:=∃ D',HeldF B g w' D' q ∧ But D w w' ∧ ∀ k,D' k → D k ∨ w.heap.size ≤ k
theorem fifo_stored {B g:Nat} {D F F':Nat → Prop} {w w1 w2:World} {v v':Value} {q:List Nat} (h3:¬ F g) (h4:B ≤ g) (h5:∀ k,D k ↔ k=g ∨ F k) (hg:g < w.heap.size) (hb:Below w.heap.size w w1) (hs:w.heap.size ≤ w1.heap.size) (hbut:But F w1 w2)
  (hv:w2.heap[g]? = some (.cells #[v] 32 (0,0))) (hsl:Slides w2 B v' F' q) (hF:∀ k,F' k → F k ∨ w1.heap.size ≤ k):QueOn B g w (w2.setCell ⟨g,0,none⟩ v') D q:=by
 have hFg:¬ F' g:=fun h=>by
  rcases hF g h with h | h
  · exact h3 h
  · omega
 have b2:But (fun k=>k=g) w2 (w2.setCell ⟨g,0,none⟩ v'):=But.setCell (S:=fun k=>k=g) (But.refl _ w2) (p:=⟨g,0,none⟩) rfl v'
 refine ⟨fun k=>k=g ∨ F' k,⟨v',F',one_setCell hv,hsl.but b2 (fun k hk e=>hFg (e ▸ hk)),hFg,h4,fun k=>Iff.rfl⟩,?_,fun k hk=>?_⟩
 · refine ((But.ofBelow hb).trans (hbut.mono fun k hk=>(h5 k).2 (.inr hk))).trans (b2.mono fun k hk=>(h5 k).2 (.inl hk))
 ·
  rcases hk with rfl | hk
  · exact .inl ((h5 _).2 (.inl rfl))
  ·
   rcases hF k hk with h | h
   · exact .inl ((h5 k).2 (.inr h))
   · exact .inr (by omega)
theorem fifoCome (B g:Nat) (D:Nat → Prop) (q:List Nat) (k:Nat) (w:World) (h:HeldF B g w D q) (hn:q.length ≤ 1000) :
  Calls Tryz.prog 196 #[.int .i64 (k:Int),.pointer (some ⟨g,0,none⟩)] w fun e w'=>e=.returned (.tuple #[]) ∧ QueOn B g w w' D (q ++ [k]):=by
 obtain ⟨i0,hi,hz0,hz1,hz2⟩:=info_parts Tryz.infoInt
 obtain ⟨v,F,h1,h2,h3,h4,h5⟩:=h
 obtain ⟨ao,cap,rfl,hlc,hcm⟩:=h2.form
 have c0:=cell_of_one h1
 have hgl:=lt_of_block h1
 have H1:Hid (w.heap[g]? = some (.cells #[.slice ao q.length cap] 32 (0,0))):=h1
 have H2:Hid (Slides (w.alloc (.cells #[.int .i64 (k:Int)] 3)) B (.slice ao q.length cap) F q):=h2.but (S:=fun _=>False) (.ofBelow ((Below.refl _ _).alloc (Nat.le_refl _) _)) (fun _ _ h=>h)
 have H3:Hid (¬ F g ∧ B ≤ g ∧ (∀ k,D k ↔ k=g ∨ F k)):=⟨h3,h4,h5⟩
 have HA:Hid ((w.alloc (.cells #[.int .i64 (k:Int)] 3)).heap[g]? = some (.cells #[.slice ao q.length cap] 32 (0,0))):=(Below.heap_alloc w _ g hgl).trans h1
 clear h1 h2 h3 h5
 go_enter Tryz.func196,Tryz.ntmps196
 go_wp2_with (at_builtin; go_must (refine wpList_append_slide _ rfl _ _ 32 rfl 3 i0 (.int .i64 0) 8 Tryz.underlying32 hi hz0 hz1 hz2 rfl B (.slice ao q.length cap) F k q rfl H2.out (by simp; omega) ⟨w.heap.size,0,none⟩ 1 rfl (by simp) (by unfold maxLen; omega) (by omega) ?_; intro ao' cap' w2 hon; obtain ⟨F',g1,g2,g3⟩:=hon; have hgb:w2.heap[g]? = some (.cells #[.slice ao q.length cap] 32 (0,0)):=(g3.block g (by simp; omega) H3.out.1).trans HA.out; have c2:=cell_of_one hgb; have f2:=free_of_one hgb; have HOn:Hid (Slides w2 B (.slice ao' (q.length + 1) cap') F' (q ++ [k]) ∧ (∀ k,F' k → F k ∨ w.heap.size + 1 ≤ k) ∧ But F (w.alloc (.cells #[.int .i64 (k:Int)] 3)) w2 ∧ w2.heap[g]? = some (.cells #[.slice ao q.length cap] 32 (0,0))):=⟨g1,by simpa using g2,g3,hgb⟩; clear g1 g2 g3 hgb))
 go_end0
 exact ⟨rfl,fifo_stored H3.out.1 H3.out.2.1 H3.out.2.2 hgl ((Below.refl _ _).alloc (Nat.le_refl _) _) (by simp) HOn.out.2.2.1 HOn.out.2.2.2 HOn.out.1 (by simpa using HOn.out.2.1)⟩
theorem fifoPick (B g:Nat) (D:Nat → Prop) (q:List Nat) (k:Nat) (w:World) (h:HeldF B g w D (k :: q)) (hn:q.length ≤ 1000) :
  Calls Tryz.prog 197 #[.pointer (some ⟨g,0,none⟩)] w fun e w'=>e=.returned (.int .i64 (k:Int)) ∧ QueOn B g w w' D q:=by
 obtain ⟨v,F,h1,h2,h3,h4,h5⟩:=h
 obtain ⟨b,off,cap,rfl,hlc,hcm,c1,hFb,s1,s2⟩:=h2.first
 have c0:=cell_of_one h1
 have f0:=free_of_one h1
 have hgl:=lt_of_block h1
 unfold maxLen at hcm
 by_cases hc1:1 < cap
 ·
  have HS:Hid (Slides w B (.slice (some ⟨b,off + 1,none⟩) q.length (cap - 1)) F q):=s1 hc1
  have H1:Hid (w.heap[g]? = some (.cells #[.slice (some ⟨b,off,none⟩) (q.length + 1) cap] 32 (0,0))):=h1
  have H3:Hid (¬ F g ∧ B ≤ g ∧ (∀ k,D k ↔ k=g ∨ F k)):=⟨h3,h4,h5⟩
  clear h1 h2 h3 h5 s1 s2
  go_enter Tryz.func197,Tryz.ntmps197
  go_wp2
  go_ret
  exact ⟨rfl,fifo_stored H3.out.1 H3.out.2.1 H3.out.2.2 hgl (Below.refl _ _) (Nat.le_refl _) (But.refl _ _) H1.out HS.out (fun _ h=>.inl h)⟩
 ·
  obtain rfl:cap=1:=by omega
  obtain ⟨rfl,s3⟩:=s2 rfl
  have HS:Hid (Slides w B (.slice (some ⟨b,off,none⟩) 0 0) F []):=s3
  have H1:Hid (w.heap[g]? = some (.cells #[.slice (some ⟨b,off,none⟩) 1 1] 32 (0,0))):=h1
  have H3:Hid (¬ F g ∧ B ≤ g ∧ (∀ k,D k ↔ k=g ∨ F k)):=⟨h3,h4,h5⟩
  clear h1 h2 h3 h5 s1 s2 s3
  simp only [List.length_nil,Nat.zero_add] at c0
  go_enter Tryz.func197,Tryz.ntmps197
  go_wp2
  go_ret
  exact ⟨rfl,fifo_stored H3.out.1 H3.out.2.1 H3.out.2.2 hgl (Below.refl _ _) (Nat.le_refl _) (But.refl _ _) H1.out HS.out (fun _ h=>.inl h)⟩
theorem fifoRest (B g:Nat) (D:Nat → Prop) (q:List Nat) (w:World) (h:HeldF B g w D q) :
  Calls Tryz.prog 198 #[.pointer (some ⟨g,0,none⟩)] w fun e w'=>e=.returned (.int .i64 (q.length:Int)) ∧ w'=w:=by
 obtain ⟨v,F,h1,h2,h3,h4,h5⟩:=h
 obtain ⟨ao,cap,rfl,hlc,hcm⟩:=h2.form
 have c0:=cell_of_one h1
 unfold maxLen at hcm
 clear h1 h2 h3 h5
 go_enter Tryz.func198,Tryz.ntmps198
 go_wp2
 go_ret
 exact ⟨rfl,rfl⟩
def ruleF (g:Nat):Value:=.agg #[.func (.func 196) #[] #[.pointer (some ⟨g,0,none⟩)],.func (.func 197) #[] #[.pointer (some ⟨g,0,none⟩)],.func (.func 198) #[] #[.pointer (some ⟨g,0,none⟩)]]
theorem QueOn.after {B g:Nat} {w w1 w':World} {D:Nat → Prop} {q:List Nat} (hb:Below w.heap.size w w1) (h:QueOn B g w1 w' D q):QueOn B g w w' D q:=by
 obtain ⟨D',h1,h2,h3⟩:=h
 refine ⟨D',h1,(But.ofBelow hb).trans h2,fun k hk=>?_⟩
 rcases h3 k hk with h | h
 · exact .inl h
 · exact .inr (Nat.le_trans hb.size h)
theorem HeldF.alloc {B g:Nat} {w:World} {D:Nat → Prop} {q:List Nat} (h:HeldF B g w D q) (o:Obj):HeldF B g (w.alloc o) D q:=
 h.but (S:=fun _=>False) (.ofBelow ((Below.refl _ _).alloc (Nat.le_refl _) _)) (fun _ _ h=>h)
theorem fifoRuleRest (B g:Nat) (D:Nat → Prop) (q:List Nat) (w:World) (h:HeldF B g w D q) :
  Calls Tryz.prog 286 #[ruleF g] w fun e w'=>e=.returned (.int .i64 (q.length:Int)) ∧ QueOn B g w w' D q:=by
 have HH:Hid (HeldF B g w D q):=h
 clear h
 unfold ruleF
 go_enter Tryz.func286,Tryz.ntmps286
 go_wp2_with fail
 refine (fifoRest B g D q _ (HH.out.alloc _)).mono ?_
 rintro e w1 ⟨rfl,rfl⟩
 go_wp2_with fail
 go_ret
 exact ⟨rfl,D,HH.out.alloc _,.ofBelow ((Below.refl _ _).alloc (Nat.le_refl _) _),fun k hk=>.inl hk⟩
theorem fifoRulePick (B g:Nat) (D:Nat → Prop) (q:List Nat) (k:Nat) (w:World) (h:HeldF B g w D (k :: q)) (hn:q.length ≤ 1000) :
  Calls Tryz.prog 285 #[ruleF g] w fun e w'=>e=.returned (.int .i64 (k:Int)) ∧ QueOn B g w w' D q:=by
 have HH:Hid (HeldF B g w D (k :: q)):=h
 clear h
 unfold ruleF
 go_enter Tryz.func285,Tryz.ntmps285
 go_wp2_with fail
 refine (fifoPick B g D q k _ (HH.out.alloc _) hn).mono ?_
 rintro e w1 ⟨rfl,ho⟩
 have HO:Hid (QueOn B g w w1 D q):=ho.after ((Below.refl _ _).alloc (Nat.le_refl _) _)
 clear ho
 go_wp2_with fail
 go_ret
 exact ⟨rfl,HO.out⟩
theorem fifoRuleCome (B g:Nat) (D:Nat → Prop) (q:List Nat) (k:Nat) (w:World) (h:HeldF B g w D q) (hn:q.length ≤ 1000) :
  Calls Tryz.prog 284 #[ruleF g,.int .i64 (k:Int)] w fun e w'=>e=.returned (.tuple #[]) ∧ QueOn B g w w' D (q ++ [k]):=by
 have HH:Hid (HeldF B g w D q):=h
 clear h
 unfold ruleF
 go_enter Tryz.func284,Tryz.ntmps284
 go_wp2_with fail
 refine (fifoCome B g D q k _ (HH.out.alloc _) hn).mono ?_
 rintro e w1 ⟨rfl,ho⟩
 have HO:Hid (QueOn B g w w1 D (q ++ [k])):=ho.after ((Below.refl _ _).alloc (Nat.le_refl _) _)
 clear ho
 go_wp2_with fail
 go_end0
 exact ⟨rfl,HO.out⟩
theorem inOrder_any (w:World) :
  Calls Tryz.prog 170 #[] w fun e w'=>e=.returned (.iface 266 (ruleF w.heap.size)) ∧ HeldF w.heap.size w.heap.size w' (fun k=>k=w.heap.size) [] ∧ Below w.heap.size w w':=by
 unfold ruleF
 go_enter Tryz.func170,Tryz.ntmps170
 go_wp2_with fail
 go_ret
 refine ⟨rfl,⟨.slice none 0 0,fun _=>False,?_,Slides.nil _ _,id,Nat.le_refl _,fun k=>by simp⟩,(Below.refl _ _).alloc (Nat.le_refl _) _⟩
 exact heap_alloc_new w _
theorem LiesP.at_lt {w:World} {a:Option Addr} {ps:List Pk} (h:LiesP w a ps):∀ ad,a=some ad → 0 < ps.length → ad.block < w.heap.size:=by
 intro ad e h0
 obtain ⟨b,off,rfl,hlt,-⟩:=h.place h0
 cases e
 exact hlt
theorem fifoMem (B g:Nat):QueMem (HeldF B g) B:=⟨fun _ _ _ h=>h.foot,fun _ _ _ _ _ h hb hs _=>h.but hb hs⟩
theorem fifoSend_ok (a:Option Addr) (cap:Nat) (ps:List Pk) (per:Int) (g:Nat) (w:World) (hl:LiesP w a ps) (ho:OkPks ps) (h1:1 ≤ per) (h2:per ≤ 1000) (ha:∀ ad,a=some ad → 0 < ps.length → ad.block < g) (h0:HeldF g g w (fun k=>k=g) []) :
  Calls Tryz.prog 169 #[.slice a ps.length cap,.int .i64 per,.iface 266 (ruleF g)] w fun e w'=>∃ v,e=.returned v ∧ OwnS w' w.heap.size v (lindAll per ps ps.length) ∧ Below g w w':=by
 have hlaw:=fifo_law (per:=per) (by omega) ho
 have hgw:g ≤ w.heap.size:=Nat.le_of_lt (h0.foot g rfl).2
 refine (send_any fifoQ (HeldF g g) per ps [] g _ _ _ (fifoMem g g) hlaw ho h1 h2 ?_ ?_ ?_ a cap w hl hgw ha _ h0).mono ?_
 ·
  intro w D s p hr hp hh
  have hc:=hr.count hlaw
  have hn:=hr.next_le
  have:=ho.few
  exact fifoRuleCome g g D s.q s.next w hh (by have:fifoQ.rest s.q=s.q.length:=rfl; omega)
 ·
  intro w D s hr h0 hh
  have hc:=hr.count hlaw
  have hn:=hr.next_le
  have:=ho.few
  have hlen:s.q.length ≤ 1000:=by have:fifoQ.rest s.q=s.q.length:=rfl; omega
  have h0':0 < s.q.length:=h0
  obtain ⟨k,q,hq⟩:∃ k q,s.q=k :: q:=by
   cases h:s.q with
   | nil=>rw [h] at h0'; simp at h0'
   | cons k q=>exact ⟨k,q,rfl⟩
  rw [hq] at hh hlen ⊢
  exact fifoRulePick g g D q k w hh (by simp at hlen; omega)
 ·
  intro w D s hr hh
  rw [asked_same _ (fun _=>rfl)]
  exact fifoRuleRest g g D s.q w hh
 ·
  rintro e w' ⟨s,v,rfl,hr,hn,hrest,hown,hb⟩
  exact ⟨v,rfl,by rw [← fifo_end (by omega) ho hr hn hrest]; exact hown,hb⟩
theorem fifoRun_ok (a:Option Addr) (cap:Nat) (ps:List Pk) (per:Int) (w:World) (hl:LiesP w a ps) (ho:OkPks ps) (h1:1 ≤ per) (h2:per ≤ 1000) :
  Calls Tryz.prog 143 #[.slice a ps.length cap,.int .i64 per] w fun e w'=>∃ v,e=.returned (.tuple #[v,.nilIface]) ∧ OwnS w' w.heap.size v (lindAll per ps ps.length) ∧ Below w.heap.size w w':=by
 have HL:Hid (LiesP w a ps ∧ OkPks ps):=⟨hl,ho⟩
 have HC:Hid (Calls Tryz.prog 168 #[.slice a ps.length cap,.int .i64 per] w fun e w'=>e=.returned .nilIface ∧ Below w.heap.size w w'):=linkCheck_ok a cap ps per w hl ho h1 h2
 clear hl ho
 go_enter Tryz.func143,Tryz.ntmps143
 go_wp2_with fail
 refine HC.out.mono ?_
 rintro e w1 ⟨rfl,hb⟩
 have HB1:Hid (Below w.heap.size w w1):=hb
 clear hb
 go_wp2_with fail
 refine (inOrder_any w1).mono ?_
 rintro e w2 ⟨rfl,hh,hb⟩
 have HB2:Hid (Below w1.heap.size w1 w2):=hb
 have HH:Hid (HeldF w1.heap.size w1.heap.size w2 (fun k=>k=w1.heap.size) []):=hh
 have HLP:Hid (LiesP w2 a ps):=(HL.out.1.below HB1.out).below hb
 have HAt:Hid (∀ ad,a=some ad → 0 < ps.length → ad.block < w1.heap.size):=(HL.out.1.below HB1.out).at_lt
 clear hb hh
 go_wp2_with fail
 refine (fifoSend_ok a cap ps per w1.heap.size w2 HLP.out HL.out.2 h1 h2 HAt.out HH.out).mono ?_
 rintro e w3 ⟨v,rfl,hown,hb⟩
 have HO:Hid (OwnS w3 w.heap.size v (lindAll per ps ps.length) ∧ Below w.heap.size w w3):=⟨ownsRow_mono hown (Nat.le_trans HB1.out.size HB2.out.size),HB1.out.trans ((HB2.out.mono HB1.out.size).trans (hb.mono HB1.out.size))⟩
 clear hown hb
 go_wp2_with fail
 go_ret2
 exact ⟨v,rfl,HO.out⟩
theorem fifoRun_err {R:TypeId → Value → World → Prop} (a:Option Addr) (n cap:Nat) (per:Int) (w:World) (h:Calls Tryz.prog 168 #[.slice a n cap,.int .i64 per] w fun e w'=>∃ ty v,e=.returned (.iface ty v) ∧ R ty v w') :
  Calls Tryz.prog 143 #[.slice a n cap,.int .i64 per] w fun e w'=>∃ ty v,e=.returned (.tuple #[.slice none 0 0,.iface ty v]) ∧ R ty v w':=by
 have HC:Hid (Calls Tryz.prog 168 #[.slice a n cap,.int .i64 per] w fun e w'=>∃ ty v,e=.returned (.iface ty v) ∧ R ty v w'):=h
 clear h
 go_enter Tryz.func143,Tryz.ntmps143
 go_wp2_with fail
 refine HC.out.mono ?_
 rintro e w1 ⟨ty,v,rfl,hR⟩
 have HR:Hid (R ty v w1):=hR
 clear hR
 go_wp2_with fail
 go_ret2
 exact ⟨ty,v,rfl,HR.out⟩
def LinkFaultIs (ps:List Pk) (per c p:Int):Prop:=
 (PksFault ps c p ∧ 0 < c) ∨ (OkPks ps ∧ (per < 1 ∨ 1000 < per) ∧ c=2 ∧ p = -1) ∨ (OkPks ps ∧ 1 ≤ per ∧ per ≤ 1000 ∧ c=0 ∧ p = -1)
theorem linkCheck_is (a:Option Addr) (cap:Nat) (ps:List Pk) (per c p:Int) (w:World) (ad:Nat → Addr) (he:Errs9 w ad) (hl:LiesP w a ps) (hcap:ps.length ≤ cap) (hm:cap ≤ maxLen) (h:LinkFaultIs ps per c p) (hc:0 < c) :
  Calls Tryz.prog 168 #[.slice a ps.length cap,.int .i64 per] w fun e w'=>∃ ty v,e=.returned (.iface ty v) ∧ (ErrIs w' (.iface ty v) c p ∧ Below w.heap.size w w'):=by
 rcases h with ⟨h,h0⟩ | ⟨ho,hp,rfl,rfl⟩ | ⟨ho,h1,h2,rfl,rfl⟩
 ·
  refine linkCheck_err (R:=fun ty v w'=>ErrIs w' (.iface ty v) c p ∧ Below w.heap.size w w') a ps.length cap per w ((pcheck_is a cap ps w ad he hl hcap hm c p h).mono ?_)
  rintro e w' ⟨E,rfl,hE,hb⟩
  obtain ⟨ty,v,rfl⟩:=hE.some_ (by omega)
  exact ⟨ty,v,rfl,hE,hb⟩
 ·
  refine (linkCheck_per a cap ps per w ad he.bo hl ho hp).mono ?_
  rintro e w' ⟨rfl,hb⟩
  exact ⟨_,_,rfl,errIs_sent (he.below hb) 1 (by decide),hb⟩
 · omega
theorem fifoRun_is (a:Option Addr) (cap:Nat) (ps:List Pk) (per c p:Int) (w:World) (ad:Nat → Addr) (he:Errs9 w ad) (hl:LiesP w a ps) (hcap:ps.length ≤ cap) (hm:cap ≤ maxLen) (h:LinkFaultIs ps per c p) (hc:0 < c) :
  Calls Tryz.prog 143 #[.slice a ps.length cap,.int .i64 per] w fun e w'=>∃ ty v,e=.returned (.tuple #[.slice none 0 0,.iface ty v]) ∧ (ErrIs w' (.iface ty v) c p ∧ Below w.heap.size w w'):=
 fifoRun_err (R:=fun ty v w'=>ErrIs w' (.iface ty v) c p ∧ Below w.heap.size w w') a ps.length cap per w (linkCheck_is a cap ps per c p w ad he hl hcap hm h hc)
theorem flow_at {ps:List Pk} {k:Nat} {p:Pk} (ho:OkPks ps) (hp:ps[k]? = some p):∃ m:Nat,m < 8 ∧ p.flow=(m:Int) ∧ flowOf ps k=m:=by
 obtain ⟨h1,h2,-⟩:=okPk_true (ho.each _ p hp).1
 exact ⟨p.flow.toNat,by omega,by omega,flowOf_get hp⟩
theorem nums_at {ns:List Int} (h:ns.length=8) {m:Nat} (hm:m < 8):∃ x,ns[m]? = some x ∧ ns.getD m 0=x:=by
 obtain ⟨x,hx,-⟩:=get_some ns m (by omega)
 exact ⟨x,hx,by simp [List.getD,hx]⟩
theorem rankKey (ps:List Pk) (ns:List Int) (gp gr:Nat) (pa:Option Addr) (pcap:Nat) (na:Option Addr) (ncap:Nat) (w:World) (k:Nat) (hcp:w.cell? ⟨gp,0,none⟩=some (.slice pa ps.length pcap)) (hcr:w.cell? ⟨gr,0,none⟩=some (.slice na ns.length ncap)) (hp:LiesP w pa ps) (hn:LiesN w na ns) (ho:OkPks ps) (h8:ns.length=8) (hk:k < ps.length) :
  Calls Tryz.prog 172 #[.int .i64 (k:Int),.pointer (some ⟨gr,0,none⟩),.pointer (some ⟨gp,0,none⟩)] w fun e w'=>e=.returned (.int .i64 (ofFlow ps ns k)) ∧ ∃ m,w'=w.drewN m:=by
 obtain ⟨p,hpk,-⟩:=get_some ps k hk
 obtain ⟨m,hm,hf,hfo⟩:=flow_at ho hpk
 obtain ⟨x,hx,hxd⟩:=nums_at h8 hm
 obtain ⟨b,off,rfl,-,hc⟩:=hp.place (by omega)
 obtain ⟨b2,off2,rfl,-,hc2⟩:=hn.place (by omega)
 have c1:w.cell? ⟨b,off + k * 3,none⟩=some (.int .i64 (m:Int)):=by rw [← hf]; exact (hc k p hpk).1
 have c2:=hc2 m x hx
 have hE:ofFlow ps ns k=x:=by rw [ofFlow,hfo]; exact hxd
 have hfew:=ho.few
 obtain ⟨n,hnn⟩:∃ n,ps.length=n:=⟨_,rfl⟩
 rw [hnn] at hcp hk hfew
 rw [h8] at hcr
 rw [hE]
 clear hp hn hc hc2 hpk hx ho h8 hE hxd hnn hfo hf
 go_enter Tryz.func172,Tryz.ntmps172
 go_wp2_with fail
 go_quiet (fail)
 go_wp2
 go_ret
 exact ⟨rfl,_,rfl⟩
theorem dueKey (ps:List Pk) (ns:List Int) (gp gr:Nat) (pa:Option Addr) (pcap:Nat) (na:Option Addr) (ncap:Nat) (w:World) (k:Nat) (hcp:w.cell? ⟨gp,0,none⟩=some (.slice pa ps.length pcap)) (hcr:w.cell? ⟨gr,0,none⟩=some (.slice na ns.length ncap)) (hp:LiesP w pa ps) (hn:LiesN w na ns) (ho:OkPks ps) (h8:NumsOk 0 1099511627776 ns) (hk:k < ps.length) :
  Calls Tryz.prog 174 #[.int .i64 (k:Int),.pointer (some ⟨gp,0,none⟩),.pointer (some ⟨gr,0,none⟩)] w fun e w'=>e=.returned (.int .i64 (tickOf ps k + ofFlow ps ns k)) ∧ ∃ m,w'=w.drewN m:=by
 obtain ⟨p,hpk,-⟩:=get_some ps k hk
 obtain ⟨m,hm,hf,hfo⟩:=flow_at ho hpk
 obtain ⟨x,hx,hxd⟩:=nums_at h8.len hm
 obtain ⟨b,off,rfl,-,hc⟩:=hp.place (by omega)
 obtain ⟨b2,off2,rfl,-,hc2⟩:=hn.place (by have:=h8.len; omega)
 have c1:w.cell? ⟨b,off + k * 3,none⟩=some (.int .i64 (m:Int)):=by rw [← hf]; exact (hc k p hpk).1
 obtain ⟨t,ht⟩:∃ t,p.tick=t:=⟨_,rfl⟩
 have c3:w.cell? ⟨b,off + k * 3 + 2,none⟩=some (.int .i64 t):=by rw [← ht]; exact (hc k p hpk).2.2
 have c2:=hc2 m x hx
 obtain ⟨t0,t1⟩:=(show 0 ≤ t ∧ t ≤ 1099511627776 by rw [← ht]; have:=okPk_true (ho.each _ p hpk).1; omega)
 obtain ⟨x0,x1⟩:=h8.each m x hx
 have hE:tickOf ps k + ofFlow ps ns k=t + x:=by rw [ofFlow,hfo,hxd,tickOf_get hpk,ht]
 have hfew:=ho.few
 have hlen:=h8.len
 obtain ⟨n,hnn⟩:∃ n,ps.length=n:=⟨_,rfl⟩
 rw [hnn] at hcp hk hfew
 rw [hlen] at hcr
 rw [hE]
 have hw:IntKind.i64.wrap (t + x)=t + x:=IntWalk.i64_in _ (by omega)
 clear hp hn hc hc2 hpk hx ho h8 hE hxd hnn hfo hf hlen ht
 go_enter Tryz.func174,Tryz.ntmps174
 go_wp2_with fail
 go_quiet (fail)
 go_wp2
 go_ret
 exact ⟨rfl,_,rfl⟩
theorem liesN_of_own {w:World} {B:Nat} {v:Value} {zs:List Int} (h:w.ownsRow B 3 1 v zs.length (ints zs)):∃ a cap,v=.slice a zs.length cap ∧ zs.length ≤ cap ∧ cap ≤ maxLen ∧ LiesN w a zs ∧ (a=none → zs=[] ∧ cap=0):=by
 have hh:=h
 obtain ⟨h1,⟨rfl,h0⟩ | ⟨g,cap,cur,rfl,hB,hg,hn,hm,hc,ht⟩⟩:=h
 ·
  have e:zs=[]:=List.length_eq_zero_iff.1 h0
  exact ⟨none,0,by rw [h0],by omega,by simp [maxLen],.inl e,fun _=>⟨e,rfl⟩⟩
 ·
  refine ⟨_,cap,rfl,hn,hm,.inr ⟨g,0,rfl,lt_of_block hg,fun i x hx=>?_⟩,fun e=>by cases e⟩
  rw [Nat.zero_add,hh.cellAt i (by have:=(List.getElem?_eq_some_iff.1 hx).1; omega)]
  exact ints_get hx
structure CameAt (w:World) (g n next:Nat):Prop where
 cell:∀ i,i < n → w.cell? ⟨g,i,none⟩=some (.bool (decide (i < next)))
 frozen:∀ i,w.frozen? ⟨g,i,none⟩=false
 lt:g < w.heap.size
structure CredAt (w:World) (g:Nat) (cr:Nat → Int):Prop where
 cell:∀ f,f < 8 → w.cell? ⟨g,f,none⟩=some (.int .i64 (cr f))
 frozen:∀ i,w.frozen? ⟨g,i,none⟩=false
 lt:g < w.heap.size
theorem CameAt.of_block {w w':World} {g n k:Nat} (h:CameAt w g n k) (hb:w'.heap[g]? = w.heap[g]?) (hs:w.heap.size ≤ w'.heap.size):CameAt w' g n k:=
 ⟨fun i hi=>(World.cell?_of_block (a:=⟨g,i,none⟩) hb).trans (h.cell i hi),fun i=>(World.frozen?_of_block (a:=⟨g,i,none⟩) hb).trans (h.frozen i),Nat.lt_of_lt_of_le h.lt hs⟩
theorem CredAt.of_block {w w':World} {g:Nat} {cr:Nat → Int} (h:CredAt w g cr) (hb:w'.heap[g]? = w.heap[g]?) (hs:w.heap.size ≤ w'.heap.size):CredAt w' g cr:=
 ⟨fun i hi=>(World.cell?_of_block (a:=⟨g,i,none⟩) hb).trans (h.cell i hi),fun i=>(World.frozen?_of_block (a:=⟨g,i,none⟩) hb).trans (h.frozen i),Nat.lt_of_lt_of_le h.lt hs⟩
structure RoMem (w wr:World) (gd gc gk n:Nat) (v:Value) (out:List Sn) (next:Nat) (cr:Nat → Int) (rv:Value) (F:Nat → Prop) (row:List Nat):Prop where
 own:OwnS wr w.heap.size v out
 done:DoneAt wr gd n out
 came:CameAt wr gc n next
 cred:CredAt wr gk cr
 row:Slides wr w.heap.size rv F row
 ne:gd ≠ gc ∧ gd ≠ gk ∧ gc ≠ gk
 vne:v.ownBlock ≠ some gd ∧ v.ownBlock ≠ some gc ∧ v.ownBlock ≠ some gk
 fne:¬ F gd ∧ ¬ F gc ∧ ¬ F gk ∧ ∀ k,F k → v.ownBlock ≠ some k
 new:w.heap.size ≤ gd ∧ w.heap.size ≤ gc ∧ w.heap.size ≤ gk
 below:Below w.heap.size w wr
section
variable {w wr wr':World} {gd gc gk n:Nat} {v:Value} {out:List Sn} {next:Nat} {cr:Nat → Int} {rv:Value} {F:Nat → Prop} {row:List Nat}
theorem RoMem.later (h:RoMem w wr gd gc gk n v out next cr rv F row) (hb:Below wr.heap.size wr wr'):RoMem w wr' gd gc gk n v out next cr rv F row:=
 ⟨ownsRow_of_block h.own (fun g _ hg=>hb.block g hg),h.done.of_block (hb.block gd h.done.lt) hb.size,h.came.of_block (hb.block gc h.came.lt) hb.size,h.cred.of_block (hb.block gk h.cred.lt) hb.size,h.row.but (S:=fun _=>False) (.ofBelow hb) (fun _ _ h=>h),h.ne,h.vne,h.fne,h.new,h.below.trans (hb.mono h.below.size)⟩
theorem RoMem.alloc (h:RoMem w wr gd gc gk n v out next cr rv F row) (o:Obj):RoMem w (wr.alloc o) gd gc gk n v out next cr rv F row:=h.later ((Below.refl _ _).alloc (Nat.le_refl _) _)
end
end Go.Proofs.YtipdclphpkgceaaGreatDoor
