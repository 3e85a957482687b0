/- Own facts, put together: no statement of its own. -/
import Derived.Conc.CrowdStepW
import Derived.Test.YtbokomeejmnnoaaDoorD26

namespace Go.Proofs.YtbokomeejmnnoaaDoor
open Go.Conc
open Go.ConcN (sumTo upd sumTo_upd upd_ne upd_same sumTo_congr get_map_set get_map_set_same deafBehind_idle)
def evW (S M:Nat → Prop) (e:Event):Prop:=(∃ a,e=⟨.cell a,false,false⟩ ∧ (S a.block ∨ M a.block)) ∨ (∃ a,e=⟨.cell a,true,false⟩ ∧ M a.block) ∨ (∃ c wr,e=⟨.obj c,wr,false⟩ ∧ M c) ∨ e=⟨.mark .noRoom,false,true⟩ ∨ ∃ f,e=⟨.mark (.extern f),false,true⟩
theorem evW.touch {S M:Nat → Prop} {e:Event} {b:Touch} (h:evW S M e) (hb:(MemAct.ofEvent e).touch? = some b):b.kind ≠ .atomic ∧ ((b.write=false ∧ ∃ a,b.loc=.cell a ∧ S a.block) ∨ ∃ k,M k ∧ inBlock k b.loc):=by
 rcases h with ⟨a,rfl,h⟩ | ⟨a,rfl,h⟩ | ⟨c,wr,rfl,h⟩ | rfl | ⟨f,rfl⟩
 ·
  simp [MemAct.ofEvent,MemAct.touch?] at hb
  subst hb
  refine ⟨by simp,?_⟩
  rcases h with h | h
  · exact .inl ⟨rfl,a,rfl,h⟩
  · exact .inr ⟨_,h,rfl⟩
 ·
  simp [MemAct.ofEvent,MemAct.touch?] at hb
  subst hb
  exact ⟨by simp,.inr ⟨_,h,rfl⟩⟩
 · cases wr <;> simp [MemAct.ofEvent,MemAct.touch?] at hb <;> subst hb <;> exact ⟨by simp,.inr ⟨_,h,rfl⟩⟩
 · simp [MemAct.ofEvent,MemAct.touch?] at hb
 · simp [MemAct.ofEvent,MemAct.touch?] at hb
theorem evW.low {S M:Nat → Prop} {e:Event} {B:Nat} (h:evW S M e) (hB:∀ c,S c ∨ M c → c < B):(MemAct.ofEvent e).low B:=by
 rcases h with ⟨a,rfl,h⟩ | ⟨a,rfl,h⟩ | ⟨c,wr,rfl,h⟩ | rfl | ⟨f,rfl⟩
 · exact hB _ h
 · exact hB _ (.inr h)
 · cases wr <;> exact hB c (.inr h)
 · exact trivial
 · exact trivial
theorem evW.quiet {S M:Nat → Prop} {e:Event} (h:evW S M e):e.loc ≠ .mark .disable ∧ e.loc ≠ .mark .enable:=by
 rcases h with ⟨a,rfl,h⟩ | ⟨a,rfl,h⟩ | ⟨c,wr,rfl,h⟩ | rfl | ⟨f,rfl⟩ <;> simp
theorem evW.norel {S M:Nat → Prop} {e:Event} (h:evW S M e) (a:Addr):MemAct.ofEvent e ≠ .mark (.release a):=by
 rcases h with ⟨a,rfl,h⟩ | ⟨a,rfl,h⟩ | ⟨c,wr,rfl,h⟩ | rfl | ⟨f,rfl⟩
 · simp [MemAct.ofEvent]
 · simp [MemAct.ofEvent]
 · cases wr <;> simp [MemAct.ofEvent]
 · simp [MemAct.ofEvent]
 · simp [MemAct.ofEvent]
theorem mute_norel {e:Event} (h:e.mute=true) (a:Addr):MemAct.ofEvent e ≠ .mark (.release a):=by
 obtain ⟨loc,wr,sy⟩:=e
 cases loc <;> simp_all [Event.mute]
 rename_i m
 cases m <;> simp_all [MemAct.ofEvent]
theorem g_ofE (n:Nat) (fn:FuncId) (pos:String) (es:Array Event):∀ op ∈ MemOp.ofEvents n fn pos es,op.g=n:=fun op hop=>by
 obtain ⟨e,-,rfl⟩:=Go.Conc.mem_ofEvents hop
 rfl
theorem get_zero {α:Type} {gs:Array α} {i:Nat} {g:α} (h:gs[i]? = some g):i < gs.size:=(Array.getElem?_eq_some_iff.1 h).1
section
variable {P:Program} {p:Pool P} {gs:Array Goroutine} {w w':World} {t:Trace} {a b:Nat} {dn:Nat → Option Value} {Fx K:Nat → Prop} {D:Nat → Wk P}
theorem Pool.Hand.stepW (hp:p.Ok) (h:p.Hand gs w t a b dn Fx K D) {i:Nat} {g g':Goroutine} {es:Array Event} {x':Wk P} {N:Nat → Prop} (hi:p.base ≤ i) (hg:gs[i]? = some g)
  (hsz:w.heap.size ≤ w'.heap.size) (hout:w'.os=w.os ∧ w'.output=w.output) (hst:∀ c,c < w.heap.size → ¬ (D i).mine c → w'.heap[c]? = w.heap[c]?)
  (hh:x'.hold=(D i).hold) (hn:x'.num=(D i).num) (hm:∀ c,x'.mine c ↔ (D i).mine c ∨ N c) (hN:∀ c,N c → w.heap.size ≤ c ∧ c < w'.heap.size)
  (hev:∀ e ∈ es,evW p.S x'.mine e) (hs:p.Sit x' i g' w' 0) (fn:FuncId) (pos:String) :
  p.Hand ((gs.map (woken P g g' w')).setIfInBounds i g') w' (t ++ MemOp.ofEvents i fn pos es) a b dn Fx K (upd D i x'):=by
 have hlt:=get_zero hg
 have hi0:i ≠ 0:=by have:=hp.pos;omega
 have hK:∀ c,K c → w'.heap[c]? = w.heap[c]?:=fun c hc=>hst c (h.keeps.kl c hc) fun hm=>(h.own i c hm).1 hc
 have hS:Sees K w w':=⟨hK,hsz,hout⟩
 have hlow:∀ c,c < p.w0.heap.size → w'.heap[c]? = w.heap[c]?:=fun c hc=>hst c (Nat.lt_of_lt_of_le hc h.still.2) fun hm=>by have:=(h.own i c hm).2.2;omega
 have hchn:∃ s tm,w'.heap[p.cn]? = some (.chan 0 #[] false s s tm):=by rw [hlow _ hp.clow.1];exact h.chn
 have hchr:∃ s tm,w'.heap[p.cr]? = some (.chan 0 #[] false s s tm):=by rw [hlow _ hp.clow.2];exact h.chr
 have hsS:Sees p.S w w':=hS.less fun c hc=>h.keeps.fk c (h.keeps.sf c (.inl hc))
 have hdeaf:Deaf (t ++ MemOp.ofEvents i fn pos es) i=Deaf t i:=by
  rw [Deaf_own]
  exact deafBehind_idle (fun e he=>(hev e he).quiet) _
 have hd0:Deaf t i=0:=by
  rcases h.sit i g (by omega) hg with ⟨h1,-⟩ | ⟨-,h1,-⟩
  · omega
  · exact h1
 have hown':∀ j c,(upd D i x' j).mine c → ¬ K c ∧ c < w'.heap.size ∧ p.w0.heap.size ≤ c:=fun j c hc=>by
  by_cases e:j=i
  ·
   subst e
   rw [upd_same] at hc
   rcases (hm c).1 hc with h1 | h1
   ·
    obtain ⟨k1,k2,k3⟩:=h.own j c h1
    exact ⟨k1,Nat.lt_of_lt_of_le k2 hsz,k3⟩
   ·
    have:=hN c h1
    exact ⟨fun hk=>by have:=h.keeps.kl c hk;omega,this.2,by have:=h.still.2;omega⟩
  ·
   rw [upd_ne D _ e] at hc
   obtain ⟨k1,k2,k3⟩:=h.own j c hc
   exact ⟨k1,Nat.lt_of_lt_of_le k2 hsz,k3⟩
 have hone':∀ j k c,(upd D i x' j).mine c → (upd D i x' k).mine c → j=k:=fun j k c h1 h2=>by
  have old:∀ j,j ≠ i → (upd D i x' j).mine c → (D j).mine c:=fun j e h1=>by rw [upd_ne D _ e] at h1;exact h1
  by_cases e1:j=i
  ·
   by_cases e2:k=i
   · rw [e1,e2]
   ·
    have h2':=old k e2 h2
    subst e1
    rw [upd_same] at h1
    rcases (hm c).1 h1 with h1 | h1
    · exact h.one j k c h1 h2'
    ·
     have:=hN c h1
     have:=(h.own k c h2').2.1
     omega
  ·
   have h1':=old j e1 h1
   by_cases e2:k=i
   ·
    subst e2
    rw [upd_same] at h2
    rcases (hm c).1 h2 with h2 | h2
    · exact h.one j k c h1' h2
    ·
     have:=hN c h2
     have:=(h.own j c h1').2.1
     omega
   · exact h.one j k c h1' (old k e2 h2)
 refine ⟨by simp [h.size],h.still.sees hsS,hchn,hchr,⟨h.keeps.fk,h.keeps.sf,h.keeps.kc,fun c hc=>Nat.lt_of_lt_of_le (h.keeps.kl c hc) hsz⟩,fun j y hj hy=>?_,hown',hone',?_,idle_upd h.idle ⟨by omega,by rw [← h.size];exact hlt⟩,fun j hj=>?_,?_,h.norel.app fun op hop=>?_,fun k hk=>?_,?_,h.an,fun k v hk=>?_⟩
 ·
  by_cases e:i=j
  ·
   subst e
   rw [get_map_set_same _ _ _ hlt] at hy
   cases hy
   rw [upd_same,hdeaf,hd0]
   exact hs
  ·
   rw [get_map_set _ _ _ _ e] at hy
   obtain ⟨z,hz,rfl⟩:=Option.map_eq_some_iff.1 hy
   have hsit:=h.sit j z hj hz
   rw [hsit.woken hp hchn hchr,upd_ne D _ (Ne.symm e),Deaf_other t e _ (g_ofE i _ _ _)]
   refine hsit.stay ⟨fun c hc=>?_,hsz,hout⟩
   rcases hc with hc | hc
   · exact hsS.1 c hc
   · exact hst c (h.own j c hc).2.1 fun hm=>e (h.one i j c hm hc)
 ·
  by_cases e:0=i
  · omega
  · rw [upd_ne D _ e];exact h.zero
 ·
  rw [Deaf_other t (by rw [h.size] at hlt;omega) _ (g_ofE i _ _ _)]
  exact h.above j hj
 ·
  have e:p.sets p.top (upd D i x')=(p.sets p.top D).own i N:=by
   have:(p.sets p.top (upd D i x')).mine=((p.sets p.top D).own i N).mine:=by
    funext j c
    show (upd D i x' j).mine c=((D j).mine c ∨ (j=i ∧ N c))
    by_cases e:j=i
    ·
     subst e
     rw [upd_same]
     simp [hm c]
    ·
     rw [upd_ne D _ e]
     simp [e]
   have e2:p.sets p.top (upd D i x')={ (p.sets p.top D).own i N with mine:=(p.sets p.top (upd D i x')).mine }:=rfl
   rw [e2,this]
  have hN':∀ c,N c → w.heap.size ≤ c:=fun c hc=>(hN c hc).1
  have k1:=((h.past.fresh (g:=i) (N:=N) hN').mono hsz)
  rw [← e] at k1
  refine k1.ownW (g:=i) (Pool.sets_ok hp (fun j c hc=>(hown' j c hc).2.2) hone') ⟨hi,by rw [← h.size];exact hlt⟩ (g_ofE i _ _ _) (fun op hop y hy=>?_) (fun op hop=>?_)
  ·
   obtain ⟨e,he,rfl⟩:=Go.Conc.mem_ofEvents hop
   obtain ⟨k1,k2⟩:=(hev e he).touch hy
   refine ⟨k1,or_map id (fun ⟨k,h1,h2⟩=>⟨k,?_,h2⟩) k2⟩
   show (upd D i x' i).mine k
   rw [upd_same]
   exact h1
  ·
   obtain ⟨e,he,rfl⟩:=Go.Conc.mem_ofEvents hop
   refine (hev e he).low fun c hc=>?_
   rcases hc with hc | hc
   · exact Nat.lt_of_lt_of_le (hp.slow c hc) (Nat.le_trans h.still.2 hsz)
   · exact (hown' i c (by rw [upd_same];exact hc)).2.1
 ·
  obtain ⟨e,he,rfl⟩:=Go.Conc.mem_ofEvents hop
  exact (hev e he).norel _
 ·
  rcases h.cover k hk with h1 | ⟨j,j1,j2,j3,j4⟩
  · exact .inl h1
  ·
   refine .inr ⟨j,j1,j2,?_⟩
   by_cases e:j=i
   · subst e;rw [upd_same,hh,hn];exact ⟨j3,j4⟩
   · rw [upd_ne D _ e];exact ⟨j3,j4⟩
 ·
  rw [← h.count]
  congr 1
  refine sumTo_congr fun j _=>?_
  by_cases e:j=i
  · subst e;rw [upd_same];exact hh
  · rw [upd_ne D _ e]
 ·
  obtain ⟨h1,h2⟩:=h.res k v hk
  exact ⟨h1,h2.stay (fun _=>id) (hS.less fun c hc=>h.keeps.fk c hc.1)⟩
theorem Pool.Hand.stepL (hp:p.Ok) (h:p.Hand gs w t a b dn Fx K D) {i:Nat} {g g':Goroutine} {es:Array Event} {m:Nat} (h0:0 < i) (hi:i < p.base) (hg:gs[i]? = some g)
  (hmute:∀ e ∈ es,Event.mute e=true) (hq:QuitsD P m (deafBehind (Deaf t i) es) g') (fn:FuncId) (pos:String) :
  p.Hand ((gs.map (woken P g g' w)).setIfInBounds i g') w (t ++ MemOp.ofEvents i fn pos es) a b dn Fx K (upd D i { D i with rank:=(m,(D i).rank.2) }):=by
 have hlt:=get_zero hg
 have hsame:∀ j,(upd D i { D i with rank:=(m,(D i).rank.2) } j).mine=(D j).mine ∧ (upd D i { D i with rank:=(m,(D i).rank.2) } j).hold=(D j).hold ∧ (upd D i { D i with rank:=(m,(D i).rank.2) } j).num=(D j).num:=fun j=>by
  by_cases e:j=i
  · subst e;rw [upd_same];exact ⟨rfl,rfl,rfl⟩
  · rw [upd_ne D _ e];exact ⟨rfl,rfl,rfl⟩
 refine ⟨by simp [h.size],h.still,h.chn,h.chr,h.keeps,fun j y hj hy=>?_,fun j c hc=>h.own j c (by rw [(hsame j).1] at hc;exact hc),fun j k c h1 h2=>h.one j k c (by rw [(hsame j).1] at h1;exact h1) (by rw [(hsame k).1] at h2;exact h2),by rw [(hsame 0).2.1];exact h.zero,idle_upd h.idle ⟨h0,by rw [← h.size];exact hlt⟩,fun j hj=>?_,?_,h.norel.app fun op hop=>?_,fun k hk=>?_,?_,h.an,h.res⟩
 ·
  by_cases e:i=j
  ·
   subst e
   rw [get_map_set_same _ _ _ hlt] at hy
   cases hy
   rw [upd_same,Deaf_own]
   rcases h.sit i g hj hg with ⟨-,k1,k2,-⟩ | ⟨k1,-⟩
   · exact .inl ⟨hi,k1,k2,hq⟩
   · omega
  ·
   rw [get_map_set _ _ _ _ e] at hy
   obtain ⟨z,hz,rfl⟩:=Option.map_eq_some_iff.1 hy
   have hsit:=h.sit j z hj hz
   rw [hsit.woken hp h.chn h.chr,upd_ne D _ (Ne.symm e),Deaf_other t e _ (g_ofE i _ _ _)]
   exact hsit
 ·
  rw [Deaf_other t (by rw [h.size] at hlt;omega) _ (g_ofE i _ _ _)]
  exact h.above j hj
 ·
  have e:p.sets p.top (upd D i { D i with rank:=(m,(D i).rank.2) })=p.sets p.top D:=by
   have:(p.sets p.top (upd D i { D i with rank:=(m,(D i).rank.2) })).mine=(p.sets p.top D).mine:=by
    funext j
    exact (hsame j).1
   have e2:p.sets p.top (upd D i { D i with rank:=(m,(D i).rank.2) })={ p.sets p.top D with mine:=(p.sets p.top (upd D i { D i with rank:=(m,(D i).rank.2) })).mine }:=rfl
   rw [e2,this]
  rw [e]
  refine h.past.mute (fun op hop=>?_) ?_ (fun op hop=>?_)
  ·
   obtain ⟨e,he,rfl⟩:=Go.Conc.mem_ofEvents hop
   exact touch_mute (hmute e he)
  ·
   rw [Deaf_other t (by omega) _ (g_ofE i _ _ _)]
   exact h.past.hears
  ·
   obtain ⟨e,he,rfl⟩:=Go.Conc.mem_ofEvents hop
   exact low_mute (hmute e he) _
 ·
  obtain ⟨e,he,rfl⟩:=Go.Conc.mem_ofEvents hop
  exact mute_norel (hmute e he) _
 ·
  rcases h.cover k hk with h1 | ⟨j,j1,j2,j3,j4⟩
  · exact .inl h1
  · exact .inr ⟨j,j1,j2,by rw [(hsame j).2.1];exact j3,by rw [(hsame j).2.2];exact j4⟩
 ·
  rw [← h.count]
  congr 1
  exact sumTo_congr fun j _=>(hsame j).2.1
end
section
variable {P:Program} {p:Pool P} {gs:Array Goroutine} {w w':World} {t:Trace} {a b:Nat} {dn:Nat → Option Value} {Fx K:Nat → Prop} {D:Nat → Wk P}
theorem Pool.Hand.step0 (hp:p.Ok) (h:p.Hand gs w t a b dn Fx K D) {g g':Goroutine} {es:Array Event} (ho:Own0 Fx p.Sh K w w' es) (fn:FuncId) (pos:String) :
  p.Hand ((gs.map (woken P g g' w')).setIfInBounds 0 g') w' (t ++ MemOp.ofEvents 0 fn pos es) a b dn Fx (grown K w w') D:=by
 have hF:∀ c,Fx c → w'.heap[c]? = w.heap[c]?:=fun c hc=>ho.stand c (h.keeps.kl c (h.keeps.fk c hc)) (.inl hc)
 have hsF:Sees Fx w w':=⟨hF,ho.size,ho.out⟩
 have hsS:Sees p.S w w':=hsF.less fun c hc=>h.keeps.sf c (.inl hc)
 have hlt:∀ c,c < p.w0.heap.size → c < w.heap.size:=fun c hc=>Nat.lt_of_lt_of_le hc h.still.2
 have hchn:∃ s tm,w'.heap[p.cn]? = some (.chan 0 #[] false s s tm):=by rw [ho.stand _ (hlt _ hp.clow.1) (.inr h.keeps.kc.1)];exact h.chn
 have hchr:∃ s tm,w'.heap[p.cr]? = some (.chan 0 #[] false s s tm):=by rw [ho.stand _ (hlt _ hp.clow.2) (.inr h.keeps.kc.2)];exact h.chr
 have hlow:∀ op ∈ MemOp.ofEvents 0 fn pos es,op.act.low w'.heap.size:=fun op hop=>by
  obtain ⟨e,he,rfl⟩:=Go.Conc.mem_ofEvents hop
  obtain ⟨ad,wr,rfl,h1,h2,h3,h4⟩:=ho.evs e he
  exact h2
 refine ⟨by simp [h.size],h.still.sees hsS,hchn,hchr,⟨fun c hc=>.inl (h.keeps.fk c hc),h.keeps.sf,⟨fun hc=>?_,fun hc=>?_⟩,fun c hc=>?_⟩,fun j y hj hy=>?_,fun j c hc=>?_,h.one,h.zero,h.idle,fun j hj=>?_,?_,h.norel.app fun op hop=>?_,h.cover,h.count,h.an,fun k v hk=>?_⟩
 ·
  rcases hc with hc | hc
  · exact h.keeps.kc.1 hc
  ·
   have:=hlt _ hp.clow.1
   omega
 ·
  rcases hc with hc | hc
  · exact h.keeps.kc.2 hc
  ·
   have:=hlt _ hp.clow.2
   omega
 ·
  rcases hc with hc | hc
  · exact Nat.lt_of_lt_of_le (h.keeps.kl c hc) ho.size
  · exact hc.2
 ·
  have e:0 ≠ j:=by omega
  rw [get_map_set _ _ _ _ e] at hy
  obtain ⟨z,hz,rfl⟩:=Option.map_eq_some_iff.1 hy
  have hsit:=h.sit j z hj hz
  rw [hsit.woken hp hchn hchr,Deaf_other t e _ (g_ofE 0 _ _ _)]
  refine hsit.stay ⟨fun c hc=>?_,ho.size,ho.out⟩
  rcases hc with hc | hc
  · exact hsS.1 c hc
  · exact ho.stand c (h.own j c hc).2.1 (.inr (h.own j c hc).1)
 ·
  obtain ⟨h1,h2,h3⟩:=h.own j c hc
  refine ⟨?_,Nat.lt_of_lt_of_le h2 ho.size,h3⟩
  rintro (h4 | h4)
  · exact h1 h4
  · omega
 ·
  rw [Deaf_other t (by have:=hp.pos;have:=hp.top;omega) _ (g_ofE 0 _ _ _)]
  exact h.above j hj
 ·
  refine (h.past.mono ho.size).own0 (h.ok hp) (g_ofE 0 _ _ _) (fun op hop y hy=>?_) ?_ hlow
  ·
   obtain ⟨e,he,rfl⟩:=Go.Conc.mem_ofEvents hop
   obtain ⟨ad,wr,rfl,h1,h2,h3,h4⟩:=ho.evs e he
   simp [MemAct.ofEvent,MemAct.touch?] at hy
   subst hy
   refine ⟨?_,?_,?_⟩
   ·
    rintro ⟨a',e',hS⟩
    cases e'
    cases wr with
    | false=>rfl
    | true=>exact absurd (h.keeps.sf _ (.inl hS)) (h3 rfl)
   ·
    rintro ⟨a',e',hS⟩
    cases e'
    exact absurd hS h4
   ·
    intro j k hk hin
    have hin:ad.block=k:=hin
    subst hin
    obtain ⟨k1,k2,k3⟩:=h.own j _ hk
    rcases h1 with h1 | h1
    · exact k1 h1
    · omega
  ·
   rw [Deaf_own]
   rw [deafBehind_idle fun e he=>?_]
   · exact h.past.hears
   ·
    obtain ⟨ad,wr,rfl,-⟩:=ho.evs e he
    simp
 ·
  obtain ⟨e,he,rfl⟩:=Go.Conc.mem_ofEvents hop
  obtain ⟨ad,wr,rfl,-⟩:=ho.evs e he
  simp [MemAct.ofEvent]
 ·
  obtain ⟨h1,h2⟩:=h.res k v hk
  exact ⟨h1,h2.stay (fun _=>id) (hsF.less fun c hc=>hc.1)⟩
theorem heap_setChan_ne {w:World} {c e:Nat} (h:e ≠ c) (cap:Nat) (buf:Array Value) (cl:Bool) (s r:Nat) (tm:Bool):(w.setChan c cap buf cl s r tm).heap[e]? = w.heap[e]?:=by
 simp [World.setChan,Array.getElem?_setIfInBounds_ne (Ne.symm h)]
theorem heap_setChan {w:World} {c:Nat} (h:c < w.heap.size) (cap:Nat) (buf:Array Value) (cl:Bool) (s r:Nat) (tm:Bool):(w.setChan c cap buf cl s r tm).heap[c]? = some (.chan cap buf cl s r tm):=by
 simp [World.setChan,h]
theorem size_setChan {w:World} {c:Nat} (cap:Nat) (buf:Array Value) (cl:Bool) (s r:Nat) (tm:Bool):(w.setChan c cap buf cl s r tm).heap.size=w.heap.size:=by
 simp [World.setChan]
theorem met_norel {h j:Nat} {fh:FuncId} {ph:String} {fj:FuncId} {pj:String} {c k cap:Nat} {op:MemOp} (hop:op ∈ met h j fh ph fj pj c k cap) {a:Addr}:op.act ≠ .mark (.release a):=by
 simp only [met,List.mem_toArray,List.mem_cons,List.not_mem_nil,or_false] at hop
 rcases hop with rfl | rfl | rfl | rfl <;> simp
theorem Pool.Hand.handed (hp:p.Ok) (h:p.Hand gs w t a b dn Fx K D) {j:Nat} {g:Goroutine} (hj:p.base ≤ j) (hjt:j < p.top) (hh:(D j).hold=0) (hm:∀ c,¬ (D j).mine c) (hd:Deaf t j=0) (hr:p.Recv g) (han:a < p.n)
  {s:Nat} {tm:Bool} (hc:w.heap[p.cn]? = some (.chan 0 #[] false s s tm)) {gs':Array Goroutine} (hsz:gs'.size=gs.size) (hoth:∀ k,k ≠ 0 → k ≠ j → gs'[k]? = gs[k]?)
  (hgj:gs'[j]? = some (g.finishComm P #[rcase p.cn p.zn] (.recv true) 0 (.int .i64 a) true)) (f0:FuncId) (p0:String) (fj:FuncId) (pj:String) (d:Nat) :
  ∃ x,p.Hand gs' ((w.at d).setChan p.cn 0 #[] false (s+1) (s+1) tm) (t ++ met 0 j f0 p0 fj pj p.cn s 0) (a+1) b dn Fx K (upd D j x):=by
 obtain ⟨m,c,hcal,hwk⟩:=hp.got g a hr han
 refine ⟨⟨1,(m+61,none),fun _=>False,a⟩,?_⟩
 have hj0:j ≠ 0:=by have:=hp.pos;omega
 have hcl:p.cn < (w.at d).heap.size:=get_zero hc
 have hne:∀ e,e ≠ p.cn → ((w.at d).setChan p.cn 0 #[] false (s+1) (s+1) tm).heap[e]? = w.heap[e]?:=fun e he=>heap_setChan_ne he _ _ _ _ _ _
 have hsize:((w.at d).setChan p.cn 0 #[] false (s+1) (s+1) tm).heap.size=w.heap.size:=size_setChan _ _ _ _ _ _
 have hsees:∀ Z:Nat → Prop,¬ Z p.cn → Sees Z w ((w.at d).setChan p.cn 0 #[] false (s+1) (s+1) tm):=fun Z hz=>⟨fun e he=>hne e fun x=>hz (x ▸ he),Nat.le_of_eq hsize.symm,rfl,rfl⟩
 have hSc:¬ p.S p.cn:=fun hs=>h.keeps.kc.1 (h.keeps.fk _ (h.keeps.sf _ (.inl hs)))
 have hdf:∀ k,Deaf (t ++ met 0 j f0 p0 fj pj p.cn s 0) k=Deaf t k:=fun k=>Deaf_quiet (met_quiet 0 j f0 p0 fj pj p.cn s 0 k)
 have hsame:∀ k e,k ≠ j → (upd D j (⟨1,(m+61,none),fun _=>False,a⟩:Wk P) k).mine e → (D k).mine e:=fun k e hk h1=>by rw [upd_ne D _ hk] at h1;exact h1
 have hnoj:∀ e,¬ (upd D j (⟨1,(m+61,none),fun _=>False,a⟩:Wk P) j).mine e:=fun e h1=>by rw [upd_same] at h1;exact h1
 refine ⟨hsz.trans h.size,h.still.sees (hsees _ hSc),⟨s+1,tm,heap_setChan hcl _ _ _ _ _ _⟩,by rw [hne _ (Ne.symm hp.ne)];exact h.chr,⟨h.keeps.fk,h.keeps.sf,h.keeps.kc,fun c hc=>by rw [hsize];exact h.keeps.kl c hc⟩,fun k y hk hy=>?_,fun k e he=>?_,fun k l e h1 h2=>?_,?_,idle_upd h.idle ⟨by omega,hjt⟩,fun k hk=>by rw [hdf];exact h.above k hk,?_,h.norel.app fun op hop=>met_norel hop,fun k hk=>?_,?_,han,fun k v hk=>?_⟩
 ·
  rw [hdf]
  by_cases e:k=j
  ·
   subst e
   rw [hgj] at hy
   cases hy
   rw [upd_same,hd]
   exact .inr ⟨hj,rfl,.inr (.inr (.inl ⟨rfl,han,fun _=>id,m,c,rfl,hcal,hwk⟩))⟩
  ·
   rw [hoth k (by omega) e] at hy
   rw [upd_ne D _ e]
   refine (h.sit k y hk hy).stay (hsees _ ?_)
   rintro (h1 | h1)
   · exact hSc h1
   ·
    have:=(h.own k _ h1).2.2
    have:=hp.clow.1
    omega
 ·
  by_cases hkj:k=j
  · subst hkj;exact absurd he (hnoj e)
  · rw [hsize];exact h.own k e (hsame k e hkj he)
 ·
  by_cases hkj:k=j
  · subst hkj;exact absurd h1 (hnoj e)
  ·
   by_cases hlj:l=j
   · subst hlj;exact absurd h2 (hnoj e)
   · exact h.one k l e (hsame k e hkj h1) (hsame l e hlj h2)
 · rw [upd_ne D _ (Ne.symm hj0)];exact h.zero
 ·
  have e:p.sets p.top (upd D j (⟨1,(m+61,none),fun _=>False,a⟩:Wk P))=p.sets p.top D:=by
   have:(p.sets p.top (upd D j (⟨1,(m+61,none),fun _=>False,a⟩:Wk P))).mine=(p.sets p.top D).mine:=by
    funext k e
    by_cases hkj:k=j
    ·
     subst hkj
     exact propext ⟨fun h1=>absurd h1 (hnoj e),fun h1=>absurd h1 (hm e)⟩
    ·
     show (upd D j _ k).mine e=(D k).mine e
     rw [upd_ne D _ hkj]
   have e2:p.sets p.top (upd D j (⟨1,(m+61,none),fun _=>False,a⟩:Wk P))={ p.sets p.top D with mine:=(p.sets p.top (upd D j (⟨1,(m+61,none),fun _=>False,a⟩:Wk P))).mine }:=rfl
   rw [e2,this]
  rw [e,hsize]
  refine h.past.mute (met_mute 0 j f0 p0 fj pj p.cn s 0) ((hdf 0).trans h.past.hears) fun op hop=>?_
  simp only [met,List.mem_toArray,List.mem_cons,List.not_mem_nil,or_false] at hop
  rcases hop with rfl | rfl | rfl | rfl <;> exact hcl
 ·
  rcases Nat.lt_or_ge k a with hlt | hge
  ·
   rcases h.cover k hlt with h1 | ⟨l,l1,l2,l3,l4⟩
   · exact .inl h1
   ·
    have hlj:l ≠ j:=fun e=>by subst e;omega
    exact .inr ⟨l,l1,l2,by rw [upd_ne D _ hlj];exact ⟨l3,l4⟩⟩
  ·
   obtain rfl:k=a:=by omega
   exact .inr ⟨j,hj,hjt,by rw [upd_same];exact ⟨rfl,rfl⟩⟩
 ·
  have e1:=sumTo_upd D (⟨1,(m+61,none),fun _=>False,a⟩:Wk P) Wk.hold hjt
  have:=h.count
  dsimp only at e1
  omega
 ·
  obtain ⟨h1,h2⟩:=h.res k v hk
  exact ⟨h1,h2.stay (fun _=>id) (hsees _ fun hf=>h.keeps.kc.1 (h.keeps.fk _ hf.1))⟩
theorem Pool.Hand.took (hp:p.Ok) (h:p.Hand gs w t a b dn Fx K D) {j:Nat} {g:Goroutine} {v:Value} (hj:p.base ≤ j) (hjt:j < p.top) (hh:(D j).hold=1) (hnum:(D j).num < p.n) (hmade:p.Made (D j).num v (fun c=>p.S c ∨ (D j).mine c) w) (hd:Deaf t j=0) (hr:p.Send (p.val (D j).num v) g)
  {s:Nat} {tm:Bool} (hc:w.heap[p.cr]? = some (.chan 0 #[] false s s tm)) {gs':Array Goroutine} (hsz:gs'.size=gs.size) (hoth:∀ k,k ≠ 0 → k ≠ j → gs'[k]? = gs[k]?)
  (hgj:gs'[j]? = some (g.finishComm P #[scase p.cr (p.val (D j).num v) p.zr] .send 0 undef false)) (f0:FuncId) (p0:String) (fj:FuncId) (pj:String) (d:Nat) :
  ∃ x,p.Hand gs' ((w.at d).setChan p.cr 0 #[] false (s+1) (s+1) tm) (t ++ met j 0 fj pj f0 p0 p.cr s 0) a (b+1) (upd dn (D j).num (some v)) (fun c=>Fx c ∨ (D j).mine c) (fun c=>K c ∨ (D j).mine c) (upd D j x):=by
 obtain ⟨m,g',hwk,hrec⟩:=hp.sent _ g hr
 refine ⟨⟨0,(m+1,none),fun _=>False,0⟩,?_⟩
 have hj0:j ≠ 0:=by have:=hp.pos;omega
 have hcl:p.cr < (w.at d).heap.size:=get_zero hc
 have hne:∀ e,e ≠ p.cr → ((w.at d).setChan p.cr 0 #[] false (s+1) (s+1) tm).heap[e]? = w.heap[e]?:=fun e he=>heap_setChan_ne he _ _ _ _ _ _
 have hsize:((w.at d).setChan p.cr 0 #[] false (s+1) (s+1) tm).heap.size=w.heap.size:=size_setChan _ _ _ _ _ _
 have hsees:∀ Z:Nat → Prop,¬ Z p.cr → Sees Z w ((w.at d).setChan p.cr 0 #[] false (s+1) (s+1) tm):=fun Z hz=>⟨fun e he=>hne e fun x=>hz (x ▸ he),Nat.le_of_eq hsize.symm,rfl,rfl⟩
 have hSc:¬ p.S p.cr:=fun hs=>h.keeps.kc.2 (h.keeps.fk _ (h.keeps.sf _ (.inl hs)))
 have hmc:∀ k c,(D k).mine c → c ≠ p.cn ∧ c ≠ p.cr:=fun k c hc=>by
  have:=(h.own k c hc).2.2
  have:=hp.clow
  exact ⟨by omega,by omega⟩
 have hdf:∀ k,Deaf (t ++ met j 0 fj pj f0 p0 p.cr s 0) k=Deaf t k:=fun k=>Deaf_quiet (met_quiet j 0 fj pj f0 p0 p.cr s 0 k)
 have hsame:∀ k e,k ≠ j → (upd D j (⟨0,(m+1,none),fun _=>False,0⟩:Wk P) k).mine e → (D k).mine e:=fun k e hk h1=>by rw [upd_ne D _ hk] at h1;exact h1
 have hnoj:∀ e,¬ (upd D j (⟨0,(m+1,none),fun _=>False,0⟩:Wk P) j).mine e:=fun e h1=>by rw [upd_same] at h1;exact h1
 refine ⟨hsz.trans h.size,h.still.sees (hsees _ hSc),by rw [hne _ hp.ne];exact h.chn,⟨s+1,tm,heap_setChan hcl _ _ _ _ _ _⟩,⟨fun c hc=>or_map (h.keeps.fk c) id hc,fun c hc=>.inl (h.keeps.sf c hc),⟨fun hc=>?_,fun hc=>?_⟩,fun c hc=>?_⟩,fun k y hk hy=>?_,fun k e he=>?_,fun k l e h1 h2=>?_,?_,idle_upd h.idle ⟨by omega,hjt⟩,fun k hk=>by rw [hdf];exact h.above k hk,?_,h.norel.app fun op hop=>met_norel hop,fun k hk=>?_,?_,h.an,fun k u hk=>?_⟩
 ·
  rcases hc with hc | hc
  · exact h.keeps.kc.1 hc
  · exact (hmc j _ hc).1 rfl
 ·
  rcases hc with hc | hc
  · exact h.keeps.kc.2 hc
  · exact (hmc j _ hc).2 rfl
 ·
  rw [hsize]
  rcases hc with hc | hc
  · exact h.keeps.kl c hc
  · exact (h.own j c hc).2.1
 ·
  rw [hdf]
  by_cases e:k=j
  ·
   subst e
   rw [hgj] at hy
   cases hy
   rw [upd_same,hd]
   exact .inr ⟨hj,rfl,.inl ⟨rfl,fun _=>id,m,g',rfl,hwk,hrec⟩⟩
  ·
   rw [hoth k (by omega) e] at hy
   rw [upd_ne D _ e]
   refine (h.sit k y hk hy).stay (hsees _ ?_)
   rintro (h1 | h1)
   · exact hSc h1
   · exact (hmc k _ h1).2 rfl
 ·
  by_cases hkj:k=j
  · subst hkj;exact absurd he (hnoj e)
  ·
   rw [hsize]
   obtain ⟨k1,k2,k3⟩:=h.own k e (hsame k e hkj he)
   refine ⟨?_,k2,k3⟩
   rintro (h1 | h1)
   · exact k1 h1
   · exact hkj (h.one k j e (hsame k e hkj he) h1)
 ·
  by_cases hkj:k=j
  · subst hkj;exact absurd h1 (hnoj e)
  ·
   by_cases hlj:l=j
   · subst hlj;exact absurd h2 (hnoj e)
   · exact h.one k l e (hsame k e hkj h1) (hsame l e hlj h2)
 · rw [upd_ne D _ (Ne.symm hj0)];exact h.zero
 ·
  have e:p.sets p.top (upd D j (⟨0,(m+1,none),fun _=>False,0⟩:Wk P))=(p.sets p.top D).drop j:=by
   have:(p.sets p.top (upd D j (⟨0,(m+1,none),fun _=>False,0⟩:Wk P))).mine=((p.sets p.top D).drop j).mine:=by
    funext k e
    by_cases hkj:k=j
    ·
     subst hkj
     exact propext ⟨fun h1=>absurd h1 (hnoj e),fun h1=>absurd rfl h1.2⟩
    ·
     show (upd D j _ k).mine e=((D k).mine e ∧ k ≠ j)
     rw [upd_ne D _ hkj]
     simp [hkj]
   have e2:p.sets p.top (upd D j (⟨0,(m+1,none),fun _=>False,0⟩:Wk P))={ (p.sets p.top D).drop j with mine:=(p.sets p.top (upd D j (⟨0,(m+1,none),fun _=>False,0⟩:Wk P))).mine }:=rfl
   rw [e2,this]
  rw [e,hsize]
  exact h.past.give hd fj pj f0 p0 s 0 hcl
 ·
  rcases h.cover k hk with h1 | ⟨l,l1,l2,l3,l4⟩
  ·
   by_cases ek:k=(D j).num
   · subst ek;rw [upd_same];exact .inl (by simp)
   · rw [upd_ne dn _ ek];exact .inl h1
  ·
   by_cases hlj:l=j
   ·
    subst hlj
    subst l4
    rw [upd_same]
    exact .inl (by simp)
   · exact .inr ⟨l,l1,l2,by rw [upd_ne D _ hlj];exact ⟨l3,l4⟩⟩
 ·
  have e1:=sumTo_upd D (⟨0,(m+1,none),fun _=>False,0⟩:Wk P) Wk.hold hjt
  have:=h.count
  dsimp only at e1
  omega
 ·
  by_cases ek:k=(D j).num
  ·
   subst ek
   rw [upd_same] at hk
   cases hk
   refine ⟨hnum,(hmade.stay (Z':=fun c=>(Fx c ∨ (D j).mine c) ∧ ¬ p.Sh c) (fun c hc=>⟨or_map (fun x=>h.keeps.sf c (.inl x)) id hc,fun hsh=>hc.elim (fun x=>hp.parted c x hsh) fun x=>by have:=(h.own j c x).2.2;have:=hp.shlow c hsh;omega⟩) (hsees _ ?_))⟩
   rintro (h1 | h1)
   · exact hSc h1
   · exact (hmc j _ h1).2 rfl
  ·
   rw [upd_ne dn _ ek] at hk
   obtain ⟨h1,h2⟩:=h.res k u hk
   exact ⟨h1,h2.stay (fun _ hc=>⟨.inl hc.1,hc.2⟩) (hsees _ fun hf=>h.keeps.kc.2 (h.keeps.fk _ hf.1))⟩
end
end Go.Proofs.YtbokomeejmnnoaaDoor
