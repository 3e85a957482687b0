/- Own facts, put together: no statement of its own. -/
import Derived.Test.YtbokomeejmnnoaaDoorD23
import Derived.Test.YtbokomeejmnnoaaDoorD16
import Derived.Test.YtbokomeejmnnoaaDoorD17
set_option maxHeartbeats 1000000

namespace Go.Proofs.YtbokomeejmnnoaaDoor
open Go.Conc
section
variable {α β γ:Type} {P:Program} {H:Nat → Prop} {p:Plan}
def pitK:Item:=.code (.refuse "")
structure FrameM (P:Program) (p:Plan) (fr:Frame):Prop where
 isIn:∃ f0,P.funcs[fr.fn]? = some f0
 items:∃ l q,fr.todo=l ++ q ∧ (q=[] ∨ q=[pitK]) ∧ ∀ x ∈ l,itemM P p (p.Kf fr.fn) x=true
 flow:∀ s ∈ p.Kf fr.fn,GoodF p (fr.tmps.getD s undef)
 defers:fr.defers=[]
 modes:fr.mode=.run ∨ fr.mode=.returning
 kind:fr.kind=.normal
 round:fr.roundOf=none
def WaitsM (p:Plan) (fr:Frame):Prop:=∃ ops i rest k,fr.todo=.inRegion ops (i :: rest) :: k ∧ ∀ d,(ops[i]?).bind (·.dst)=some d → d ∉ p.Kf fr.fn
structure InvM (P:Program) (p:Plan) (f:Frame) (cs:List Frame):Prop where
 top:FrameM P p f
 stack:∃ cs0,cs=cs0 ++ [pit] ∧ ∀ g ∈ cs0,FrameM P p g ∧ WaitsM p g
def swK (k:List Item) (l:List Item):List Item:=if (match l.getLast? with | some (.code (.refuse _))=>true | _=>false) then l.dropLast ++ k else l
def swF (k:List Item) (f:Frame):Frame:={ f with todo:=swK k f.todo }
def swS (k:List Item) (c:List Frame) (cs:List Frame):List Frame:=cs.flatMap fun g=>if g.defers.isEmpty then [swF k g] else c
theorem itemM_not {ks:List Nat} {x:Item} (h:itemM P p ks x=true) (m:String):x ≠ .code (.refuse m):=fun e=>by
 subst e
 cases h
theorem swK_let {ks:List Nat} {k l:List Item} (h:∀ x ∈ l,itemM P p ks x=true):swK k l=l:=by
 unfold swK
 rw [if_neg]
 cases hl:l.getLast? with
 | none=>simp
 | some x=>
  have:=h x (List.mem_of_getLast? hl)
  intro hc
  split at hc
  ·
   rename_i e
   cases e
   exact itemM_not this _ rfl
  · cases hc
theorem swK_pit (k l:List Item):swK k (l ++ [pitK])=l ++ k:=by
 unfold swK
 simp [pitK]
theorem sw_rest (k q:List Item) (hq:q=[] ∨ q=[pitK]):∃ sq,∀ (ks:List Nat) (l:List Item),(∀ x ∈ l,itemM P p ks x=true) → swK k (l ++ q)=l ++ sq:=by
 rcases hq with rfl | rfl
 · exact ⟨[],fun ks l h=>by rw [List.append_nil];exact swK_let h⟩
 · exact ⟨k,fun ks l _=>swK_pit k l⟩
theorem exitTo_app {id:Nat}:∀ (l k:List Item),(∃ l',exitTo id l=some l' ∧ exitTo id (l ++ k)=some (l' ++ k)) ∨ exitTo id (l ++ k)=exitTo id k
 | [],k=>.inr rfl
 | x :: l,k=>by
  have ih:=exitTo_app (id:=id) l k
  cases x <;> simp only [exitTo,List.cons_append] <;> first | exact ih | skip
  split
  · exact .inl ⟨l,rfl,rfl⟩
  · exact ih
theorem exitTo_in {id:Nat}:∀ {l l':List Item} {k:List Item},exitTo id l=some l' → exitTo id (l ++ k)=some (l' ++ k)
 | [],_,_,h=>by cases h
 | x :: l,l',k,h=>by
  cases x <;> simp only [exitTo,List.cons_append] at h ⊢ <;> first | exact exitTo_in h | skip
  split at h
  ·
   rename_i e
   cases h
   rw [if_pos e]
  ·
   rename_i e
   rw [if_neg e]
   exact exitTo_in h
theorem FrameM.to {f:Frame} (h:FrameM P p f) (l q:List Item) (hq:q=[] ∨ q=[pitK]) (hl:∀ y ∈ l,itemM P p (p.Kf f.fn) y=true):FrameM P p { f with todo:=l ++ q }:={ h with items:=⟨l,q,rfl,hq,hl⟩ }
theorem FrameM.ret {f:Frame} (h:FrameM P p f):FrameM P p { f with mode:=.returning }:={ h with modes:=.inr rfl }
theorem FrameM.form {f:Frame} (h:FrameM P p f) (hn:¬ (f.mode=.run ∧ f.todo=[pitK])):FrameForm P f:=by
 refine ⟨h.isIn,fun hm x hx=>?_,h.defers,h.modes,h.kind,h.round⟩
 obtain ⟨l,q,h1,h2,h3⟩:=h.items
 cases l with
 | nil=>
  rcases h2 with rfl | rfl
  · rw [h1] at hx;cases hx
  · exact absurd ⟨hm,h1⟩ hn
 | cons y l=>
  rw [h1] at hx
  cases hx
  have:=h3 x (List.mem_cons_self ..)
  cases x <;> simp only [itemM] at this <;> first | rfl | (cases this;done) | skip
  rename_i c
  cases c <;> simp only [codeM] at this <;> first | rfl | cases this
theorem swF_finish (k:List Item) {f:Frame} (h:FrameM P p f) {ops:Array Oper} {i:Nat} {rest:List Nat} {k1:List Item} (ht:f.todo=.inRegion ops (i :: rest) :: k1) (v:Value) (hv:∀ d,(ops[i]?).bind (·.dst)=some d → d ∈ p.Kf f.fn → GoodF p v) :
  (swF k f).finish v=swF k (f.finish v) ∧ FrameM P p (f.finish v):=by
 obtain ⟨l,q,h1,h2,h3⟩:=h.items
 obtain ⟨sq,hsq⟩:=sw_rest (P:=P) (p:=p) k q h2
 cases l with
 | nil=>
  rcases h2 with rfl | rfl
  · rw [h1] at ht;cases ht
  · rw [h1] at ht;cases ht
 | cons x l=>
  rw [ht] at h1
  simp only [List.cons_append,List.cons.injEq] at h1
  obtain ⟨rfl,rfl⟩:=h1
  have h4:∀ y ∈ l,itemM P p (p.Kf f.fn) y=true:=fun y hy=>h3 y (List.mem_cons_of_mem _ hy)
  have h5:∀ (r:List Nat) y,y ∈ Item.inRegion ops r :: l → itemM P p (p.Kf f.fn) y=true:=fun r y hy=>by
   rcases List.mem_cons.1 hy with rfl | hy
   · exact (h3 (.inRegion ops (i :: rest)) (List.mem_cons_self ..):_)
   · exact h4 y hy
  have e1:∀ r,swK k (.inRegion ops r :: (l ++ q))=.inRegion ops r :: (l ++ sq):=fun r=>hsq _ (.inRegion ops r :: l) (h5 r)
  refine ⟨?_,?_⟩
  · simp only [Frame.finish,swF,ht,e1]
  ·
   have hi:=h.items
   simp only [Frame.finish,ht]
   refine ⟨h.isIn,⟨.inRegion ops rest :: l,q,rfl,h2,h5 rest⟩,fun s hs=>?_,h.defers,h.modes,h.kind,h.round⟩
   dsimp only
   cases hd:(ops[i]?).bind (·.dst) with
   | none=>exact h.flow s hs
   | some d=>
    dsimp only
    rw [Array.getD_eq_getD_getElem?,Array.getElem?_setIfInBounds]
    by_cases e:d=s
    ·
     subst e
     rw [if_pos rfl]
     split
     · exact hv d hd hs
     · exact .inl rfl
    ·
     rw [if_neg e,← Array.getD_eq_getD_getElem?]
     exact h.flow s hs
theorem enter_M (hF:FnsOkM P p H) {g:FuncId} {args:Array Value} (h:NextM P p (.enter g args)) (k:List Item):FrameM P p (Frame.enter P g args .normal) ∧ swF k (Frame.enter P g args .normal)=Frame.enter P g args .normal:=by
 obtain ⟨h1,⟨fn,c,h2,h3⟩,h4⟩:=h
 obtain ⟨fn',k1,-,⟨c',k3,k4⟩ | ⟨k3,-⟩ | k3⟩:=hF g h1
 ·
  rw [h2] at k1
  cases k1
  rw [h3] at k3
  cases k3
  have ht:(Frame.enter P g args .normal).todo=[.code c]:=by simp [Frame.enter,h2,h3]
  have hi:∀ x ∈ [Item.code c],itemM P p (p.Kf g) x=true:=fun x hx=>by
   rw [List.mem_singleton.1 hx]
   exact k4
  refine ⟨⟨⟨fn,h2⟩,⟨[.code c],[],by rw [ht];rfl,.inl rfl,hi⟩,fun s hs=>?_,rfl,.inl rfl,rfl,rfl⟩,?_⟩
  ·
   have:=h4 s hs
   show GoodF p ((args ++ _).getD s undef)
   rw [Array.getD_eq_getD_getElem?] at this ⊢
   rw [Array.getElem?_append]
   split
   · exact this
   ·
    rename_i hlt
    rw [Array.getElem?_replicate]
    split
    · exact .inl rfl
    · exact .inl rfl
  ·
   unfold swF
   rw [ht,swK_let hi,← ht]
 ·
  rw [h2] at k1
  cases k1
  rw [h3] at k3
  cases k3
 ·
  exfalso
  rw [h2] at k1
  cases k1
  obtain ⟨x,w1,hx,-⟩:=k3 #[] default
  unfold callFunc at hx
  simp [program,Sem.run,h2,h3] at hx
  split at hx <;> cases hx
def MSimF (P:Program) (H:Nat → Prop) (I:α → Prop) (φ:α → β) (s:Sem α) (s':Sem β):Prop:=∀ v w,Mask H v w → (∃ h v',s.run P v=.halt h v' ∧ Mild h) ∨ ∃ a v' w' u,s.run P v=.ok a v' ∧ I a ∧ s'.run P w=.ok (φ a) w' ∧ Mask H v' w' ∧ Kept H w w' ∧
 (∀ es,s'.events P w es=es ++ u) ∧ (∀ e ∈ u,OffH H w'.heap.size e) ∧ LocTp P s v a v'
theorem msimF_pure {I:α → Prop} {φ:α → β} {a:α} {b:β} (hI:I a) (hb:φ a=b):MSimF P H I φ (pure a) (pure b):=fun v w hm=>
 .inr ⟨a,v,w,#[],rfl,hI,by rw [hb];rfl,hm,Kept.refl _ _,fun es=>by simp,by simp,rfl,Nat.le_refl _,fun _ _=>rfl⟩
theorem msimF_dies {I:α → Prop} {φ:α → β} {s:Sem α} {s':Sem β} (h:Dies P s):MSimF P H I φ s s':=fun v _ _=>.inl (h v)
theorem msimF_bind {I:β → Prop} {φ:β → γ} {s:Sem α} {f:α → Sem β} {f':α → Sem γ} (h:MSim P H s) (k:∀ a,(∃ w w',s.run P w=.ok a w') → MSimF P H I φ (f a) (f' a)):MSimF P H I φ (s >>= f) (s >>= f'):=fun v w hm=>by
 rcases h v w hm with ⟨x,v1,h1,hx⟩ | ⟨a,v1,w1,u1,h0,h1,h2,h3,h4,h5,h6⟩
 · exact .inl ⟨x,v1,by simp [h1],hx⟩
 ·
  rcases k a ⟨v,v1,h0⟩ v1 w1 h2 with ⟨x,v2,k1,hx⟩ | ⟨b,v2,w2,u2,k0,hI,k1,k2,k3,k4,k5,k6⟩
  · exact .inl ⟨x,v2,by simp [h0,k1],hx⟩
  ·
   refine .inr ⟨b,v2,w2,u1 ++ u2,by simp [h0,k0],hI,by simp [h1,k1],k2,h3.trans k3,fun es=>by simp [h1,h4,k4,Array.append_assoc],fun x hx=>?_,h6.bind k6⟩
   rcases Array.mem_append.1 hx with hx | hx
   · exact (h5 x hx).mono k3.size
   · exact k5 x hx
theorem msim_results (fn:Func) (a:Array Value):MSim P H (results fn a):=by
 unfold results
 refine msim_bind (msim_mapA (fun x=>?_) _) fun l=>?_
 ·
  cases x with
  | tmp t=>exact msim_pure _
  | cell c t=>exact msim_bind (msim_asAddr _) fun _=>msim_loadVar _ _
 · split <;> exact msim_pure _
theorem swS_cons {k:List Item} {c:List Frame} {g:Frame} (h:g.defers=[]) (cs:List Frame):swS k c (g :: cs)=swF k g :: swS k c cs:=by simp [swS,h]
theorem msim_own (hF:FnsOkM P p H) (k:List Item) (c:List Frame) {f:Frame} {cs:List Frame} (h:InvM P p f cs) (hn:¬ (f.mode=.returning ∧ cs=[pit])) (hp:¬ (f.mode=.run ∧ f.todo=[pitK])) :
  MSimF P H (fun x:Frame × List Frame=>InvM P p x.1 x.2) (fun x=>(swF k x.1,swS k c x.2)) (own P f cs) (own P (swF k f) (swS k c cs)):=by
 obtain ⟨ht,hst⟩:=h
 obtain ⟨l,q,h1,h2,h3⟩:=ht.items
 obtain ⟨sq,hsq⟩:=sw_rest (P:=P) (p:=p) k q h2
 obtain ⟨fn,tmps,todo,defers,mode,kind,ro⟩:=f
 dsimp only at h1 h3 hn hp
 subst h1
 have hsw:∀ l' m,(∀ y ∈ l',itemM P p (p.Kf fn) y=true) → swF k ⟨fn,tmps,l' ++ q,defers,m,kind,ro⟩=⟨fn,tmps,l' ++ sq,defers,m,kind,ro⟩:=fun l' m h=>by simp only [swF];rw [hsq _ l' h]
 rw [hsw l mode h3]
 have go:∀ l',(∀ y ∈ l',itemM P p (p.Kf fn) y=true) → MSimF P H (fun x:Frame × List Frame=>InvM P p x.1 x.2) (fun x=>(swF k x.1,swS k c x.2)) (pure (⟨fn,tmps,l' ++ q,defers,mode,kind,ro⟩,cs)) (pure (⟨fn,tmps,l' ++ sq,defers,mode,kind,ro⟩,swS k c cs)):=fun l' hl'=>
  msimF_pure ⟨ht.to l' q h2 hl',hst⟩ (by rw [hsw l' mode hl'])
 have ret:MSimF P H (fun x:Frame × List Frame=>InvM P p x.1 x.2) (fun x=>(swF k x.1,swS k c x.2)) (pure (⟨fn,tmps,l ++ q,defers,.returning,kind,ro⟩,cs)) (pure (⟨fn,tmps,l ++ sq,defers,.returning,kind,ro⟩,swS k c cs)):=
  msimF_pure ⟨ht.ret,hst⟩ (by rw [hsw l .returning h3])
 rcases ht.modes with hm | hm
 ·
  dsimp only at hm
  subst hm
  unfold own
  dsimp only
  cases l with
  | nil=>
   rcases h2 with rfl | rfl
   ·
    have:sq=[]:=by
     have:=hsq [] [] (by simp)
     simpa [swK] using this.symm
    subst this
    exact ret
   · exact absurd ⟨rfl,rfl⟩ hp
  | cons it l=>
   have h0:=h3 it (List.mem_cons_self ..)
   have hl:∀ y ∈ l,itemM P p (p.Kf fn) y=true:=fun y hy=>h3 y (List.mem_cons_of_mem _ hy)
   have one:∀ x,itemM P p (p.Kf fn) x=true → ∀ y ∈ x :: l,itemM P p (p.Kf fn) y=true:=fun x hx y hy=>by
    rcases List.mem_cons.1 hy with rfl | hy
    · exact hx
    · exact hl y hy
   have two:∀ x x',itemM P p (p.Kf fn) x=true → itemM P p (p.Kf fn) x'=true → ∀ y ∈ x :: x' :: l,itemM P p (p.Kf fn) y=true:=fun x x' hx hx' y hy=>by
    rcases List.mem_cons.1 hy with rfl | hy
    · exact hx
    · exact one x' hx' y hy
   simp only [List.cons_append]
   cases it <;> first | (cases h0;done) | skip
   case code c0=>
    cases c0 <;> first | (cases h0;done) | skip
    case skip=>exact go l hl
    case label=>exact go l hl
    case ret=>exact ret
    case seq a b=>
     simp only [itemM,codeM,Bool.and_eq_true] at h0
     exact go (.code a :: .code b :: l) (two _ _ h0.1 h0.2)
    case cond x a b=>
     simp only [itemM,codeM,Bool.and_eq_true] at h0
     dsimp only
     have evl:Frame.eval ⟨fn,tmps,.code (.cond x a b) :: (l ++ sq),defers,.run,kind,ro⟩ x=Frame.eval ⟨fn,tmps,.code (.cond x a b) :: (l ++ q),defers,.run,kind,ro⟩ x:=by cases x <;> rfl
     rw [evl]
     cases Frame.eval ⟨fn,tmps,.code (.cond x a b) :: (l ++ q),defers,.run,kind,ro⟩ x <;> first | exact msimF_dies (dies_halt (h:=.stuck _) trivial) | skip
     rename_i t
     refine go (.code (if t then a else b) :: l) (one _ ?_)
     cases t
     · exact h0.2
     · exact h0.1
    case block id a=>exact go (.code a :: .inBlock id :: l) (two _ _ h0 rfl)
    case loop a=>exact go (.code a :: .inLoop a :: l) (two _ _ h0 h0)
    case scope a=>exact go (.code a :: .inScope a :: l) (two _ _ h0 h0)
    case exit id=>
     dsimp only
     rcases exitTo_app (id:=id) l q with ⟨l',e1,e2⟩ | e2
     ·
      rw [e2,exitTo_in e1]
      exact go l' (exitTo_items e1 hl)
     ·
      rw [e2]
      have:exitTo id q=none:=by
       rcases h2 with rfl | rfl <;> rfl
      rw [this]
      exact msimF_dies (dies_halt (h:=.stuck _) trivial)
    case region id ops draw=>
     dsimp only
     cases draw with
     | false=>exact go (.inRegion ops (List.range ops.size) :: l) (one (.inRegion ops _) h0)
     | true=>
      simp only [Bool.not_true,Bool.false_eq_true,if_false]
      refine msimF_bind (msim_choose _) fun t _=>?_
      exact go (.inRegion ops _ :: l) (one (.inRegion ops _) h0)
   case inBlock=>exact go l hl
   case inLoop a=>exact go (.code a :: .inLoop a :: l) (two _ _ h0 h0)
   case inScope a=>exact go l hl
   case inRegion ops r=>
    cases r with
    | nil=>exact go l hl
    | cons i rest=>
     dsimp only
     have evl:Frame.eval ⟨fn,tmps,.inRegion ops (i :: rest) :: (l ++ sq),defers,.run,kind,ro⟩=Frame.eval ⟨fn,tmps,.inRegion ops (i :: rest) :: (l ++ q),defers,.run,kind,ro⟩:=by funext x;cases x <;> rfl
     rw [evl]
     have hfin:∀ x,(∀ d,(ops[i]?).bind (·.dst)=some d → d ∈ p.Kf fn → GoodF p x) → MSimF P H (fun x:Frame × List Frame=>InvM P p x.1 x.2) (fun x=>(swF k x.1,swS k c x.2)) (pure (Frame.finish ⟨fn,tmps,.inRegion ops (i :: rest) :: (l ++ q),defers,.run,kind,ro⟩ x,cs)) (pure (Frame.finish ⟨fn,tmps,.inRegion ops (i :: rest) :: (l ++ sq),defers,.run,kind,ro⟩ x,swS k c cs)):=fun x hx=>by
      obtain ⟨k1,k2⟩:=swF_finish k ht rfl x hx
      have e1:=hsw (.inRegion ops (i :: rest) :: l) .run h3
      simp only [List.cons_append] at e1 k1
      rw [e1] at k1
      exact msimF_pure ⟨k2,hst⟩ (by rw [← k1])
     cases ho:ops[i]? with
     | none=>exact hfin undef fun d hd=>by rw [ho] at hd;cases hd
     | some o=>
      dsimp only
      have hop:operM P p (p.Kf fn) o=true:=Array.all_eq_true_iff_forall_mem.1 h0 o (Array.mem_of_getElem? ho)
      have hmo:=msim_oper hF (e:=Frame.eval ⟨fn,tmps,.inRegion ops (i :: rest) :: (l ++ q),defers,.run,kind,ro⟩) ht.flow (fun g=>rfl) hop
      split
      ·
       refine msimF_bind hmo.1 fun n hn=>?_
       obtain ⟨w1,w2,hn⟩:=hn
       obtain ⟨k1,k2⟩:=hmo.2 w1 n w2 hn
       have dst:∀ d,(ops[i]?).bind (·.dst)=some d → o.dst=some d:=fun d hd=>by
        rw [ho] at hd
        exact hd
       cases n <;> first | exact k1.elim | skip
       case value x=>exact hfin x fun d hd hk=>(k2 d x (dst d hd) hk).1 rfl
       case skip=>exact hfin undef fun d hd hk=>absurd rfl (k2 d undef (dst d hd) hk).2.1
       case enter g args=>
        obtain ⟨m1,m2⟩:=enter_M hF k1 k
        obtain ⟨cs0,c1,c2⟩:=hst
        refine msimF_pure ⟨m1,_ :: cs0,by rw [c1];rfl,fun x hx=>?_⟩ ?_
        ·
         rcases List.mem_cons.1 hx with rfl | hx
         · exact ⟨ht,ops,i,rest,l ++ q,rfl,fun d hd hk=>absurd rfl ((k2 d undef (dst d hd) hk).2.2 g args)⟩
         · exact c2 x hx
        ·
         dsimp only
         have e1:=hsw (.inRegion ops (i :: rest) :: l) .run h3
         simp only [List.cons_append] at e1
         have e2:=swS_cons (k:=k) (c:=c) (g:=⟨fn,tmps,.inRegion ops (i :: rest) :: (l ++ q),defers,.run,kind,ro⟩) ht.defers cs
         rw [m2,e2,e1]
      · exact hfin undef fun d hd hk=>.inl rfl
 ·
  dsimp only at hm
  subst hm
  obtain ⟨cs0,c1,c2⟩:=hst
  cases cs0 with
  | nil=>exact absurd ⟨rfl,c1⟩ hn
  | cons g cs0=>
   subst c1
   have hg:=c2 g (List.mem_cons_self ..)
   unfold own
   rw [List.cons_append,swS_cons hg.1.defers]
   dsimp only
   obtain ⟨f0,hf0⟩:=ht.isIn
   dsimp only at hf0
   rw [hf0]
   dsimp only
   refine msimF_bind (msim_results _ _) fun x _=>?_
   obtain ⟨ops,i,rest,k1,w1,w2⟩:=hg.2
   obtain ⟨m1,m2⟩:=swF_finish k hg.1 w1 x fun d hd hk=>absurd hk (w2 d hd)
   exact msimF_pure ⟨m2,cs0,rfl,fun y hy=>c2 y (List.mem_cons_of_mem _ hy)⟩ (by rw [m1])
end
section
variable {P:Program} {H:Nat → Prop} {p:Plan}
def Calm (w:World):Prop:=∀ (b:Nat) c e,w.heap[b]? ≠ some (.pending c e)
theorem mask_self {v:World} (h:Calm v):Mask (fun _=>False) v v:=⟨rfl,fun b _=>.inl ⟨rfl,h b⟩,fun _ hb=>hb.elim,fun _ _=>rfl,rfl,rfl⟩
def AtPit (x:LnSt):Prop:=x.1.1.mode=.run ∧ x.1.1.todo=[pitK]
structure InvSt (P:Program) (p:Plan) (x:LnSt):Prop where
 inv:InvM P p x.1.1 x.1.2
 calm:Calm x.2
theorem pit_halts {x:LnSt} (h:AtPit x) (w:World):(own P x.1.1 x.1.2).run P w=.halt .waiting w:=by
 unfold own
 rw [h.1,h.2]
 rfl
theorem inv_run (hF:FnsOkM P p fun _=>False) {x:LnSt} (h:InvSt P p x) (hn:¬ Stopped x) (hp:¬ AtPit x) (u:Nat → Question → Nat) :
  (∃ z w1,(own P x.1.1 x.1.2).run P (taped x.2 u)=.halt z w1 ∧ Mild z) ∨ ∃ y:LnSt,(own P x.1.1 x.1.2).run P (taped x.2 u)=.ok y.1 y.2 ∧ InvSt P p y ∧ LocTp P (own P x.1.1 x.1.2) (taped x.2 u) y.1 y.2:=by
 rcases msim_own hF [] [] h.inv hn hp (taped x.2 u) (taped x.2 u) (mask_self h.calm) with h1 | ⟨a,v',w',ev,h0,hI,h1,h2,h3,h4,h5,h6⟩
 · exact .inl h1
 · exact .inr ⟨(a,v'),h0,⟨hI,h2.calm⟩,h6⟩
theorem inv_step (hF:FnsOkM P p fun _=>False) {x y:LnSt} (h:InvSt P p x) (hs:LStep P x y):InvSt P p y ∧ ¬ AtPit x:=by
 obtain ⟨hn,u,hu⟩:=hs
 have hp:¬ AtPit x:=fun hp=>by
  rw [pit_halts hp] at hu
  cases hu
 rcases inv_run hF h hn hp u with ⟨z,w1,h1,-⟩ | ⟨y',h1,h2,-⟩
 · rw [h1] at hu;cases hu
 ·
  rw [h1] at hu
  simp only [Result.ok.injEq] at hu
  obtain rfl:y'=y:=Prod.ext hu.1 hu.2
  exact ⟨h2,hp⟩
theorem inv_retape (hF:FnsOkM P p fun _=>False) {x y:LnSt} (h:InvSt P p x) (hn:¬ Stopped x) {u:Nat → Question → Nat} (hu:(own P x.1.1 x.1.2).run P (taped x.2 u)=.ok y.1 y.2) :
  y.2.tape=u ∧ x.2.drawn ≤ y.2.drawn ∧ ∀ v,(∀ j q,x.2.drawn ≤ j → j < y.2.drawn → v j q=u j q) → (own P x.1.1 x.1.2).run P (taped x.2 v)=.ok y.1 (taped y.2 v):=by
 have hp:¬ AtPit x:=fun hp=>by
  rw [pit_halts hp] at hu
  cases hu
 rcases inv_run hF h hn hp u with ⟨z,w1,h1,-⟩ | ⟨y',h1,h2,h3⟩
 · rw [h1] at hu;cases hu
 ·
  rw [h1] at hu
  simp only [Result.ok.injEq] at hu
  obtain rfl:y'=y:=Prod.ext hu.1 hu.2
  exact ⟨h3.1,h3.2.1,fun v hv=>h3.2.2 v hv⟩
theorem form_next {fr f':Frame} {cs cs':List Frame} {w w1:World} (h:FrameForm P fr) (hr:(own P fr cs).run P w=.ok (f',cs') w1):step P (lone fr cs w)=.next (lone f' cs' w1):=by
 have e:=form_go (main:=true) h hr
 exact step_lone_go (by
  show (stepG P true (G fr cs) w).bare=_
  rw [e]
  rfl)
theorem inv_chain (hF:FnsOkM P p fun _=>False) {c:Nat → LnSt} {T:Nat → Question → Nat} (h0:InvSt P p (c 0)):∀ n,(∀ k,k < n → LStep P (c k) (c (k+1)) ∧ (own P (c k).1.1 (c k).1.2).run P (taped (c k).2 T)=.ok (c (k+1)).1 (taped (c (k+1)).2 T)) →
  InvSt P p (c n) ∧ runN P n (lone (c 0).1.1 (c 0).1.2 (taped (c 0).2 T))=.next (lone (c n).1.1 (c n).1.2 (taped (c n).2 T))
 | 0,_=>⟨h0,rfl⟩
 | n+1,hc=>by
  obtain ⟨h1,h2⟩:=inv_chain hF h0 n fun k hk=>hc k (Nat.lt_succ_of_lt hk)
  obtain ⟨k1,k2⟩:=hc n (Nat.lt_succ_self _)
  obtain ⟨k3,k4⟩:=inv_step hF h1 k1
  refine ⟨k3,?_⟩
  rw [runN_add,h2]
  show runN P 1 _=_
  simp only [runN]
  rw [form_next (h1.inv.top.form k4) k2]
structure EndsAt (P:Program) (x0:LnSt) (Post:LnSt → Prop):Prop where
 runs:∀ t,∃ (n:Nat) (y:LnSt),runN P n (lone x0.1.1 x0.1.2 (taped x0.2 t))=.next (lone y.1.1 y.1.2 y.2) ∧ Post y
 stops:∀ y,Post y → Stopped y ∨ AtPit y
 base:∀ y,Post y → y.1.2=[pit]
 tape:∀ (y:LnSt) t,Post y → Post (y.1,taped y.2 t)
theorem inv_acc (hF:FnsOkM P p fun _=>False) {x0:LnSt} {Post:LnSt → Prop} (h:EndsAt P x0 Post) (h0:InvSt P p x0):Acc (fun y x=>LStep P x y) x0:=by
 refine Classical.byContradiction fun hna=>?_
 have nxt:∀ x:{ x:LnSt // ¬ Acc (fun y x=>LStep P x y) x },∃ y:{ x:LnSt // ¬ Acc (fun y x=>LStep P x y) x },LStep P x.1 y.1:=fun ⟨x,hx⟩=>by
  refine Classical.byContradiction fun hno=>hx ⟨x,fun y hy=>Classical.byContradiction fun hna=>hno ⟨⟨y,hna⟩,hy⟩⟩
 let c:Nat → { x:LnSt // ¬ Acc (fun y x=>LStep P x y) x }:=fun n=>Nat.rec ⟨x0,hna⟩ (fun _ x=>(nxt x).choose) n
 have hc:∀ n,LStep P (c n).1 (c (n+1)).1:=fun n=>(nxt (c n)).choose_spec
 have hok:∀ n,InvSt P p (c n).1:=fun n=>by
  induction n with
  | zero=>exact h0
  | succ n ih=>exact (inv_step hF ih (hc n)).1
 have ht:∀ n,∃ t,(own P (c n).1.1.1 (c n).1.1.2).run P (taped (c n).1.2 t)=.ok (c (n+1)).1.1 (c (n+1)).1.2:=fun n=>(hc n).2
 obtain ⟨T,hT⟩:=tapes_join (fun n=>(c n).1.2.drawn) (fun n=>(inv_retape hF (hok n) (hc n).1 (ht n).choose_spec).2.1) (fun n=>(ht n).choose)
 obtain ⟨n,y,hn,hy⟩:=h.runs T
 have:=(inv_chain (c:=fun n=>(c n).1) (T:=T) hF h0 n fun k _=>⟨hc k,(inv_retape hF (hok k) (hc k).1 (ht k).choose_spec).2.2 T (hT k)⟩).2
 have e:runN P n (lone x0.1.1 x0.1.2 (taped x0.2 T))=.next (lone (c n).1.1.1 (c n).1.1.2 (taped (c n).1.2 T)):=this
 rw [hn] at e
 obtain ⟨e1,e2,-⟩:=lone_inj (Stepped.next.inj e)
 rcases h.stops y hy with hs | hs
 · exact (hc n).1 ⟨e1 ▸ hs.1,e2 ▸ hs.2⟩
 · exact (inv_step hF (hok n) (hc n)).2 ⟨e1 ▸ hs.1,e1 ▸ hs.2⟩
end
section
variable {P:Program} {H:Nat → Prop} {p:Plan} {x0:LnSt} {Post:LnSt → Prop}
theorem Came.inv (hF:FnsOkM P p fun _=>False) {x:LnSt} (h:Came P x0 x) (h0:InvSt P p x0):InvSt P p x:=by
 obtain ⟨n,c,rfl,rfl,hc⟩:=h
 have:∀ k,k ≤ n → InvSt P p (c k):=fun k hk=>by
  induction k with
  | zero=>exact h0
  | succ k ih=>exact (inv_step hF (ih (by omega)) (hc k (by omega))).1
 exact this n (Nat.le_refl _)
theorem Came.runs (hF:FnsOkM P p fun _=>False) {x:LnSt} (h:Came P x0 x) (h0:InvSt P p x0) (u:Nat → Question → Nat) :
  ∃ (n:Nat) (T:Nat → Question → Nat),(∀ j q,x.2.drawn ≤ j → T j q=u j q) ∧ runN P n (lone x0.1.1 x0.1.2 (taped x0.2 T))=.next (lone x.1.1 x.1.2 (taped x.2 T)) ∧
   ∀ m,m < n → ∃ y:LnSt,¬ Stopped y ∧ ¬ AtPit y ∧ runN P m (lone x0.1.1 x0.1.2 (taped x0.2 T))=.next (lone y.1.1 y.1.2 (taped y.2 T)):=by
 obtain ⟨n,c,rfl,rfl,hc⟩:=h
 have hok:∀ k,k ≤ n → InvSt P p (c k):=fun k hk=>by
  induction k with
  | zero=>exact h0
  | succ k ih=>exact (inv_step hF (ih (by omega)) (hc k (by omega))).1
 have ht:∀ k,∃ t,k < n → (own P (c k).1.1 (c k).1.2).run P (taped (c k).2 t)=.ok (c (k+1)).1 (c (k+1)).2:=fun k=>by
  by_cases hk:k < n
  ·
   obtain ⟨t,h⟩:=(hc k hk).2
   exact ⟨t,fun _=>h⟩
  · exact ⟨u,fun h=>absurd h hk⟩
 obtain ⟨T,hT,hu⟩:=tapes_join_to n (fun k=>(c k).2.drawn) (fun k hk=>(inv_retape hF (hok k (by omega)) (hc k hk).1 ((ht k).choose_spec hk)).2.1) (fun k=>(ht k).choose) u
 have one:∀ m,m ≤ n → runN P m (lone (c 0).1.1 (c 0).1.2 (taped (c 0).2 T))=.next (lone (c m).1.1 (c m).1.2 (taped (c m).2 T)):=fun m hm=>
  (inv_chain (c:=c) (T:=T) hF h0 m fun k hk=>⟨hc k (by omega),(inv_retape hF (hok k (by omega)) (hc k (by omega)).1 ((ht k).choose_spec (by omega))).2.2 T (hT k (by omega))⟩).2
 exact ⟨n,T,hu,one n (Nat.le_refl _),fun m hm=>⟨c m,(hc m hm).1,(inv_step hF (hok m (by omega)) (hc m hm)).2,one m (by omega)⟩⟩
theorem refuse_ends {fr:Frame} {cs:List Frame} (w:World) (hm:fr.mode=.run) (ht:fr.todo=[pitK]):∃ o w',step P (lone fr cs w)=.ended o w':=by
 obtain ⟨fn,tmps,todo,defers,mode,kind,ro⟩:=fr
 dsimp only at hm ht
 subst hm ht
 exact ⟨_,_,step_lone_ended (by simp only [pitK,stepG,stepG.exec];rfl)⟩
theorem never_M:∀ (cs:List Frame) (fr:Frame) (ch:List PanicEntry) (w:World),(∃ cs0,cs=cs0 ++ [pit] ∧ ∀ g ∈ cs0,FrameM P p g) → fr.mode=.panicking ch → fr.defers=[] → (∃ fn,P.funcs[fr.fn]? = some fn) →
  ∀ m (y:LnSt),runN P m (lone fr cs w)=.next (lone y.1.1 y.1.2 y.2) → ¬ (Stopped y ∨ AtPit y)
 | [],_,_,_,hs,_,_,_,_,_,_=>by
  obtain ⟨cs0,h,-⟩:=hs
  cases cs0 <;> cases h
 | c :: rest,fr,ch,w,hs,hm,hd,⟨fn,hf⟩,m,y,hr=>by
  cases m with
  | zero=>
   obtain ⟨e,-⟩:=lone_inj (Stepped.next.inj hr)
   rintro (h | h)
   ·
    have:=h.1
    rw [← e,hm] at this
    cases this
   ·
    have:=h.1
    rw [← e,hm] at this
    cases this
  | succ m=>
   have hst:step P (lone fr (c :: rest) w)=.next (lone (c.raise ch) rest w):=step_lone_go (by simp [stepG,unwind,Frame.catches,hm,hd,hf])
   simp only [runN,hst] at hr
   obtain ⟨cs0,h1,h2⟩:=hs
   cases cs0 with
   | nil=>
    obtain ⟨rfl,rfl⟩:c=pit ∧ rest=[]:=by simpa using h1
    cases m with
    | zero=>
     obtain ⟨e,e2,-⟩:=lone_inj (Stepped.next.inj hr)
     rintro (h | h)
     ·
      have:=h.2
      rw [← e2] at this
      cases this
     ·
      have:=h.1
      rw [← e] at this
      cases this
    | succ m=>
     obtain ⟨o,w2,h4⟩:=pit_raised (P:=P) w ch
     simp only [runN,h4] at hr
     cases hr
   | cons g cs0=>
    obtain ⟨rfl,rfl⟩:c=g ∧ rest=cs0 ++ [pit]:=by simpa using h1
    have h2':=h2 c (List.mem_cons_self ..)
    have hc:∃ ch',(c.raise ch).mode=.panicking ch' ∧ (c.raise ch).defers=[] ∧ (c.raise ch).fn=c.fn:=by
     rcases h2'.modes with h | h
     · exact ⟨ch,by simp [Frame.raise,h],by simp [Frame.raise,h,h2'.defers],by simp [Frame.raise,h]⟩
     · exact ⟨ch,by simp [Frame.raise,h],by simp [Frame.raise,h,h2'.defers],by simp [Frame.raise,h]⟩
    obtain ⟨ch',e1,e2,e3⟩:=hc
    obtain ⟨g0,h4⟩:=h2'.isIn
    exact never_M _ (c.raise ch) ch' w ⟨cs0,rfl,fun x hx=>h2 x (List.mem_cons_of_mem _ hx)⟩ e1 e2 ⟨g0,by rw [e3];exact h4⟩ m y hr
theorem Came.where (hF:FnsOkM P p fun _=>False) (h:EndsAt P x0 Post) (h0:InvSt P p x0) {x:LnSt} (hc:Came P x0 x) (u:Nat → Question → Nat) :
  ∃ (T:Nat → Question → Nat) (k:Nat) (y:LnSt),(∀ j q,x.2.drawn ≤ j → T j q=u j q) ∧ runN P k (lone x.1.1 x.1.2 (taped x.2 T))=.next (lone y.1.1 y.1.2 y.2) ∧ Post y:=by
 obtain ⟨n,T,hT,hrun,hbef⟩:=hc.runs hF h0 u
 obtain ⟨m,y,hm,hy⟩:=h.runs T
 rcases Nat.lt_or_ge m n with hlt | hge
 ·
  exfalso
  obtain ⟨z,hz1,hz2,hz⟩:=hbef m hlt
  have e:=hm.symm.trans hz
  obtain ⟨e1,e2,-⟩:=lone_inj (Stepped.next.inj e)
  rcases h.stops y hy with hs | hs
  · exact hz1 ⟨e1 ▸ hs.1,e2 ▸ hs.2⟩
  · exact hz2 ⟨e1 ▸ hs.1,e1 ▸ hs.2⟩
 ·
  refine ⟨T,m - n,y,hT,?_,hy⟩
  rw [show m=n+(m - n) by omega,runN_add,hrun] at hm
  exact hm
theorem inv_goes (hF:FnsOkM P p fun _=>False) (h:EndsAt P x0 Post) (h0:InvSt P p x0) {x:LnSt} (hc:Came P x0 x) (hn:¬ Stopped x) (hp:¬ AtPit x) (u:Nat → Question → Nat) :
  ¬ ∃ z w1,(own P x.1.1 x.1.2).run P (taped x.2 u)=.halt z w1 ∧ Mild z:=by
 rintro ⟨z,w1,hz,hm⟩
 have hok:=hc.inv hF h0
 obtain ⟨T,k,y,hT,hrun,hy⟩:=hc.where hF h h0 u
 cases k with
 | zero=>
  obtain ⟨e1,e2,-⟩:=lone_inj (Stepped.next.inj hrun)
  rcases h.stops y hy with hs | hs
  · exact hn ⟨e1 ▸ hs.1,e2 ▸ hs.2⟩
  · exact hp ⟨e1 ▸ hs.1,e1 ▸ hs.2⟩
 | succ k=>
  rcases inv_run hF hok hn hp T with ⟨z',w2,hz',hm'⟩ | ⟨y',hy',-,-⟩
  ·
   rcases form_halt (main:=true) (hok.inv.top.form hp) hz' hm' with ⟨pv,es,hgo⟩ | ⟨o,w3,es,hend⟩
   ·
    have hst:step P (lone x.1.1 x.1.2 (taped x.2 T))=.next (lone (x.1.1.raise [{ v:=pv,recovered:=false }]) x.1.2 w2):=step_lone_go (by
     show (stepG P true (G x.1.1 x.1.2) (taped x.2 T)).bare=_
     rw [hgo]
     rfl)
    simp only [runN,hst] at hrun
    have hf:=hok.inv.top
    have hc':∃ ch',(x.1.1.raise [{ v:=pv,recovered:=false }]).mode=.panicking ch' ∧ (x.1.1.raise [{ v:=pv,recovered:=false }]).defers=[] ∧ (x.1.1.raise [{ v:=pv,recovered:=false }]).fn=x.1.1.fn:=by
     rcases hf.modes with h | h
     · exact ⟨_,by simp only [Frame.raise,h];rfl,by simp [Frame.raise,h,hf.defers],by simp [Frame.raise,h]⟩
     · exact ⟨_,by simp only [Frame.raise,h];rfl,by simp [Frame.raise,h,hf.defers],by simp [Frame.raise,h]⟩
    obtain ⟨ch',e1,e2,e3⟩:=hc'
    obtain ⟨g,h4⟩:=hf.isIn
    obtain ⟨cs0,c1,c2⟩:=hok.inv.stack
    exact never_M x.1.2 _ ch' w2 ⟨cs0,c1,fun g hg=>(c2 g hg).1⟩ e1 e2 ⟨g,by rw [e3];exact h4⟩ k y hrun (h.stops y hy)
   ·
    have hst:step P (lone x.1.1 x.1.2 (taped x.2 T))=.ended o w3:=step_lone_ended (by
     show (stepG P true (G x.1.1 x.1.2) (taped x.2 T)).bare=_
     rw [hend]
     rfl)
    simp only [runN,hst] at hrun
    cases hrun
  ·
   have:=(inv_retape hF hok hn hy').2.2 u fun j q h1 _=>(hT j q h1).symm
   rw [hz] at this
   cases this
theorem inv_post (hF:FnsOkM P p fun _=>False) (h:EndsAt P x0 Post) (h0:InvSt P p x0) {x:LnSt} (hc:Came P x0 x) (hn:Stopped x ∨ AtPit x):∃ T,Post (x.1,taped x.2 T):=by
 have hok:=hc.inv hF h0
 obtain ⟨T,k,y,hT,hrun,hy⟩:=hc.where hF h h0 fun _ _=>0
 cases k with
 | zero=>
  obtain ⟨e1,e2,e3⟩:=lone_inj (Stepped.next.inj hrun)
  refine ⟨T,?_⟩
  have:y=(x.1,taped x.2 T):=by
   obtain ⟨⟨yf,yc⟩,yw⟩:=y
   dsimp only at e1 e2 e3
   subst e1 e2 e3
   rfl
  rw [← this]
  exact hy
 | succ k=>
  exfalso
  rcases hn with hn | hn
  ·
   have hcs:=hn.2
   have hmode:=hn.1
   obtain ⟨⟨xf,xc⟩,xw⟩:=x
   dsimp only at hcs hmode hrun
   subst hcs
   obtain ⟨f0,hf0⟩:=hok.inv.top.isIn
   dsimp only at hf0
   have hform:=hok.inv.top.form fun hh=>by
    have:=hh.1
    dsimp only at this
    rw [hmode] at this
    cases this
   cases hr:(own P xf [pit]).run P (taped xw T) with
   | ok a w1=>
    have hst:=form_next (f':=a.1) (cs':=a.2) hform hr
    simp only [runN,hst] at hrun
    have ha:a=(pit,[]):=by
     simp only [own,hmode,hf0,Sem.run_bind] at hr
     cases hx:(results f0 xf.tmps).run P (taped xw T) with
     | halt z w2=>rw [hx] at hr;simp at hr
     | ok v w2=>
      rw [hx] at hr
      simp only [Result.andThen_ok,Sem.run_pure,Result.ok.injEq] at hr
      exact hr.1.symm
    rw [ha] at hrun
    cases k with
    | zero=>
     obtain ⟨-,e2,-⟩:=lone_inj (Stepped.next.inj hrun)
     have:=h.base y hy
     rw [← e2] at this
     cases this
    | succ k=>
     obtain ⟨o,w3,h3⟩:=pit_ends (P:=P) w1
     simp only [runN,h3] at hrun
     cases hrun
   | halt z w1=>
    simp only [own,hmode,hf0,Sem.run_bind] at hr
    cases hx:(results f0 xf.tmps).run P (taped xw T) with
    | ok v w2=>rw [hx] at hr;simp at hr
    | halt z w2=>
     have:∃ o w3,step P (lone xf [pit] (taped xw T))=.ended o w3:=by
      have hd:=hok.inv.top.defers
      dsimp only at hd
      cases z <;> exact ⟨_,_,step_lone_ended (by simp only [stepG,unwind,hd,hmode,hf0,hx,Sem.runT_eq,GStep.after];rfl)⟩
     obtain ⟨o,w3,h3⟩:=this
     simp only [runN,h3] at hrun
     cases hrun
  ·
   obtain ⟨o,w3,h3⟩:=refuse_ends (P:=P) (cs:=x.1.2) (taped x.2 T) hn.1 hn.2
   simp only [runN,h3] at hrun
   cases hrun
end
end Go.Proofs.YtbokomeejmnnoaaDoor
