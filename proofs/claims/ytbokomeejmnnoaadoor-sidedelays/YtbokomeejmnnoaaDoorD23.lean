/- Own facts, put together: no statement of its own. -/
import Derived.Test.YtbokomeejmnnoaaDoorD22
import Derived.Test.YtbokomeejmnnoaaDoorD16

namespace Go.Proofs.YtbokomeejmnnoaaDoor
section
variable {α β γ:Type} {P:Program} {H:Nat → Prop}
structure Plan where
 Fb:Nat → Bool
 Kf:Nat → List Nat
def Plan.calm (p:Plan) (f:Nat):Bool:=p.Fb f && (p.Kf f).isEmpty
def GoodF (p:Plan) (v:Value):Prop:=v=undef ∨ ∃ g fs cs,v=.func (.func g) fs cs ∧ p.calm g=true
def isTmpIn (ks:List Nat):Operand → Bool
 | .tmp s=>ks.contains s
 | _=>false
def callM (P:Program) (p:Plan) (ks:List Nat) (c:Call):Bool:=match c.callee with
 | .builtin .len=>true
 | .builtin .min=>true
 | .builtin .max=>true
 | .builtin .append=>appendLet P c.argTypes
 | .invoke _ name=>methodFine P p.calm name
 | .value (.func g)=>p.Fb g && (p.Kf g).all fun i=>match c.args[i]? with | some x=>isTmpIn ks x | none=>true
 | .value x=>isTmpIn ks x
 | _=>false
def opM (P:Program) (p:Plan) (ks:List Nat):Op → Bool
 | .move _ | .assign _ | .pick _ _ _ | .alloc _ | .box _ _ | .build _ _ | .buildSlice _ _ _ | .load _ _ | .store _ _ _ | .binOp _ _ _ _ _ | .unOp _ _ _ | .makeInterface _ _ | .makeFunc _ _ _ | .makeSlice _ _ _ | .makeChan _ _
 | .slice _ _ _ _ _ | .fieldAddr _ _ _ | .field _ _ _ | .indexAddr _ _ _ | .index _ _ _ | .typeAssert _ _ _ _ | .extract _ _ | .panic _ | .nilCheck _=>true
 | .call c=>callM P p ks c
 | _=>false
def flowM (p:Plan) (ks:List Nat) (o:Oper):Bool:=match o.dst with
 | none=>true
 | some d=>!ks.contains d || (match o.op with
  | .makeFunc (.func g) _ _=>p.calm g
  | .move x=>isTmpIn ks x
  | _=>false)
def operM (P:Program) (p:Plan) (ks:List Nat) (o:Oper):Bool:=opM P p ks o.op && flowM p ks o
def codeM (P:Program) (p:Plan) (ks:List Nat):Code → Bool
 | .skip | .exit _ | .label _ | .ret=>true
 | .region _ ops _=>ops.all (operM P p ks)
 | .seq a b=>codeM P p ks a && codeM P p ks b
 | .cond _ a b=>codeM P p ks a && codeM P p ks b
 | .block _ c=>codeM P p ks c
 | .loop c=>codeM P p ks c
 | .scope c=>codeM P p ks c
 | _=>false
def itemM (P:Program) (p:Plan) (ks:List Nat):Item → Bool
 | .code c=>codeM P p ks c
 | .inBlock _=>true
 | .inLoop c=>codeM P p ks c
 | .inScope c=>codeM P p ks c
 | .inRegion ops _=>ops.all (operM P p ks)
 | _=>false
def FnsOkM (P:Program) (p:Plan) (H:Nat → Prop):Prop:=∀ f,p.Fb f=true → ∃ fn,P.funcs[f]? = some fn ∧ (fn.name == "runtime.NumGoroutine")=false ∧
 ((∃ c,fn.body=some c ∧ codeM P p (p.Kf f) c=true) ∨ (fn.body=none ∧ Extern.findNext fn=none ∧ ∃ x,Extern.find fn=some x ∧ ExtM P H x) ∨ ∀ a,Dies P (callFunc f a))
theorem FnsOkM.fns {p:Plan} (h:FnsOkM P p H):FnsM P H p.Fb:=fun f hf fn hfn=>by
 obtain ⟨fn',h1,h2,h3⟩:=h f hf
 rw [hfn] at h1
 cases h1
 refine ⟨h2,?_⟩
 rcases h3 with ⟨c,h3,-⟩ | ⟨-,h4,x,h5,h6⟩ | h3
 · exact .inl (by rw [h3];rfl)
 · exact .inr (.inl ⟨h4,x,h5,h6⟩)
 · exact .inr (.inr h3)
def NextM (P:Program) (p:Plan):Next → Prop
 | .enter g args=>p.Fb g=true ∧ (∃ fn c,P.funcs[g]? = some fn ∧ fn.body=some c) ∧ ∀ s ∈ p.Kf g,GoodF p (args.getD s undef)
 | .value _=>True
 | .skip=>True
 | _=>False
theorem run_bind_ok {s:Sem α} {f:α → Sem β} {w w':World} {b:β} (h:(s >>= f).run P w=.ok b w'):∃ a w1,s.run P w=.ok a w1 ∧ (f a).run P w1=.ok b w':=by
 rw [Sem.run_bind] at h
 cases hs:s.run P w with
 | halt x y=>rw [hs] at h;cases h
 | ok a w1=>rw [hs] at h;exact ⟨a,w1,rfl,h⟩
theorem callFunc_next {p:Plan} (hF:FnsOkM P p H) {f:FuncId} {a:Array Value} {n:Next} {w w':World} (hf:p.Fb f=true) (hk:∀ s ∈ p.Kf f,GoodF p (a.getD s undef)) (h:(callFunc f a).run P w=.ok n w'):NextM P p n:=by
 obtain ⟨fn,h1,h2,⟨c,h3,-⟩ | ⟨h3,h4,x,h5,-⟩ | h3⟩:=hF f hf
 ·
  unfold callFunc at h
  obtain ⟨p',w1,e1,h⟩:=run_bind_ok h
  cases e1
  rw [h1] at h
  dsimp only at h
  rw [h2,h3] at h
  cases h
  exact ⟨hf,⟨fn,c,h1,h3⟩,hk⟩
 ·
  unfold callFunc at h
  obtain ⟨p',w1,e1,h⟩:=run_bind_ok h
  cases e1
  rw [h1] at h
  dsimp only at h
  rw [h2,h3] at h
  simp only [Bool.false_eq_true,if_false,Option.isNone_none,if_true] at h
  obtain ⟨_,w2,-,h⟩:=run_bind_ok h
  rw [h4,h5] at h
  obtain ⟨z,w3,-,h⟩:=run_bind_ok h
  cases h
  trivial
 ·
  obtain ⟨x,w1,h4,-⟩:=h3 a w
  rw [h4] at h
  cases h
theorem method_in {Fb:Nat → Bool} {name:String} (hm:methodFine P Fb name=true) {n:Nat} {t:TypeId} {u:Value} {z:FuncId × Value} {w w':World} (h:(method n t u name).run P w=.ok z w'):Fb z.1=true:=by
 cases n with
 | zero=>cases h
 | succ n=>
  unfold method at h
  obtain ⟨i,w1,e1,h⟩:=run_bind_ok h
  have hi:P.info? t=some i:=by
   unfold typeInfo at e1
   obtain ⟨p',w1,e2,e1⟩:=run_bind_ok e1
   cases e2
   cases hh:P.info? t with
   | none=>rw [hh] at e1;cases e1
   | some j=>rw [hh] at e1;cases e1;rfl
  cases e:i.methods.find? (·.name == name) with
  | none=>rw [e] at h;cases h
  | some m=>
   rw [e] at h
   dsimp only at h
   have hrow:∃ f p,m.func=some (f,p) ∧ Fb f=true:=by
    rcases made_methods hi with ⟨k,hk⟩ | he
    ·
     have:=Array.all_eq_true_iff_forall_mem.1 hm i (Array.mem_of_getElem? hk)
     rw [e] at this
     dsimp only at this
     rw [Bool.and_eq_true] at this
     cases hf:m.func with
     | none=>rw [hf] at this;cases this.2
     | some q=>rw [hf] at this;exact ⟨q.1,q.2,rfl,this.2⟩
    ·
     rw [he] at e
     cases e
   obtain ⟨f,q,h2,h3⟩:=hrow
   obtain ⟨y,w2,-,h⟩:=run_bind_ok h
   rw [h2] at h
   obtain ⟨z',w3,-,h⟩:=run_bind_ok h
   cases h
   exact h3
theorem calm_fb {p:Plan} {f:Nat} (h:p.calm f=true):p.Fb f=true ∧ p.Kf f=[]:=by
 unfold Plan.calm at h
 rw [Bool.and_eq_true,List.isEmpty_iff] at h
 exact h
theorem msim_call {p:Plan} (hF:FnsOkM P p H) {ks:List Nat} {e:Operand → Value} (he:∀ s ∈ ks,GoodF p (e (.tmp s))) (hfn:∀ g,e (.func g)=.func (.func g) #[] #[]) {c:Call} (hc:callM P p ks c=true) (t:TypeId) :
  MSim P H (resolve e c t >>= fun d=>invoke d.target d.args) ∧ ∀ w n w',(resolve e c t >>= fun d=>invoke d.target d.args).run P w=.ok n w' → NextM P p n:=by
 obtain ⟨callee,args,ts⟩:=c
 have dyn:∀ x:Operand,isTmpIn ks x=true → MSim P H (Deferred.ofValue (e x) (args.map e) >>= fun d=>invoke d.target d.args) ∧ ∀ w n w',(Deferred.ofValue (e x) (args.map e) >>= fun d=>invoke d.target d.args).run P w=.ok n w' → NextM P p n:=fun x hx=>by
  cases x <;> first | (cases hx;done) | skip
  rename_i s
  simp only [isTmpIn,List.contains_eq_mem,decide_eq_true_eq] at hx
  rcases he s hx with h0 | ⟨g,fs,cs,h0,h1⟩
  ·
   rw [h0]
   exact ⟨fun v _ _=>.inl ⟨_,v,rfl,trivial⟩,fun w n w' h=>by cases h⟩
  ·
   rw [h0]
   obtain ⟨h2,h3⟩:=calm_fb h1
   refine ⟨?_,fun w n w' h=>?_⟩
   ·
    show MSim P H (callFunc g (fs ++ args.map e ++ cs))
    exact msim_callFunc hF.fns h2 _
   · exact callFunc_next hF h2 (by rw [h3];simp) h
 have val:∀ s:Sem Value,MSim P H s → MSim P H (s >>= fun x=>pure (Next.value x)) ∧ ∀ w n w',(s >>= fun x=>pure (Next.value x)).run P w=.ok n w' → NextM P p n:=fun s hs=>⟨msim_bind hs fun _=>msim_pure _,fun w n w' h=>by
  obtain ⟨z,w1,-,h⟩:=run_bind_ok h
  cases h
  trivial⟩
 cases callee with
 | invoke x name=>
  have e0:∀ (z:Value) (l:Array Value),(#[z] ++ l)[0]? = some z:=fun z l=>by simp [Array.getElem?_append]
  have e1:∀ (z:Value) (l:Array Value),(#[z] ++ l).extract 1 (#[z] ++ l).size=l:=fun z l=>by simp
  show MSim P H (invoke (.fn (.method name) #[]) (#[e x] ++ args.map e)) ∧ ∀ w n w',(invoke (.fn (.method name) #[]) (#[e x] ++ args.map e)).run P w=.ok n w' → NextM P p n
  unfold invoke
  dsimp only
  rw [e0]
  dsimp only
  rw [e1]
  unfold callMethod
  cases e x <;> first | exact ⟨msim_stuck _,fun w n w' h=>by cases h⟩ | skip
  case nilIface=>exact ⟨msim_panicRt _,fun w n w' h=>by
   obtain ⟨x,w1,h1,-⟩:=dies_panic (α:=Next) (P:=P) .nilDeref w
   rw [h1] at h
   cases h⟩
  case iface ty u=>
   refine ⟨msim_program (msim_bindR (msim_method _ _ _ _) fun z hz=>?_),fun w n w' h=>?_⟩
   ·
    obtain ⟨w1,w2,hz⟩:=hz
    exact msim_callFunc hF.fns (calm_fb (method_in hc hz)).1 _
   ·
    obtain ⟨p',w1,e2,h⟩:=run_bind_ok h
    obtain ⟨z,w2,e3,h⟩:=run_bind_ok h
    have:=calm_fb (method_in hc e3)
    exact callFunc_next hF this.1 (by rw [this.2];simp) h
 | builtin b=>
  cases b <;> first | (cases hc;done) | skip
  case len=>exact val _ (msim_len ts t _)
  case max=>exact val _ (msim_max ts t _)
  case min=>exact val _ (msim_min ts t _)
  case append=>exact val _ (msim_append hc t _)
 | value f=>
  unfold callM at hc
  dsimp only at hc
  cases f with
  | func g=>
   dsimp only at hc
   rw [Bool.and_eq_true,List.all_eq_true] at hc
   unfold resolve
   dsimp only
   rw [hfn]
   have e1:(#[]:Array Value) ++ args.map e ++ #[]=args.map e:=by simp
   refine ⟨?_,fun w n w' h=>?_⟩
   ·
    show MSim P H (callFunc g (#[] ++ args.map e ++ #[]))
    exact msim_callFunc hF.fns hc.1 _
   ·
    have h':(callFunc g (#[] ++ args.map e ++ #[])).run P w=.ok n w':=h
    rw [e1] at h'
    refine callFunc_next hF hc.1 (fun s hs=>?_) h'
    have:=hc.2 s hs
    rw [Array.getD_eq_getD_getElem?,Array.getElem?_map]
    cases ha:args[s]? with
    | none=>exact .inl rfl
    | some x=>
     rw [ha] at this
     dsimp only at this
     cases x <;> first | (cases this;done) | skip
     rename_i q
     simp only [isTmpIn,List.contains_eq_mem,decide_eq_true_eq] at this
     exact he q this
  | tmp s=>exact dyn _ hc
  | const v=>cases hc
  | global g=>cases hc
theorem msim_followBlind:∀ (l:List FieldStep) (t:TypeId) (x:Option Value),MSim P H (followBlind l t x)
 | [],_,_=>msim_pure _
 | s :: l,t,x=>by
  unfold followBlind
  refine msim_bind (msim_underlying _) fun d=>?_
  split
  ·
   split
   ·
    split
    · exact msim_pure _
    · exact msim_followBlind l _ _
    · exact msim_stuck _
    · exact msim_pure _
    · exact msim_bind (msim_part _ _ _) fun _=>msim_followBlind l _ _
    · exact msim_stuck _
    · exact msim_followBlind l _ _
   · exact msim_stuck _
  · exact msim_stuck _
theorem msim_nilAhead:∀ (n:Nat) (t:TypeId) (x:Value) (m:String),MSim P H (nilAhead n t x m)
 | 0,_,_,_=>msim_pure _
 | n+1,t,x,m=>by
  unfold nilAhead
  refine msim_bind (msim_typeInfo _) fun i=>?_
  split
  ·
   refine msim_bind (msim_followBlind _ _ _) fun z=>?_
   split
   · exact msim_pure _
   ·
    split
    · exact msim_nilAhead n _ _ _
    · exact msim_pure _
    · exact msim_stuck _
    · exact msim_pure _
    · exact msim_pure _
    ·
     refine msim_bind (msim_underlying _) fun d=>?_
     split <;> exact msim_pure _
  · exact msim_stuck _
theorem msim_nilCheck {p:Plan} (u:Value):MSim P H (match u with
  | .pointer none | .nilIface | .nilFunc=>runtimePanic .nilDeref
  | .func (.method name) first captured=>
   match (first[0]? : Option Value) with
   | some .nilIface=>runtimePanic .nilDeref
   | some (.iface t w)=>do
    if (← nilAhead ((← program).types.size+Made.depth) t w name) != some false then
     unsupported (.noEntry "op/nilCheck.the method's receiver behind this interface value is a nil pointer, or cannot be seen to be none, and the arguments act or may panic (ledger 612)")
    pure (.value (.func (.method name) first captured))
   | _=>pure (.value (.func (.method name) first captured))
  | x=>pure (.value x):Sem Next) ∧ ∀ w n w',(match u with
  | .pointer none | .nilIface | .nilFunc=>runtimePanic .nilDeref
  | .func (.method name) first captured=>
   match (first[0]? : Option Value) with
   | some .nilIface=>runtimePanic .nilDeref
   | some (.iface t w)=>do
    if (← nilAhead ((← program).types.size+Made.depth) t w name) != some false then
     unsupported (.noEntry "op/nilCheck.the method's receiver behind this interface value is a nil pointer, or cannot be seen to be none, and the arguments act or may panic (ledger 612)")
    pure (.value (.func (.method name) first captured))
   | _=>pure (.value (.func (.method name) first captured))
  | x=>pure (.value x):Sem Next).run P w=.ok n w' → NextM P p n:=by
 have pan:∀ (w:World) (n:Next) (w':World),(runtimePanic .nilDeref:Sem Next).run P w=.ok n w' → NextM P p n:=fun w n w' h=>by
  obtain ⟨x,w1,h1,-⟩:=dies_panic (α:=Next) (P:=P) .nilDeref w
  rw [h1] at h
  cases h
 split
 · exact ⟨msim_panicRt _,pan⟩
 · exact ⟨msim_panicRt _,pan⟩
 · exact ⟨msim_panicRt _,pan⟩
 ·
  split
  · exact ⟨msim_panicRt _,pan⟩
  ·
   refine ⟨msim_program (msim_bind (msim_nilAhead _ _ _ _) fun _=>msim_ite (msim_bind (msim_halt _) fun _=>msim_pure _) (msim_pure _)),fun w n w' h=>?_⟩
   obtain ⟨p',w1,e1,h⟩:=run_bind_ok h
   obtain ⟨z,w2,e2,h⟩:=run_bind_ok h
   dsimp only at h
   split at h
   ·
    obtain ⟨z,w3,e3,h⟩:=run_bind_ok h
    cases e3
   ·
    cases h
    trivial
  · exact ⟨msim_pure _,fun w n w' h=>by cases h;trivial⟩
 · exact ⟨msim_pure _,fun w n w' h=>by cases h;trivial⟩
theorem msim_oper {p:Plan} (hF:FnsOkM P p H) {ks:List Nat} {e:Operand → Value} (he:∀ s ∈ ks,GoodF p (e (.tmp s))) (hfn:∀ g,e (.func g)=.func (.func g) #[] #[]) {o:Oper} (ho:operM P p ks o=true) :
  MSim P H (execOp e o) ∧ ∀ w n w',(execOp e o).run P w=.ok n w' → NextM P p n ∧ ∀ d x,o.dst=some d → d ∈ ks → (n=.value x → GoodF p x) ∧ n ≠ .skip ∧ ∀ g a,n ≠ .enter g a:=by
 unfold operM at ho
 rw [Bool.and_eq_true] at ho
 obtain ⟨hf,hfl⟩:=ho
 have key:MSim P H (execOp e o) ∧ ∀ w n w',(execOp e o).run P w=.ok n w' → NextM P p n:=by
  have V:∀ {s:Sem Value},MSim P H s → MSim P H (s >>= fun x=>pure (Next.value x)) ∧ ∀ w n w',(s >>= fun x=>pure (Next.value x)).run P w=.ok n w' → NextM P p n:=fun hs=>⟨msim_bind hs fun _=>msim_pure _,fun w n w' h=>by
   obtain ⟨z,w1,-,h⟩:=run_bind_ok h
   cases h
   trivial⟩
  have U:∀ {s:Sem Unit},MSim P H s → MSim P H (s >>= fun _=>pure Next.skip) ∧ ∀ w n w',(s >>= fun _=>pure Next.skip).run P w=.ok n w' → NextM P p n:=fun hs=>⟨msim_bind hs fun _=>msim_pure _,fun w n w' h=>by
   obtain ⟨z,w1,-,h⟩:=run_bind_ok h
   cases h
   trivial⟩
  unfold execOp
  dsimp only
  cases hop:o.op <;> rw [hop] at hf <;> simp only [opM] at hf <;> first | cases hf;done | skip
  case move x=>exact ⟨msim_pure _,fun w n w' h=>by cases h;trivial⟩
  case assign x=>exact ⟨msim_pure _,fun w n w' h=>by cases h;trivial⟩
  case pick c a b=>exact ⟨msim_bind (msim_asBool _) fun _=>msim_pure _,fun w n w' h=>by
   obtain ⟨z,w1,-,h⟩:=run_bind_ok h
   cases h
   trivial⟩
  case alloc t=>exact V (msim_alloc t)
  case box t x=>exact V (msim_box t _)
  case build t parts=>exact V (msim_build t _)
  case buildSlice t l parts=>exact V (msim_buildSlice t l _)
  case load t a=>exact V (msim_loadAt t _)
  case store t a x=>exact U (msim_storeAt t _ _)
  case binOp op t x y t'=>exact V (msim_bind (msim_eqGuard _ _ _ _ _ _) fun _=>msim_binOp _ _ _ _)
  case unOp op t x=>exact V (msim_unary _ _)
  case makeInterface t x=>exact V (msim_makeInterface _ _)
  case makeFunc fn fs cs=>exact V (msim_pure _)
  case makeSlice t l c=>exact V (msim_makeSlice _ _ _)
  case makeChan t x=>exact V (msim_makeChan _ _)
  case slice t x lo hi mx=>exact V (msim_sliceAt _ _ _ _ _)
  case fieldAddr s x k=>exact V (msim_fieldAt _ _ _)
  case field s x k=>exact V (msim_field _ _ _)
  case indexAddr t x i=>exact V (msim_indexAt _ _ _)
  case index t x i=>exact V (msim_index _ _ _)
  case typeAssert x t u ok=>exact V (msim_typeAssert _ _ _ _)
  case extract x k=>exact V (msim_extract _ _)
  case call c=>exact msim_call hF he hfn hf _
  case panic x=>exact V (msim_panic _)
  case nilCheck x=>exact msim_nilCheck (e x)
 refine ⟨key.1,fun w n w' h=>⟨key.2 w n w' h,fun d x hd hk=>?_⟩⟩
 unfold flowM at hfl
 rw [hd] at hfl
 have hk':ks.contains d=true:=by simpa using hk
 dsimp only at hfl
 rw [hk'] at hfl
 simp only [Bool.not_true,Bool.false_or] at hfl
 unfold execOp at h
 dsimp only at h
 cases hop:o.op <;> rw [hop] at hfl h <;> first | (cases hfl;done) | skip
 case move y=>
  dsimp only at h hfl
  cases h
  refine ⟨fun hx=>?_,(fun hx=>by cases hx),fun g a hx=>by cases hx⟩
  cases hx
  cases y <;> first | (cases hfl;done) | skip
  rename_i s
  simp only [isTmpIn,List.contains_eq_mem,decide_eq_true_eq] at hfl
  exact he s hfl
 case makeFunc fn fs cs=>
  cases fn <;> first | (cases hfl;done) | skip
  rename_i g
  dsimp only at h hfl
  cases h
  refine ⟨fun hx=>?_,(fun hx=>by cases hx),fun g a hx=>by cases hx⟩
  cases hx
  exact .inr ⟨g,_,_,rfl,hfl⟩
end
end Go.Proofs.YtbokomeejmnnoaaDoor
