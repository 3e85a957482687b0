/- Own facts, put together: no statement of its own. -/
import Derived.Test.YtbokomeejmnnoaaDoorD14
import Derived.Conc.Own

namespace Go.Proofs.YtbokomeejmnnoaaDoor
section
variable {α β γ δ:Type} {P:Program} {F:Nat → Prop} {L:Nat} {r:Ren}
theorem ArR.get {X:Value → Value → Prop} {a b:Array Value} (h:ArR X a b) (i:Nat):(a[i]? = none ∧ b[i]? = none) ∨ ∃ x y,a[i]? = some x ∧ b[i]? = some y ∧ X x y:=by
 cases hx:a[i]? with
 | none=>
  refine .inl ⟨rfl,?_⟩
  rw [Array.getElem?_eq_none_iff] at hx ⊢
  rw [h.1]
  exact hx
 | some x=>
  have hl:i < b.size:=by rw [h.1];exact getElem?_lt hx
  exact .inr ⟨x,b[i],rfl,Array.getElem?_eq_getElem hl,h.2 _ _ _ hx (Array.getElem?_eq_getElem hl)⟩
theorem sim_len (ts:Array TypeId) (t:TypeId) {a b:Array Value} (h:ArR (VR F r) a b):Sim P F L (VR F) (Builtin.len_ ts t a) (Builtin.len_ ts t b) r:=by
 unfold Builtin.len_
 cases ts[0]? with
 | none=>exact sim_stuck
 | some t0=>
  rcases h.get 0 with ⟨e1,e2⟩ | ⟨x,y,e1,e2,hxy⟩
  ·
   rw [e1,e2]
   exact sim_stuck
  ·
   rw [e1,e2]
   dsimp only
   refine sim_bind (sim_underlying t0) ?_
   rintro s _ d hle ⟨rfl,-⟩
   have h1:=(hxy.mono hle).out
   cases d <;> first | exact sim_stuck | exact sim_pure (VR.int _ _) | skip
   case string=>cases x <;> simp only [VStep] at h1 <;> first | exact sim_stuck | (subst h1;exact sim_pure (VR.int _ _))
   case slice=>
    cases x <;> simp only [VStep] at h1 <;> first | exact sim_stuck | skip
    obtain ⟨_,rfl,-⟩:=h1
    exact sim_pure (VR.int _ _)
   case pointer arr=>
    dsimp only
    refine sim_bind (sim_underlying arr) ?_
    rintro s2 _ d2 - ⟨rfl,-⟩
    cases d2 <;> first | exact sim_stuck | exact sim_pure (VR.int _ _)
   case map=>
    cases x <;> simp only [VStep] at h1 <;> first | exact sim_stuck | skip
    rename_i m
    obtain ⟨m',rfl,hm⟩:=h1
    cases m <;> cases m' <;> simp only [OpR] at hm
    · exact sim_pure (VR.int _ _)
    ·
     dsimp only
     refine sim_bind (sim_getObj hm) ?_
     rintro s2 o o' - ⟨ho,-⟩
     cases o <;> simp only [ObR] at ho <;> first | exact sim_stuck | skip
     obtain ⟨es',rfl,e3,-⟩:=ho
     dsimp only
     rw [e3]
     exact sim_pure (VR.int _ _)
   case chan=>cases x <;> simp only [VStep] at h1 <;> exact sim_stuck
theorem sim_max2 {u v x y:Value} (h:VR F r u v) (hx:VR F r x y):Sim P F L (VR F) (Builtin.max2 u x) (Builtin.max2 v y) r:=by
 have h1:=h.out
 have h2:=hx.out
 cases u <;> simp only [VStep] at h1
 case int k n=>
  subst h1
  cases x <;> simp only [VStep] at h2 <;> first | (subst h2;exact sim_pure (VR.int _ _)) | exact sim_stuck | (cases ‹Option Addr› <;> first | exact sim_stuck | exact sim_dies (dies_unsupported (u:=.addressObserved) trivial))
 case string a=>
  subst h1
  cases x <;> simp only [VStep] at h2 <;> first | exact sim_stuck | (cases ‹Option Addr› <;> first | exact sim_stuck | exact sim_dies (dies_unsupported (u:=.addressObserved) trivial)) | skip
  subst h2
  exact sim_pure (VR.plain (n:=0) rfl)
 case pointer a=>
  cases a <;> (cases x <;> first | exact sim_stuck | exact sim_dies (dies_unsupported (u:=.addressObserved) trivial) | (cases ‹Option Addr› <;> first | exact sim_stuck | exact sim_dies (dies_unsupported (u:=.addressObserved) trivial)))
 all_goals (cases x <;> first | exact sim_stuck | exact sim_dies (dies_unsupported (u:=.addressObserved) trivial) | (cases ‹Option Addr› <;> first | exact sim_stuck | exact sim_dies (dies_unsupported (u:=.addressObserved) trivial)))
theorem sim_min2 {u v x y:Value} (h:VR F r u v) (hx:VR F r x y):Sim P F L (VR F) (Builtin.min2 u x) (Builtin.min2 v y) r:=by
 have h1:=h.out
 have h2:=hx.out
 cases u <;> simp only [VStep] at h1
 case int k n=>
  subst h1
  cases x <;> simp only [VStep] at h2 <;> first | (subst h2;exact sim_pure (VR.int _ _)) | exact sim_stuck | (cases ‹Option Addr› <;> first | exact sim_stuck | exact sim_dies (dies_unsupported (u:=.addressObserved) trivial))
 case string a=>
  subst h1
  cases x <;> simp only [VStep] at h2 <;> first | exact sim_stuck | (cases ‹Option Addr› <;> first | exact sim_stuck | exact sim_dies (dies_unsupported (u:=.addressObserved) trivial)) | skip
  subst h2
  exact sim_pure (VR.plain (n:=0) rfl)
 case pointer a=>
  cases a <;> (cases x <;> first | exact sim_stuck | exact sim_dies (dies_unsupported (u:=.addressObserved) trivial) | (cases ‹Option Addr› <;> first | exact sim_stuck | exact sim_dies (dies_unsupported (u:=.addressObserved) trivial)))
 all_goals (cases x <;> first | exact sim_stuck | exact sim_dies (dies_unsupported (u:=.addressObserved) trivial) | (cases ‹Option Addr› <;> first | exact sim_stuck | exact sim_dies (dies_unsupported (u:=.addressObserved) trivial)))
theorem sim_foldlM {f:Value → Value → Sem Value} (hf:∀ (s:Ren) u v x y,VR F s u v → VR F s x y → Sim P F L (VR F) (f u x) (f v y) s):∀ (l l':List Value) (r:Ren) (u v:Value),VR F r u v → l'.length=l.length → (∀ (j:Nat) x y,l[j]? = some x → l'[j]? = some y → VR F r x y) → Sim P F L (VR F) (l.foldlM f u) (l'.foldlM f v) r
 | [],[],r,u,v,h,_,_=>by rw [List.foldlM_nil,List.foldlM_nil];exact sim_pure h
 | x :: l,y :: l',r,u,v,h,hl,hx=>by
  rw [List.foldlM_cons,List.foldlM_cons]
  refine sim_bind (hf r u v x y h (hx 0 x y rfl rfl)) ?_
  intro s a b hle hab
  exact sim_foldlM hf l l' s a b hab (by simpa using hl) fun j p q h1 h2=>(hx (j+1) p q h1 h2).mono hle
 | [],_ :: _,_,_,_,_,hl,_=>by cases hl
 | _ :: _,[],_,_,_,_,hl,_=>by cases hl
theorem sim_foldArr {f:Value → Value → Sem Value} (hf:∀ (s:Ren) u v x y,VR F s u v → VR F s x y → Sim P F L (VR F) (f u x) (f v y) s) {a b:Array Value} (h:ArR (VR F r) a b) (m:String) :
  Sim P F L (VR F) (match a.toList with | []=>stuck m | x :: rest=>rest.foldlM f x) (match b.toList with | []=>stuck m | x :: rest=>rest.foldlM f x) r:=by
 have hl:b.toList.length=a.toList.length:=by simp [h.1]
 have hx:∀ (j:Nat) x y,a.toList[j]? = some x → b.toList[j]? = some y → VR F r x y:=fun j x y h1 h2=>h.2 j x y (by simpa using h1) (by simpa using h2)
 revert hl hx
 cases a.toList <;> cases b.toList
 · exact fun _ _=>sim_stuck
 · exact fun h=>by cases h
 · exact fun h=>by cases h
 · exact fun h1 h2=>sim_foldlM hf _ _ r _ _ (h2 0 _ _ rfl rfl) (by simpa using h1) fun j x y e1 e2=>h2 (j+1) x y e1 e2
def NR (P:Program) (F:Nat → Prop) (r:Ren):Next → Next → Prop
 | .value u,n=>∃ v,n=.value v ∧ VR F r u v
 | .skip,n=>n=.skip
 | .enter f args,n=>∃ args',n=.enter f args' ∧ (F f ∧ ∃ fn c,P.funcs[f]? = some fn ∧ fn.body=some c) ∧ ArR (VR F r) args args'
 | _,_=>False
theorem sim_v {s:Sem Value} {s':Sem Value} (h:Sim P F L (VR F) s s' r):Sim P F L (NR P F) (s >>= fun x=>pure (.value x)) (s' >>= fun x=>pure (.value x)) r:=
 sim_bind h fun _ _ _ _ hab=>sim_pure ⟨_,rfl,hab⟩
theorem sim_u {s s':Sem Unit} (h:Sim P F L (fun _ _ _=>True) s s' r):Sim P F L (NR P F) (s >>= fun _=>pure .skip) (s' >>= fun _=>pure .skip) r:=
 sim_bind h fun _ _ _ _ _=>sim_pure rfl
def opdOk (Fb Gb:Nat → Bool):Operand → Bool
 | .tmp _=>true
 | .const v=>plainV 8 v
 | .global g=>Gb g
 | .func f=>Fb f
structure EvalR (F:Nat → Prop) (Fb Gb:Nat → Bool) (r:Ren) (e e':Operand → Value):Prop where
 rel:∀ x,opdOk Fb Gb x=true → VR F r (e x) (e' x)
 const:∀ v,e (.const v)=v ∧ e' (.const v)=v
 glob:∀ g,Gb g=true → r.rel g g
def isFuncIn (Fb:Nat → Bool):Fn → Bool
 | .func f=>Fb f
 | _=>false
def callFine (P:Program) (Fb:Nat → Bool) (c:Call):Bool:=match c.callee with
 | .builtin .len=>true
 | .builtin .min=>true
 | .builtin .max=>true
 | .builtin .append=>appendFine P c.argTypes
 | .builtin .clear=>clearFine P c.argTypes
 | .invoke _ name=>methodFine P Fb name
 | .value _=>true
 | _=>false
def binLet (P:Program) (op:BinOp) (t:TypeId) (y:Operand):Bool:=binFine P op t y || (isShift op || (isEqOp op && (isSliceT P t && isNilSlice y)))
def opFine (P:Program) (Fb:Nat → Bool):Op → Bool
 | .move _ | .assign _ | .pick _ _ _ | .box _ _ | .load _ _ | .store _ _ _ | .field _ _ _ | .indexAddr _ _ _ | .slice _ _ _ _ _ | .extract _ _ | .makeInterface _ _ | .unOp _ _ _=>true
 | .alloc t=>zeroFine P t
 | .build t _=>zeroFine P t
 | .fieldAddr s _ k=>fieldFine P s k
 | .binOp op t _ y _=>binLet P op t y
 | .makeFunc fn _ _=>isFuncIn Fb fn
 | .nilCheck _ | .index _ _ _ | .panic _=>true
 | .typeAssert _ _ t _=>zeroFine P t
 | .convert src dst _=>convFine P src dst
 | .makeSlice t _ _=>elemFine P t
 | .buildSlice t _ _=>elemFine P t
 | .makeMap _ none=>true
 | .lookup t _ _ _=>mapFine P t
 | .mapUpdate t _ _ _ | .insert t _ _ _=>keyedFine P t
 | .call c=>callFine P Fb c
 | _=>false
def operOk (P:Program) (Fb Gb:Nat → Bool) (o:Oper):Bool:=o.op.operands.all (opdOk Fb Gb) && opFine P Fb o.op
theorem ArR.map {e e':Operand → Value} {Fb Gb:Nat → Bool} (he:EvalR F Fb Gb r e e') {xs:Array Operand} (hx:∀ x ∈ xs,opdOk Fb Gb x=true):ArR (VR F r) (xs.map e) (xs.map e'):=by
 refine ⟨by simp,fun i x y h1 h2=>?_⟩
 rw [Array.getElem?_map] at h1 h2
 obtain ⟨o,h3,rfl⟩:=Option.map_eq_some_iff.1 h1
 rw [h3] at h2
 cases h2
 exact he.rel o (hx o (Array.mem_of_getElem? h3))
theorem ArR.app {X:Value → Value → Prop} {a b c d:Array Value} (h:ArR X a b) (h':ArR X c d):ArR X (a ++ c) (b ++ d):=by
 refine ⟨by simp [h.1,h'.1],fun i x y h1 h2=>?_⟩
 rw [Array.getElem?_append] at h1 h2
 rw [h.1] at h2
 split at h1
 ·
  rename_i e
  rw [if_pos e] at h2
  exact h.2 i x y h1 h2
 ·
  rename_i e
  rw [if_neg e] at h2
  exact h'.2 _ x y h1 h2
def ExtSim (P:Program) (F:Nat → Prop) (L:Nat) (x:Array Value → Sem Value):Prop:=∀ (r:Ren) (a b:Array Value),r.rel P.globals.size P.globals.size → ArR (VR F r) a b → Sim P F L (VR F) (x a) (x b) r
def FnsFine (P:Program) (F:Nat → Prop) (Gb:Nat → Bool) (L:Nat):Prop:=∀ f,F f → ∃ fn,P.funcs[f]? = some fn ∧ (fn.name == "runtime.NumGoroutine")=false ∧
 ((∃ c,fn.body=some c) ∨ (fn.body=none ∧ Gb P.globals.size=true ∧ Extern.findNext fn=none ∧ ∃ x,Extern.find fn=some x ∧ ExtSim P F L x) ∨ ∀ a,Dies P (callFunc f a))
theorem sim_callFunc {Gb:Nat → Bool} (hF:FnsFine P F Gb L) (hg:∀ g,Gb g=true → r.rel g g) {f:FuncId} (hf:F f) {a b:Array Value} (h:ArR (VR F r) a b):Sim P F L (NR P F) (callFunc f a) (callFunc f b) r:=by
 obtain ⟨fn,h1,h3,⟨c,h2⟩ | ⟨h2,h4,h5,x,h6,h7⟩ | h7⟩:=hF f hf
 ·
  unfold callFunc
  refine sim_program ?_
  rw [h1]
  dsimp only
  rw [h3,h2]
  exact sim_pure ⟨b,rfl,⟨hf,fn,c,h1,h2⟩,h⟩
 ·
  unfold callFunc
  refine sim_program ?_
  rw [h1]
  dsimp only
  rw [h3,h2]
  refine sim_bind (sim_extMark f) fun s _ _ hle _=>?_
  rw [h5,h6]
  dsimp only
  exact sim_v (h7 s a b (hle _ _ (hg _ h4)) (h.mono fun _ _=>VR.mono hle))
 · exact sim_dies (h7 a)
theorem sim_call {e e':Operand → Value} {Fb Gb:Nat → Bool} (hF:FnsFine P F Gb L) (he:EvalR F Fb Gb r e e') {c:Call} (hFb:∀ f,Fb f=true → F f) (hc:callFine P Fb c=true) (ho:∀ x ∈ c.operands,opdOk Fb Gb x=true) (t:TypeId) :
  Sim P F L (NR P F) (resolve e c t >>= fun d=>invoke d.target d.args) (resolve e' c t >>= fun d=>invoke d.target d.args) r:=by
 obtain ⟨callee,args,ts⟩:=c
 have ha:ArR (VR F r) (args.map e) (args.map e'):=ArR.map he fun x hx=>ho x (Array.mem_append.2 (.inr hx))
 cases callee with
 | invoke x name=>
  have hx:=he.rel x (ho x (Array.mem_append.2 (.inl (by show x ∈ #[x];exact Array.mem_singleton.2 rfl))))
  have h1:=hx.out
  have e0:∀ (z:Value) (l:Array Value),(#[z] ++ l)[0]? = some z:=fun z l=>by simp [Array.getElem?_append]
  have e1:∀ (z:Value) (l:Array Value),(#[z] ++ l).extract 1 (#[z] ++ l).size=l:=fun z l=>by simp
  show Sim P F L (NR P F) (invoke (.fn (.method name) #[]) (#[e x] ++ args.map e)) (invoke (.fn (.method name) #[]) (#[e' x] ++ args.map e')) r
  unfold invoke
  dsimp only
  rw [e0,e0]
  dsimp only
  rw [e1,e1]
  unfold callMethod
  cases hu:e x <;> rw [hu] at h1 <;> simp only [VStep] at h1 <;> first | exact sim_stuck | skip
  case nilIface=>exact sim_dies (dies_panic _)
  case iface ty w=>
   obtain ⟨w',e2,hw⟩:=h1
   rw [e2]
   dsimp only
   refine sim_program ?_
   refine sim_bind (sim_method hc hw _) ?_
   rintro s ⟨f,a⟩ ⟨f',b⟩ hle ⟨e3,e4,hab⟩
   dsimp only at e3 e4 hab
   subst e3
   exact sim_callFunc hF (fun g h=>hle _ _ (he.glob g h)) (hFb _ e4) ((ArR.one hab).app (ArR.mono (fun _ _=>VR.mono hle) ha))
 | builtin b=>
  cases b <;> first | (cases hc;done) | skip
  case len=>exact sim_v (sim_len ts t ha)
  case max=>exact sim_v (sim_foldArr (fun _ _ _ _ _ h1 h2=>sim_max2 h1 h2) ha _)
  case min=>exact sim_v (sim_foldArr (fun _ _ _ _ _ h1 h2=>sim_min2 h1 h2) ha _)
  case append=>exact sim_v (sim_append hc t ha)
  case clear=>exact sim_v (sim_clear hc t ha)
 | value f=>
  have hf:=he.rel f (ho f (Array.mem_append.2 (.inl (by simp))))
  have h1:=hf.out
  unfold resolve
  dsimp only
  cases hu:e f <;> rw [hu] at h1 <;> simp only [VStep] at h1 <;> first | exact sim_dies (dies_first (dies_halt (h:=.stuck _) trivial)) | skip
  case func fn fs cs=>
   obtain ⟨fs',cs',e1,⟨g,rfl,hg⟩,h2,h3⟩:=h1
   rw [e1]
   exact sim_callFunc hF he.glob hg ((h2.app ha).app h3)
  case nilFunc=>
   rw [h1]
   exact sim_dies (show Dies P (runtimePanic .nilDeref:Sem Next) from dies_panic _)
theorem OpR.map {e e':Operand → Value} {Fb Gb:Nat → Bool} (he:EvalR F Fb Gb r e e') {x:Option Operand} (hx:∀ y ∈ x,opdOk Fb Gb y=true):OpR (VR F r) (x.map e) (x.map e'):=by
 cases x with
 | none=>exact trivial
 | some y=>exact he.rel y (hx y rfl)
theorem sim_eqGuard' {op:BinOp} {t:TypeId} {x y:Operand} {u v p q:Value} (hf:binFine P op t y=true) (h:VR F r u v) (hx:VR F r p q) (hy:y=.const .nilIface → p=.nilIface ∧ q=.nilIface):Sim P F L (fun _ _ _=>True) (eqGuard op t x y u p) (eqGuard op t x y v q) r:=by
 refine sim_eqGuard ?_ h hx
 by_cases eq:op=.eql ∨ op=.neq
 ·
  rcases binFine_eq hf eq with h | ⟨-,h⟩
  · exact .inl h
  · exact .inr ⟨h,(hy h).1⟩
 ·
  left
  cases op <;> simp only [binFine] at hf <;> first | cases hf | exact hf | exact absurd (.inl rfl) eq | exact absurd (.inr rfl) eq
theorem sim_oper {Fb Gb:Nat → Bool} (hF:FnsFine P F Gb L) (hFb:∀ f,Fb f=true → F f) {e e':Operand → Value} (he:EvalR F Fb Gb r e e') {o:Oper} (ho:operOk P Fb Gb o=true) (hG:P.globals.size ≤ L):Sim P F L (NR P F) (execOp e o) (execOp e' o) r:=by
 unfold operOk at ho
 rw [Bool.and_eq_true,Array.all_eq_true_iff_forall_mem] at ho
 obtain ⟨hx,hf⟩:=ho
 unfold execOp
 dsimp only
 cases hop:o.op <;> rw [hop] at hx hf <;> simp only [opFine] at hf <;> first | cases hf;done | skip
 case move x=>exact sim_pure ⟨_,rfl,he.rel x (hx x (by simp [Op.operands]))⟩
 case assign x=>exact sim_pure ⟨_,rfl,he.rel x (hx x (by simp [Op.operands]))⟩
 case pick c a b=>
  dsimp only
  refine sim_bind (sim_asBool (he.rel c (hx c (by simp [Op.operands])))) ?_
  rintro s _ t hle rfl
  refine sim_pure ⟨_,rfl,?_⟩
  cases t
  · exact (he.rel b (hx b (by simp [Op.operands]))).mono hle
  · exact (he.rel a (hx a (by simp [Op.operands]))).mono hle
 case alloc t=>exact sim_v (sim_alloc hf)
 case box t x=>exact sim_v (sim_box (he.rel x (hx x (by simp [Op.operands]))) t)
 case build t parts=>
  refine sim_v (sim_build hf (by simp) fun j x y h1 h2=>?_)
  rw [Array.getElem?_map] at h1 h2
  obtain ⟨p,h3,rfl⟩:=Option.map_eq_some_iff.1 h1
  rw [h3] at h2
  cases h2
  exact ⟨rfl,he.rel p.2 (hx p.2 (by
   have:=Array.mem_of_getElem? h3
   simp only [Op.operands,List.mem_toArray,List.mem_map]
   exact ⟨p,by simpa using this,rfl⟩))⟩
 case load t a=>exact sim_v (sim_loadAt (he.rel a (hx a (by simp [Op.operands]))) t)
 case store t a x=>exact sim_u (sim_storeAt (he.rel a (hx a (by simp [Op.operands]))) (he.rel x (hx x (by simp [Op.operands]))) t)
 case binOp op t x y t'=>
  have hx1:=he.rel x (hx x (by simp [Op.operands]))
  have hy1:=he.rel y (hx y (by simp [Op.operands]))
  have hn:y=.const .nilIface → e y=.nilIface ∧ e' y=.nilIface:=fun h=>by subst h;exact he.const _
  unfold binLet at hf
  rcases Bool.or_eq_true _ _ ▸ hf with hf | hf
  ·
   refine sim_v (sim_bind (Q:=fun _ _ _=>True) (sim_eqGuard' hf hx1 hy1 hn) fun s _ _ hle _=>?_)
   exact sim_binOp hf (hx1.mono hle) (hy1.mono hle) hn hG
  rcases Bool.or_eq_true _ _ ▸ hf with hf | hf
  ·
   have off:∀ a b:Value,eqGuard op t x y a b=pure ():=fun a b=>by
    cases op <;> first | (cases hf;done) | rfl
   dsimp only
   rw [off,off]
   exact sim_v (sim_bind (Q:=fun _ _ _=>True) (sim_pure trivial) fun s _ _ hle _=>sim_binShift hf t (hx1.mono hle) (hy1.mono hle))
  ·
   rw [Bool.and_eq_true,Bool.and_eq_true] at hf
   obtain ⟨f1,f2,f3⟩:=hf
   have ey:e y=.slice none 0 0 ∧ e' y=.slice none 0 0:=by
    unfold isNilSlice at f3
    split at f3
    · exact he.const _
    · cases f3
   dsimp only
   rw [ey.1,ey.2,eqGuard_off (fun h=>by cases h.2) (fun h=>by cases h.2),eqGuard_off (fun h=>by cases h.2) (fun h=>by cases h.2)]
   exact sim_v (sim_bind (Q:=fun _ _ _=>True) (sim_pure trivial) fun s _ _ hle _=>sim_binSlice f1 f2 (hx1.mono hle))
 case unOp op t x=>exact sim_v (sim_unary op (he.rel x (hx x (by simp [Op.operands]))))
 case makeInterface t x=>exact sim_v (sim_makeInterface (he.rel x (hx x (by simp [Op.operands]))) t)
 case makeFunc fn fs cs=>
  cases fn <;> first | (cases hf;done) | skip
  rename_i f
  exact sim_v (sim_pure (VR.make ⟨_,_,rfl,⟨f,rfl,hFb f hf⟩,ArR.map he fun x h=>hx x (by simp only [Op.operands];exact Array.mem_append.2 (.inl h)),ArR.map he fun x h=>hx x (by simp only [Op.operands];exact Array.mem_append.2 (.inr h))⟩))
 case slice t x lo hi mx=>
  refine sim_v (sim_sliceAt (he.rel x (hx x (by simp [Op.operands]))) (OpR.map he fun y h=>hx y ?_) (OpR.map he fun y h=>hx y ?_) (OpR.map he fun y h=>hx y ?_) t)
  · simp only [Option.mem_def] at h;simp [Op.operands,h]
  · simp only [Option.mem_def] at h;simp [Op.operands,h]
  · simp only [Option.mem_def] at h;simp [Op.operands,h]
 case fieldAddr s x k=>exact sim_v (sim_fieldAt (he.rel x (hx x (by simp [Op.operands]))) hf)
 case field s x k=>exact sim_v (sim_field (he.rel x (hx x (by simp [Op.operands]))) s k)
 case indexAddr t x i=>exact sim_v (sim_indexAt (he.rel x (hx x (by simp [Op.operands]))) (he.rel i (hx i (by simp [Op.operands]))) t)
 case extract x k=>exact sim_v (sim_extract (he.rel x (hx x (by simp [Op.operands]))) k)
 case nilCheck x=>
  have hx1:=he.rel x (hx x (by simp [Op.operands]))
  have h1:=hx1.out
  dsimp only
  revert hx1 h1
  generalize e x=u
  generalize e' x=v
  intro hx1 h1
  cases u <;> simp only [VStep] at h1
  case pointer a=>
   obtain ⟨a',rfl,ha⟩:=h1
   cases a <;> cases a' <;> simp only [OpR] at ha
   · exact sim_dies (dies_panic _)
   · exact sim_pure ⟨_,rfl,hx1⟩
  case func fn fs cs=>
   obtain ⟨fs',cs',rfl,⟨f,rfl,hf⟩,h2⟩:=h1
   exact sim_pure ⟨_,rfl,hx1⟩
  case nilFunc=>exact sim_dies (dies_panic _)
  case nilIface=>exact sim_dies (dies_panic _)
  case slice=>obtain ⟨_,rfl,-⟩:=h1;exact sim_pure ⟨_,rfl,hx1⟩
  case map=>obtain ⟨_,rfl,-⟩:=h1;exact sim_pure ⟨_,rfl,hx1⟩
  case iface=>obtain ⟨_,rfl,-⟩:=h1;exact sim_pure ⟨_,rfl,hx1⟩
  case agg=>obtain ⟨_,rfl,-⟩:=h1;exact sim_pure ⟨_,rfl,hx1⟩
  case tuple=>obtain ⟨_,rfl,-⟩:=h1;exact sim_pure ⟨_,rfl,hx1⟩
  all_goals (subst h1;exact sim_pure ⟨_,rfl,hx1⟩)
 case panic x=>exact sim_v (sim_panic (he.rel x (hx x (by simp [Op.operands]))))
 case typeAssert x t t2 ok=>exact sim_v (sim_typeAssert hf ok (he.rel x (hx x (by simp [Op.operands]))))
 case index t x i=>exact sim_v (sim_index (he.rel x (hx x (by simp [Op.operands]))) (he.rel i (hx i (by simp [Op.operands]))) t)
 case convert src dst x=>exact sim_v (sim_convert hf (he.rel x (hx x (by simp [Op.operands]))))
 case makeSlice t l c=>exact sim_v (sim_makeSlice hf (he.rel l (hx l (by simp [Op.operands]))) (he.rel c (hx c (by simp [Op.operands]))))
 case buildSlice t n parts=>
  refine sim_v (sim_buildSlice hf n (by simp) fun j x y h1 h2=>?_)
  rw [Array.getElem?_map] at h1 h2
  obtain ⟨p,h3,rfl⟩:=Option.map_eq_some_iff.1 h1
  rw [h3] at h2
  cases h2
  exact ⟨rfl,he.rel p.2 (hx p.2 (by
   have:=Array.mem_of_getElem? h3
   simp only [Op.operands,List.mem_toArray,List.mem_map]
   exact ⟨p,by simpa using this,rfl⟩))⟩
 case makeMap t o=>
  cases o with
  | none=>exact sim_v (sim_makeMap t)
  | some _=>cases hf
 case lookup t x i ok=>exact sim_v (sim_lookup hf hG (he.rel x (hx x (by simp [Op.operands]))) (he.rel i (hx i (by simp [Op.operands]))) ok)
 case mapUpdate t m k x=>exact sim_u (sim_mapUpdate hf hG (he.rel m (hx m (by simp [Op.operands]))) (he.rel k (hx k (by simp [Op.operands]))) (he.rel x (hx x (by simp [Op.operands]))))
 case insert t m k x=>exact sim_u (sim_mapUpdate hf hG (he.rel m (hx m (by simp [Op.operands]))) (he.rel k (hx k (by simp [Op.operands]))) (he.rel x (hx x (by simp [Op.operands]))))
 case call c=>exact sim_call hF he hFb hf (fun x h=>hx x h) _
end
def codeOk (P:Program) (Fb Gb:Nat → Bool):Code → Bool
 | .skip | .exit _ | .label _ | .ret=>true
 | .region _ ops _=>ops.all (operOk P Fb Gb)
 | .seq a b=>codeOk P Fb Gb a && codeOk P Fb Gb b
 | .cond c a b=>opdOk Fb Gb c && codeOk P Fb Gb a && codeOk P Fb Gb b
 | .block _ c=>codeOk P Fb Gb c
 | .loop c=>codeOk P Fb Gb c
 | .scope c=>codeOk P Fb Gb c
 | _=>false
def itemOk (P:Program) (Fb Gb:Nat → Bool):Item → Bool
 | .code c=>codeOk P Fb Gb c
 | .inBlock _=>true
 | .inLoop c=>codeOk P Fb Gb c
 | .inScope c=>codeOk P Fb Gb c
 | .inRegion ops _=>ops.all (operOk P Fb Gb)
 | _=>false
def FnsOk (P:Program) (Fb Gb:Nat → Bool):Prop:=∀ f,Fb f=true → ∃ fn,P.funcs[f]? = some fn ∧ (fn.name == "runtime.NumGoroutine")=false ∧
 ((∃ c,fn.body=some c ∧ codeOk P Fb Gb c=true) ∨ (fn.body=none ∧ Gb P.globals.size=true ∧ Extern.findNext fn=none ∧ ∃ x,Extern.find fn=some x ∧ ∀ L,ExtSim P (fun f=>Fb f=true) L x) ∨ ∀ a,Dies P (callFunc f a))
abbrev inF (Fb:Nat → Bool):Nat → Prop:=fun f=>Fb f=true
theorem FnsOk.fine {P:Program} {Fb Gb:Nat → Bool} (h:FnsOk P Fb Gb) (L:Nat):FnsFine P (inF Fb) Gb L:=fun f hf=>by
 obtain ⟨fn,h1,h2,⟨c,h3,-⟩ | ⟨h3,h4,h5,x,h6,h7⟩ | h3⟩:=h f hf
 · exact ⟨fn,h1,h2,.inl ⟨c,h3⟩⟩
 · exact ⟨fn,h1,h2,.inr (.inl ⟨h3,h4,h5,x,h6,h7 L⟩)⟩
 · exact ⟨fn,h1,h2,.inr (.inr h3)⟩
structure FrameR (P:Program) (Fb Gb:Nat → Bool) (r:Ren) (fr fr':Frame):Prop where
 fn:fr'.fn=fr.fn
 isIn:Fb fr.fn=true
 tmps:ArR (VR (inF Fb) r) fr.tmps fr'.tmps
 todo:fr'.todo=fr.todo
 items:∀ x ∈ fr.todo,itemOk P Fb Gb x=true
 defers:fr.defers=[]
 defers':fr'.defers=[]
 mode:fr'.mode=fr.mode
 modes:fr.mode=.run ∨ fr.mode=.returning
 kind:fr.kind=.normal
 kind':fr'.kind=.normal
 round:fr.roundOf=none
 round':fr'.roundOf=none
def StackR (P:Program) (Fb Gb:Nat → Bool) (r:Ren) (bot base:List Frame):List Frame → List Frame → Prop
 | [],c=>[]=bot ∧ c=base
 | f :: l,c=>(f :: l=bot ∧ c=base) ∨ ∃ f' l',c=f' :: l' ∧ FrameR P Fb Gb r f f' ∧ StackR P Fb Gb r bot base l l'
section
variable {P:Program} {Fb Gb:Nat → Bool} {L:Nat} {r s:Ren} {bot base:List Frame}
theorem FrameR.mono (h:r.Le s) {f f':Frame} (x:FrameR P Fb Gb r f f'):FrameR P Fb Gb s f f':={ x with tmps:=x.tmps.mono fun _ _=>VR.mono h }
theorem StackR.mono (h:r.Le s):∀ {l l':List Frame},StackR P Fb Gb r bot base l l' → StackR P Fb Gb s bot base l l'
 | [],_,x=>x
 | _ :: _,_,x=>x.elim .inl fun ⟨f',l',h1,h2,h3⟩=>.inr ⟨f',l',h1,h2.mono h,h3.mono h⟩
theorem FrameR.eval {f f':Frame} (x:FrameR P Fb Gb r f f') (hg:∀ g,Gb g=true → r.rel g g):EvalR (inF Fb) Fb Gb r f.eval f'.eval:=by
 refine ⟨fun o ho=>?_,fun v=>⟨rfl,rfl⟩,hg⟩
 cases o with
 | tmp t=>
  show VR _ r (f.tmps.getD t undef) (f'.tmps.getD t undef)
  rw [Array.getD_eq_getD_getElem?,Array.getD_eq_getD_getElem?]
  rcases x.tmps.get t with ⟨h1,h2⟩ | ⟨u,v,h1,h2,h3⟩
  ·
   rw [h1,h2]
   exact VR.plain (n:=1) (by simp [undef,plainV])
  ·
   rw [h1,h2]
   exact h3
 | const v=>exact VR.plain ho
 | global g=>exact VR.ptr ⟨hg g ho,rfl,rfl⟩
 | func g=>exact VR.make ⟨_,_,rfl,⟨g,rfl,ho⟩,ArR.nil,ArR.nil⟩
theorem FrameR.yielded {f f':Frame} (x:FrameR P Fb Gb r f f') (ops:Array Oper):yielded ops f'.tmps=yielded ops f.tmps:=by
 funext j
 unfold Go.yielded
 cases hd:(ops[j]?).bind (·.dst) with
 | none=>rfl
 | some d=>
  simp only [Option.bind_some]
  rcases x.tmps.get d with ⟨h1,h2⟩ | ⟨u,v,h1,h2,h3⟩
  · rw [h1,h2]
  ·
   rw [h1,h2]
   have e:=h3.kind
   have h4:=h3.out
   cases u <;> simp only [VStep] at h4
   case bool b=>rw [h4]
   all_goals (cases v <;> first | rfl | cases e)
theorem FrameR.to {f f':Frame} (x:FrameR P Fb Gb r f f') (k:List Item) (hk:∀ y ∈ k,itemOk P Fb Gb y=true):FrameR P Fb Gb r { f with todo:=k } { f' with todo:=k }:={ x with todo:=rfl,items:=hk }
theorem FrameR.ret {f f':Frame} (x:FrameR P Fb Gb r f f'):FrameR P Fb Gb r { f with mode:=.returning } { f' with mode:=.returning }:={ x with mode:=rfl,modes:=.inr rfl }
theorem FrameR.finish {f f':Frame} (x:FrameR P Fb Gb r f f') {u v:Value} (h:VR (inF Fb) r u v):FrameR P Fb Gb r (f.finish u) (f'.finish v):=by
 unfold Frame.finish
 rw [x.todo]
 have hi:=x.items
 cases ht:f.todo with
 | nil=>exact x
 | cons it k=>
  rw [ht] at hi
  have h0:=hi it (List.mem_cons_self ..)
  cases it <;> first | (cases h0;done) | exact x | skip
  rename_i ops l
  cases l with
  | nil=>exact x
  | cons i rest=>
   refine { x with todo:=rfl,items:=?_,tmps:=?_ }
   ·
    dsimp only
    cases (ops[i]?).bind (·.dst) with
    | none=>exact x.tmps
    | some d=>exact x.tmps.set d h
   ·
    intro y hy
    rcases List.mem_cons.1 hy with rfl | hy
    · exact h0
    · exact hi y (List.mem_cons_of_mem _ hy)
theorem FrameR.entered {f:FuncId} (hf:FnsOk P Fb Gb) (h:Fb f=true) (hb:∃ fn c,P.funcs[f]? = some fn ∧ fn.body=some c) {a b:Array Value} (ha:ArR (VR (inF Fb) r) a b):FrameR P Fb Gb r (Frame.enter P f a .normal) (Frame.enter P f b .normal):=by
 obtain ⟨fn,c,h1,h2,h3⟩:∃ fn c,P.funcs[f]? = some fn ∧ fn.body=some c ∧ codeOk P Fb Gb c=true:=by
  obtain ⟨fn,c,h1,h2⟩:=hb
  obtain ⟨fn',k1,-,⟨c',k2,k3⟩ | ⟨k2,-⟩ | k2⟩:=hf f h
  ·
   rw [h1] at k1
   cases k1
   exact ⟨fn,c',h1,k2,k3⟩
  ·
   rw [h1] at k1
   cases k1
   rw [h2] at k2
   cases k2
  ·
   exfalso
   rw [h1] at k1
   cases k1
   obtain ⟨x,w1,hx,-⟩:=k2 #[] default
   unfold callFunc at hx
   simp [program,Sem.run,h1,h2] at hx
   split at hx <;> cases hx
 refine ⟨rfl,h,?_,rfl,?_,rfl,rfl,rfl,.inl rfl,rfl,rfl,rfl,rfl⟩
 ·
  show ArR _ (a ++ _) (b ++ _)
  rw [ha.1]
  refine ha.app (ArR.plain (n:=1) fun x hx=>?_)
  rw [(Array.mem_replicate.1 hx).2]
  simp [undef,plainV]
 ·
  intro y hy
  simp only [Frame.enter,h1,Option.bind_some,h2,Option.getD_some,List.mem_cons,List.not_mem_nil,or_false] at hy
  subst hy
  exact h3
def own (P:Program) (fr:Frame) (cs:List Frame):Sem (Frame × List Frame):=
 match fr.mode with
 | .run=>
  match fr.todo with
  | []=>pure ({ fr with mode:=.returning },cs)
  | .code .ret :: _=>pure ({ fr with mode:=.returning },cs)
  | .code .skip :: k=>pure ({ fr with todo:=k },cs)
  | .code (.label _) :: k=>pure ({ fr with todo:=k },cs)
  | .inBlock _ :: k=>pure ({ fr with todo:=k },cs)
  | .inScope _ :: k=>pure ({ fr with todo:=k },cs)
  | .code (.seq a b) :: k=>pure ({ fr with todo:=.code a :: .code b :: k },cs)
  | .code (.cond c a b) :: k=>(match fr.eval c with
   | .bool t=>pure ({ fr with todo:=.code (if t then a else b) :: k },cs)
   | _=>stuck "")
  | .code (.block id c) :: k=>pure ({ fr with todo:=.code c :: .inBlock id :: k },cs)
  | .code (.loop c) :: k=>pure ({ fr with todo:=.code c :: .inLoop c :: k },cs)
  | .inLoop c :: k=>pure ({ fr with todo:=.code c :: .inLoop c :: k },cs)
  | .code (.scope c) :: k=>pure ({ fr with todo:=.code c :: .inScope c :: k },cs)
  | .code (.exit id) :: k=>(match exitTo id k with
   | some k'=>pure ({ fr with todo:=k' },cs)
   | none=>stuck "")
  | .code (.region id ops draw) :: k=>if !draw then pure ({ fr with todo:=.inRegion ops (List.range ops.size) :: k },cs) else
   choose (.order fr.fn id) >>= fun t=>pure ({ fr with todo:=.inRegion ops (Region.schedule (P.follows .mixedOrders) ops t) :: k },cs)
  | .inRegion _ [] :: k=>pure ({ fr with todo:=k },cs)
  | .inRegion ops (i :: _) :: _=>(match ops[i]? with
   | some o=>if Region.wanted o (yielded ops fr.tmps) then execOp fr.eval o >>= fun n=>(match n with
     | .value v=>pure (fr.finish v,cs)
     | .skip=>pure (fr.finish undef,cs)
     | .enter f args=>pure (Frame.enter P f args .normal,fr :: cs)
     | _=>Sem.halt .waiting) else pure (fr.finish undef,cs)
   | none=>pure (fr.finish undef,cs))
  | _=>Sem.halt .waiting
 | .returning=>(match cs with
  | c :: rest=>(match P.funcs[fr.fn]? with
   | some fn=>results fn fr.tmps >>= fun v=>pure (c.finish v,rest)
   | none=>Sem.halt .waiting)
  | []=>Sem.halt .waiting)
 | _=>Sem.halt .waiting
theorem exitTo_items {id:Nat} {X:Item → Prop}:∀ {k k':List Item},exitTo id k=some k' → (∀ y ∈ k,X y) → ∀ y ∈ k',X y
 | [],_,h,_=>by cases h
 | it :: k,k',h,hx=>by
  have rest:exitTo id k=some k' → ∀ y ∈ k',X y:=fun h=>exitTo_items h fun y hy=>hx y (List.mem_cons_of_mem _ hy)
  cases it <;> simp only [exitTo] at h <;> first | exact rest h | skip
  split at h
  ·
   cases h
   exact fun y hy=>hx y (List.mem_cons_of_mem _ hy)
  · exact rest h
theorem sim_results {fn:Func} {a b:Array Value} {F:Nat → Prop} (h:ArR (VR F r) a b):Sim P F L (VR F) (results fn a) (results fn b) r:=by
 have get:∀ (s:Ren) (t:Nat),r.Le s → VR F s (a.getD t undef) (b.getD t undef):=fun s t hle=>by
  rw [Array.getD_eq_getD_getElem?,Array.getD_eq_getD_getElem?]
  rcases h.get t with ⟨h1,h2⟩ | ⟨u,v,h1,h2,h3⟩
  ·
   rw [h1,h2]
   exact VR.plain (n:=1) (by simp [undef,plainV])
  ·
   rw [h1,h2]
   exact h3.mono hle
 unfold results
 rw [Array.mapM_eq_mapM_toList,Array.mapM_eq_mapM_toList]
 have go:∀ (l:List ResultVar) (s:Ren),r.Le s → Sim P F L (fun t x y=>y.length=x.length ∧ ∀ (j:Nat) p q,x[j]? = some p → y[j]? = some q → VR F t p q)
   (l.mapM fun | .tmp t=>pure (a.getD t undef) | .cell c t=>(do loadVar t (← asAddr (a.getD c undef)))) (l.mapM fun | .tmp t=>pure (b.getD t undef) | .cell c t=>(do loadVar t (← asAddr (b.getD c undef)))) s:=by
  intro l
  induction l with
  | nil=>intro s _;rw [List.mapM_nil,List.mapM_nil];exact sim_pure ⟨rfl,fun j p q h=>by simp at h⟩
  | cons x l ih=>
   intro s hle
   rw [List.mapM_cons,List.mapM_cons]
   refine sim_bind (Q:=VR F) ?_ fun s2 u v hle2 huv=>sim_bind (ih s2 (hle.trans hle2)) fun s3 xs ys hle3 hxy=>sim_pure ⟨by simp [hxy.1],fun j p q h1 h2=>?_⟩
   ·
    cases x with
    | tmp t=>exact sim_pure (get s t hle)
    | cell c t=>exact sim_bind (sim_asAddr (get s c hle)) fun s4 p q _ hpq=>sim_loadVar hpq t
   ·
    cases j with
    | zero=>cases h1;cases h2;exact huv.mono hle3
    | succ j=>exact hxy.2 j p q h1 h2
 refine sim_bind (Q:=fun t x y=>ArR (VR F t) x y) (sim_bind (go fn.results.toList r (Ren.Le.refl _)) fun s x y _ hxy=>sim_pure ⟨by simp [hxy.1],fun j p q h1 h2=>hxy.2 j p q (by simpa using h1) (by simpa using h2)⟩) ?_
 intro s x y _ hxy
 by_cases e:x.size=1
 ·
  have e':y.size=1:=hxy.1.trans e
  rw [dif_pos e,dif_pos e']
  exact sim_pure (hxy.2 0 _ _ (Array.getElem?_eq_getElem (by omega)) (Array.getElem?_eq_getElem (by omega)))
 ·
  have e':¬ y.size=1:=fun h=>e (hxy.1.symm.trans h)
  rw [dif_neg e,dif_neg e']
  exact sim_pure (VR.tuple hxy)
end
end Go.Proofs.YtbokomeejmnnoaaDoor
