/- Own facts, put together: no statement of its own. -/
import Derived.Test.YtbokomeejmnnoaaDoorD11
set_option maxHeartbeats 2000000

namespace Go.Proofs.YtbokomeejmnnoaaDoor
section
variable {α β γ δ:Type} {P:Program} {F:Nat → Prop} {L:Nat} {r:Ren}
theorem sim_under {Q:Ren → α → β → Prop} {t:TypeId} {d:TypeDesc} (h:P.underlying t=some d) {f:TypeDesc → Sem α} {f':TypeDesc → Sem β} (hs:Sim P F L Q (f d) (f' d) r):Sim P F L Q (underlying t >>= f) (underlying t >>= f') r:=by
 have e:∀ w,(underlying t).run P w=.ok d w:=fun w=>by simp [underlying,program,Sem.run,h]
 have e':∀ w es,(underlying t).events P w es=es:=fun w es=>by simp [underlying,h]
 intro w w' hw
 rcases hs w w' hw with ⟨x,w1,h1,hm⟩ | ⟨a,w1,r1,b,w1',evs,h1,h2,h3,h4,h5,h6,h7,h8⟩
 · exact .inl ⟨x,w1,by simp [e,h1],hm⟩
 · exact .inr ⟨a,w1,r1,b,w1',evs,by simp [e,h1],by simp [e,h2],fun es=>by simp [e,e',h3],h4,h5,h6,h7,LocTp.bind (a:=d) (w1:=w) ⟨rfl,Nat.le_refl _,fun t _=>e _⟩ h8⟩
def intType (P:Program) (t:TypeId):Bool:=match P.underlying t with
 | some (.int _)=>(match P.info? t with | some i=>!(i.desc matches .named "sync.copyChecker" _) | none=>true)
 | _=>false
theorem intType_is {t:TypeId} (h:intType P t=true):∃ k,P.underlying t=some (.int k):=by
 unfold intType at h
 split at h
 · exact ⟨_,by assumption⟩
 · cases h
theorem sim_equalPtr {t:TypeId} {a a' b b':Addr} (ht:intType P t=true) (ha:AR r a a') (hb:AR r b b') (hG:P.globals.size ≤ L) :
  Sim P F L (fun _ x y=>y=x) (Op.equal t (.pointer (some a)) (.pointer (some b))) (Op.equal t (.pointer (some a')) (.pointer (some b'))) r:=by
 obtain ⟨k,hk⟩:=intType_is ht
 show Sim P F L (fun _ x y=>y=x) (Op.equalIn (9999+1) t (.pointer (some a)) (.pointer (some b))) (Op.equalIn (9999+1) t (.pointer (some a')) (.pointer (some b'))) r
 rw [Op.equalIn,Op.equalIn]
 refine sim_under hk ?_
 dsimp only
 refine sim_bind (sim_behind ha) ?_
 rintro s ⟨p,l⟩ ⟨p',l'⟩ hle ⟨hp,rfl⟩
 refine sim_bind (sim_behind (hb.mono hle)) ?_
 rintro s2 ⟨q,m⟩ ⟨q',m'⟩ hle2 ⟨hq,rfl⟩
 intro w w' hw
 dsimp only at hp hq
 have hp2:=AR.mono hle2 hp
 have e1:(p'.block == q'.block)=(p.block == q.block):=by
  by_cases e:p.block=q.block
  ·
   have e':p'.block=q'.block:=s2.fn _ _ _ hp2.1 (e ▸ hq.1)
   rw [e,e',beq_self_eq_true,beq_self_eq_true]
  ·
   have e':p'.block ≠ q'.block:=fun h=>e (s2.inj _ _ _ (h ▸ hp2.1) hq.1)
   rw [beq_eq_false_iff_ne.2 e,beq_eq_false_iff_ne.2 e']
 have e2:decide (p'.block < P.globals.size)=decide (p.block < P.globals.size):=by
  rcases Nat.lt_or_ge p.block L with hl | hl
  · rw [hw.base _ _ hp2.1 hl]
  ·
   have:=hw.high _ _ hp2.1 hl
   rw [decide_eq_false (show ¬ p'.block < P.globals.size by omega),decide_eq_false (show ¬ p.block < P.globals.size by omega)]
 revert w w' hw
 show Sim P F L _ _ _ s2
 dsimp only
 refine sim_program ?_
 rw [e1,e2]
 split
 ·
  refine sim_bind (sim_byteOf hp2) ?_
  rintro s3 _ n hle3 rfl
  refine sim_bind (sim_byteOf (hq.mono hle3)) ?_
  rintro s4 _ n' - rfl
  exact sim_pure rfl
 ·
  refine sim_bind (sim_typeInfo t) ?_
  rintro s3 _ i - ⟨rfl,hi⟩
  unfold intType at ht
  rw [hk,hi] at ht
  dsimp only at ht ⊢
  split
  ·
   rename_i hd
   simp [hd] at ht
  · exact sim_dies (dies_unsupported trivial)
theorem sim_equalInt {t:TypeId} {u v x y:Value} (ht:intType P t=true) (h:VR F r u v) (hx:VR F r x y) (hG:P.globals.size ≤ L):Sim P F L (fun _ x y=>y=x) (Op.equal t u x) (Op.equal t v y) r:=by
 obtain ⟨k,hk⟩:=intType_is ht
 have h1:=h.out
 have h2:=hx.out
 have go:Sim P F L (fun _ x y=>y=x) (Op.equalIn (9999+1) t u x) (Op.equalIn (9999+1) t v y) r → Sim P F L (fun _ x y=>y=x) (Op.equal t u x) (Op.equal t v y) r:=fun h=>h
 cases u <;> cases x
 case int.int k1 n k2 m=>
  subst h1;subst h2
  apply go
  rw [Op.equalIn]
  refine sim_under hk ?_
  dsimp only
  split
  · exact sim_pure rfl
  · exact sim_stuck
 case pointer.pointer a b=>
  obtain ⟨a',rfl,ha⟩:=h1
  obtain ⟨b',rfl,hb⟩:=h2
  cases a <;> cases a' <;> simp only [OpR] at ha <;> cases b <;> cases b' <;> simp only [OpR] at hb
  case some.some.some.some=>exact sim_equalPtr ht ha hb hG
  all_goals (apply go;rw [Op.equalIn];(try rw [Op.equalIn]);refine sim_under hk ?_;exact sim_dies (dies_unsupported (u:=.addressObserved) trivial))
 case pointer.int a k2 m=>
  obtain ⟨a',rfl,ha⟩:=h1
  subst h2
  apply go
  rw [Op.equalIn,Op.equalIn]
  refine sim_under hk ?_
  cases a <;> cases a' <;> simp only [OpR] at ha
  · exact sim_dies (dies_unsupported trivial)
  ·
   cases m with
   | ofNat m=>cases m with
    | zero=>exact sim_pure rfl
    | succ m=>exact sim_dies (dies_unsupported trivial)
   | negSucc m=>exact sim_dies (dies_unsupported trivial)
 case int.pointer k2 m a=>
  obtain ⟨a',rfl,ha⟩:=h2
  subst h1
  apply go
  rw [Op.equalIn,Op.equalIn]
  refine sim_under hk ?_
  cases a <;> cases a' <;> simp only [OpR] at ha
  ·
   cases m with
   | ofNat m=>cases m <;> exact sim_dies (dies_unsupported trivial)
   | negSucc m=>exact sim_dies (dies_unsupported trivial)
  ·
   cases m with
   | ofNat m=>cases m with
    | zero=>exact sim_pure rfl
    | succ m=>exact sim_dies (dies_unsupported trivial)
   | negSucc m=>exact sim_dies (dies_unsupported trivial)
 all_goals (apply go;rw [Op.equalIn];(try rw [Op.equalIn]);refine sim_under hk ?_;first | exact sim_stuck | exact sim_dies (dies_unsupported (u:=.addressObserved) trivial) | (cases ‹Option Addr› <;> exact sim_dies (dies_unsupported (u:=.addressObserved) trivial)) | (cases ‹Option Addr› <;> cases ‹Option Addr› <;> exact sim_dies (dies_unsupported (u:=.addressObserved) trivial)))
end
section
variable {α β γ δ:Type} {P:Program} {F:Nat → Prop} {L:Nat} {r:Ren}
theorem sim_ite {Q:Ren → α → β → Prop} {c:Prop} [Decidable c] {s t:Sem α} {s' t':Sem β} (h:c → Sim P F L Q s s' r) (h':¬ c → Sim P F L Q t t' r):Sim P F L Q (if c then s else t) (if c then s' else t') r:=by
 by_cases e:c
 ·
  rw [if_pos e,if_pos e]
  exact h e
 ·
  rw [if_neg e,if_neg e]
  exact h' e
def kindNo:Value → Nat
 | .bool _=>0 | .int _ _=>1 | .float _ _=>2 | .complex _ _ _=>3 | .string _=>4 | .pointer _=>5 | .slice _ _ _=>6 | .map _=>7 | .chan _=>8
 | .func _ _ _=>9 | .nilFunc=>10 | .iface _ _=>11 | .nilIface=>12 | .agg _=>13 | .tuple _=>14
theorem VR.kind {u v:Value} (h:VR F r u v):kindNo v=kindNo u:=by
 have:=h.out
 cases u <;> simp only [VStep] at this
 case pointer=>obtain ⟨_,rfl,-⟩:=this;rfl
 case slice=>obtain ⟨_,rfl,-⟩:=this;rfl
 case map=>obtain ⟨_,rfl,-⟩:=this;rfl
 case func=>obtain ⟨_,_,rfl,-⟩:=this;rfl
 case iface=>obtain ⟨_,rfl,-⟩:=this;rfl
 case agg=>obtain ⟨_,rfl,-⟩:=this;rfl
 case tuple=>obtain ⟨_,rfl,-⟩:=this;rfl
 all_goals (subst this;rfl)
theorem eqGuard_off {op:BinOp} {t:TypeId} {x y:Operand} {a b:Value} (h1:¬ (kindNo a=12 ∧ kindNo b=12)) (h2:¬ (kindNo a=13 ∧ kindNo b=13)):eqGuard op t x y a b=pure ():=by
 unfold eqGuard
 cases a <;> first | (split <;> rfl) | (cases b <;> first | (split <;> rfl) | exact absurd ⟨rfl,rfl⟩ h1 | exact absurd ⟨rfl,rfl⟩ h2)
theorem sim_eqGuardIn {t:TypeId} {u v p q:Value} (ht:intType P t=true):Sim P F L (fun _ a b=>a=false ∧ b=false) (Op.eqGuardIn Op.maxDepth t u p) (Op.eqGuardIn Op.maxDepth t v q) r:=by
 obtain ⟨k,hk⟩:=intType_is ht
 show Sim P F L _ (Op.eqGuardIn (9999+1) t u p) (Op.eqGuardIn (9999+1) t v q) r
 rw [Op.eqGuardIn,Op.eqGuardIn]
 refine sim_under hk ?_
 exact sim_pure ⟨rfl,rfl⟩
theorem sim_eqGuard {op:BinOp} {t:TypeId} {x y:Operand} {u v p q:Value} (ht:intType P t=true ∨ y=.const .nilIface ∧ p=.nilIface) (h:VR F r u v) (hx:VR F r p q):Sim P F L (fun _ _ _=>True) (eqGuard op t x y u p) (eqGuard op t x y v q) r:=by
 by_cases h1:kindNo u=12 ∧ kindNo p=12
 ·
  have e1:u=.nilIface:=by cases u <;> first | rfl | cases h1.1
  have e2:p=.nilIface:=by cases p <;> first | rfl | cases h1.2
  have e3:=h.kind
  have e4:=hx.kind
  rw [h1.1] at e3
  rw [h1.2] at e4
  have e5:v=.nilIface:=by cases v <;> first | rfl | cases e3
  have e6:q=.nilIface:=by cases q <;> first | rfl | cases e4
  subst e1 e2 e5 e6
  rcases ht with ht | ⟨rfl,-⟩
  ·
   unfold eqGuard
   dsimp only
   refine sim_ite (fun _=>sim_pure trivial) fun _=>sim_ite (fun _=>sim_pure trivial) fun _=>?_
   refine sim_bind (sim_eqGuardIn ht) ?_
   rintro s _ _ - ⟨rfl,rfl⟩
   exact sim_pure trivial
  ·
   unfold eqGuard
   dsimp only
   refine sim_ite (fun _=>sim_pure trivial) fun _=>?_
   simp only [Bool.or_true,if_true]
   exact sim_pure trivial
 ·
  by_cases h2:kindNo u=13 ∧ kindNo p=13
  ·
   rcases ht with ht | ⟨-,rfl⟩
   ·
    obtain ⟨a,rfl⟩:∃ a,u=.agg a:=by cases u <;> first | exact ⟨_,rfl⟩ | cases h2.1
    obtain ⟨b,rfl⟩:∃ a,p=.agg a:=by cases p <;> first | exact ⟨_,rfl⟩ | cases h2.2
    obtain ⟨a',rfl,-⟩:=h.out
    obtain ⟨b',rfl,-⟩:=hx.out
    unfold eqGuard
    dsimp only
    refine sim_ite (fun _=>sim_pure trivial) fun _=>?_
    refine sim_program ?_
    refine sim_program ?_
    refine sim_ite (fun _=>sim_pure trivial) fun _=>?_
    refine sim_bind (sim_eqGuardIn ht) ?_
    rintro s _ _ - ⟨rfl,rfl⟩
    exact sim_pure trivial
   · cases h2.2
  ·
   rw [eqGuard_off h1 h2,eqGuard_off (by rw [h.kind,hx.kind];exact h1) (by rw [h.kind,hx.kind];exact h2)]
   exact sim_pure trivial
theorem sim_equalNil {t:TypeId} {u v:Value} (h:VR F r u v) (ht:∃ ms,P.underlying t=some (.interface ms)):Sim P F L (fun _ a b=>b=a) (Op.equal t u .nilIface) (Op.equal t v .nilIface) r:=by
 obtain ⟨ms,hk⟩:=ht
 show Sim P F L (fun _ a b=>b=a) (Op.equalIn (9999+1) t u .nilIface) (Op.equalIn (9999+1) t v .nilIface) r
 rw [Op.equalIn]
 (try rw [Op.equalIn])
 refine sim_under hk ?_
 have h1:=h.out
 cases u <;> simp only [VStep] at h1
 case nilIface=>subst h1;exact sim_pure rfl
 case iface=>obtain ⟨_,rfl,-⟩:=h1;exact sim_pure rfl
 all_goals exact sim_stuck
def isNilOp:Operand → Bool
 | .const .nilIface=>true
 | _=>false
def isIfaceT (P:Program) (t:TypeId):Bool:=match P.underlying t with
 | some (.interface _)=>true
 | _=>false
def binFine (P:Program) (op:BinOp) (t:TypeId) (y:Operand):Bool:=match op with
 | .add | .sub | .mul | .quo | .rem | .lss | .leq | .gtr | .geq=>intType P t
 | .eql | .neq=>intType P t || (isIfaceT P t && isNilOp y)
 | _=>false
theorem sim_intDiv (op:BinOp) (k:IntKind) (a b:Int):Sim P F L (VR F) (Op.intDiv op k a b) (Op.intDiv op k a b) r:=by
 unfold Op.intDiv
 split
 · exact sim_dies (dies_panic _)
 · cases op <;> first | exact sim_stuck | exact sim_pure (VR.int _ _)
theorem sim_binInt {op:BinOp} {t:TypeId} {y:Operand} (hop:binFine P op t y=true) (k k':IntKind) (a b:Int):Sim P F L (VR F) (binOp op t (.int k a) (.int k' b)) (binOp op t (.int k a) (.int k' b)) r:=by
 cases op <;> simp only [binFine] at hop <;> first | cases hop | skip
 all_goals (refine (show Sim P F L (VR F) (if k ≠ k' then _ else _) (if k ≠ k' then _ else _) r from sim_ite (fun _=>sim_stuck) fun _=>?_))
 all_goals first | exact sim_intDiv _ _ _ _ | exact sim_pure (VR.int _ _) | exact sim_pure (VR.bool _)
theorem sim_stringOp (op:BinOp) (a b:ByteArray):Sim P F L (VR F) (Op.stringOp op a b) (Op.stringOp op a b) r:=by
 unfold Op.stringOp
 dsimp only
 cases op
 case add=>exact sim_ite (fun _=>sim_dies (dies_unsupported trivial)) fun _=>sim_pure (VR.plain (n:=0) rfl)
 all_goals first | exact sim_stuck | exact sim_pure (VR.bool _)
theorem sim_addrSub {a a' b b':Addr} (hG:P.globals.size ≤ L) (ha:AR r a a') (hb:AR r b b') (k:IntKind):Sim P F L (VR F) (Op.addrSub k a b) (Op.addrSub k a' b') r:=by
 refine sim_bind (sim_twoPlaces hG ha hb) ?_
 rintro s _ ⟨x,y⟩ - rfl
 exact sim_pure (VR.int _ _)
theorem sim_addrCmp {a a' b b':Addr} (hG:P.globals.size ≤ L) (ha:AR r a a') (hb:AR r b b') (op:BinOp):Sim P F L (VR F) (Op.addrCmp op a b) (Op.addrCmp op a' b') r:=by
 refine sim_bind (sim_twoPlaces hG ha hb) ?_
 rintro s _ ⟨x,y⟩ - rfl
 cases op <;> first | exact sim_pure (VR.bool _) | exact sim_dies (dies_unsupported trivial)
theorem binFine_eq {op:BinOp} {t:TypeId} {y:Operand} (h:binFine P op t y=true) (eq:op=.eql ∨ op=.neq):intType P t=true ∨ ((∃ ms,P.underlying t=some (.interface ms)) ∧ y=.const .nilIface):=by
 have h2:(intType P t || (isIfaceT P t && isNilOp y))=true:=by rcases eq with rfl | rfl <;> exact h
 clear h
 rcases Bool.or_eq_true _ _ ▸ h2 with h | h
 · exact .inl h
 ·
  simp only [Bool.and_eq_true] at h
  refine .inr ⟨?_,?_⟩
  ·
   have:=h.1
   unfold isIfaceT at this
   split at this
   · exact ⟨_,by assumption⟩
   · cases this
  ·
   have:=h.2
   unfold isNilOp at this
   split at this
   · rfl
   · cases this
theorem binOp_eql {t:TypeId} (a b:Value) (n1:¬ (∃ k x k' y,a=Value.int k x ∧ b=Value.int k' y)) (n2:¬ (∃ x y,a=Value.string x ∧ b=Value.string y)) (n3:kindNo a ≠ 2) (n4:kindNo a ≠ 3) :
  binOp .eql t a b=(Op.equal t a b >>= fun c=>pure (.bool c)) ∧ binOp .neq t a b=(Op.equal t a b >>= fun c=>pure (.bool (!c))):=by
 cases a <;> first | exact ⟨rfl,rfl⟩ | exact absurd rfl n3 | exact absurd rfl n4 | (cases b <;> first | exact ⟨rfl,rfl⟩ | exact absurd ⟨_,_,_,_,rfl,rfl⟩ n1 | exact absurd ⟨_,_,rfl,rfl⟩ n2)
theorem sim_binEq {op:BinOp} {t:TypeId} {y:Operand} {u v p q:Value} (hf:binFine P op t y=true) (h:VR F r u v) (hx:VR F r p q) (hy:y=.const .nilIface → p=.nilIface ∧ q=.nilIface) (hG:P.globals.size ≤ L) (eq:op=.eql ∨ op=.neq)
  (eu:¬ ∃ k a k' b,u=.int k a ∧ p=.int k' b) (es:¬ ∃ a b,u=.string a ∧ p=.string b):Sim P F L (VR F) (binOp op t u p) (binOp op t v q) r:=by
 have main:Sim P F L (fun _ a b=>b=a) (Op.equal t u p) (Op.equal t v q) r:=by
  rcases binFine_eq hf eq with hf' | ⟨hf',hn⟩
  · exact sim_equalInt hf' h hx hG
  ·
   obtain ⟨rfl,rfl⟩:=hy hn
   exact sim_equalNil h hf'
 have h1:=h.out
 have n3:kindNo u ≠ 2:=fun e=>by cases u <;> first | exact h1 | cases e
 have n4:kindNo u ≠ 3:=fun e=>by cases u <;> first | exact h1 | cases e
 have ek:=h.kind
 have ek2:=hx.kind
 obtain ⟨a1,a2⟩:=binOp_eql (t:=t) u p eu es n3 n4
 obtain ⟨b1,b2⟩:=binOp_eql (t:=t) v q (fun ⟨k,a,k',b,ea,eb⟩=>by
   subst ea eb
   cases u <;> cases ek
   cases p <;> cases ek2
   exact eu ⟨_,_,_,_,rfl,rfl⟩) (fun ⟨a,b,ea,eb⟩=>by
   subst ea eb
   cases u <;> cases ek
   cases p <;> cases ek2
   exact es ⟨_,_,rfl,rfl⟩) (by rw [ek];exact n3) (by rw [ek];exact n4)
 rcases eq with rfl | rfl
 ·
  rw [a1,b1]
  refine sim_bind main ?_
  rintro s _ c - rfl
  exact sim_pure (VR.bool _)
 ·
  rw [a2,b2]
  refine sim_bind main ?_
  rintro s _ c - rfl
  exact sim_pure (VR.bool _)
theorem sim_binOp {op:BinOp} {t:TypeId} {y:Operand} {u v p q:Value} (hf:binFine P op t y=true) (h:VR F r u v) (hx:VR F r p q) (hy:y=.const .nilIface → p=.nilIface ∧ q=.nilIface) (hG:P.globals.size ≤ L):Sim P F L (VR F) (binOp op t u p) (binOp op t v q) r:=by
 have h1:=h.out
 have h2:=hx.out
 by_cases eu:∃ k a k' b,u=.int k a ∧ p=.int k' b
 ·
  obtain ⟨k,a,k',b,rfl,rfl⟩:=eu
  simp only [VStep] at h1 h2
  subst h1 h2
  exact sim_binInt hf k k' a b
 by_cases es:∃ a b,u=.string a ∧ p=.string b
 ·
  obtain ⟨a,b,rfl,rfl⟩:=es
  simp only [VStep] at h1 h2
  subst h1 h2
  have e:binOp op t (.string a) (.string b)=Op.stringOp op a b:=by cases op <;> rfl
  rw [e]
  exact sim_stringOp _ a b
 by_cases eq:op=.eql ∨ op=.neq
 · exact sim_binEq hf h hx hy hG eq eu es
 have ht:intType P t=true:=by
  cases op <;> simp only [binFine] at hf <;> first | cases hf | exact hf | exact absurd (.inl rfl) eq | exact absurd (.inr rfl) eq
 obtain ⟨k0,hk⟩:=intType_is ht
 cases u <;> simp only [VStep] at h1
 case pointer a=>
  obtain ⟨a',rfl,ha⟩:=h1
  cases p <;> simp only [VStep] at h2
  case int k n=>
   subst h2
   cases op <;> simp only [binFine] at hf <;> first | cases hf | skip
   case add=>exact sim_under hk (sim_movedNumber h hx t)
   case sub=>exact sim_movedNumber h (VR.int k (-n)) t
   case rem=>
    cases a <;> cases a' <;> simp only [OpR] at ha
    · exact sim_dies (dies_unsupported (u:=.addressObserved) trivial)
    ·
     refine sim_bind (sim_behind ha) ?_
     rintro s ⟨b,l⟩ ⟨b',l'⟩ - ⟨hb,rfl⟩
     exact sim_addrMod hb k n
   all_goals first | exact absurd (.inl rfl) eq | exact absurd (.inr rfl) eq | exact sim_dies (dies_unsupported (u:=.addressObserved) trivial) | (cases a <;> exact sim_dies (dies_unsupported (u:=.addressObserved) trivial))
  case pointer b=>
   obtain ⟨b',rfl,hb⟩:=h2
   have cmp:∀ (x x' y y':Addr) (o:BinOp),AR r x x' → AR r y y' → Sim P F L (VR F) (behindNumber x >>= fun c=>behindNumber y >>= fun d=>Op.addrCmp o c.1 d.1) (behindNumber x' >>= fun c=>behindNumber y' >>= fun d=>Op.addrCmp o c.1 d.1) r:=fun x x' y y' o hx hy=>by
    refine sim_bind (sim_behind hx) ?_
    rintro s ⟨c,l⟩ ⟨c',l'⟩ hle ⟨hc,rfl⟩
    refine sim_bind (sim_behind (hy.mono hle)) ?_
    rintro s2 ⟨d,l2⟩ ⟨d',l2'⟩ hle2 ⟨hd,rfl⟩
    exact sim_addrCmp hG (AR.mono hle2 hc) hd o
   cases a <;> cases a' <;> simp only [OpR] at ha <;> cases b <;> cases b' <;> simp only [OpR] at hb
   case some.some.some.some x x' y y'=>
    cases op <;> simp only [binFine] at hf <;> first | cases hf | exact cmp _ _ _ _ _ ha hb | skip
    case sub=>
     refine sim_bind (sim_behind ha) ?_
     rintro s ⟨c,l⟩ ⟨c',l'⟩ hle ⟨hc,rfl⟩
     refine sim_bind (sim_behind (AR.mono hle hb)) ?_
     rintro s2 ⟨d,l2⟩ ⟨d',l2'⟩ hle2 ⟨hd,rfl⟩
     exact sim_addrSub hG (AR.mono hle2 hc) hd _
    all_goals first | exact absurd (.inl rfl) eq | exact absurd (.inr rfl) eq | exact sim_dies (dies_unsupported (u:=.addressObserved) trivial)
   all_goals (cases op <;> simp only [binFine] at hf <;> first | cases hf | exact absurd (.inl rfl) eq | exact absurd (.inr rfl) eq | exact sim_dies (dies_unsupported (u:=.addressObserved) trivial))
  all_goals (cases op <;> simp only [binFine] at hf <;> first | cases hf | exact absurd (.inl rfl) eq | exact absurd (.inr rfl) eq | exact sim_dies (dies_unsupported (u:=.addressObserved) trivial) | (cases a <;> exact sim_dies (dies_unsupported (u:=.addressObserved) trivial)) | (cases a <;> cases ‹Option Addr› <;> exact sim_dies (dies_unsupported (u:=.addressObserved) trivial)))
 case int k n=>
  subst h1
  cases p <;> simp only [VStep] at h2
  case int=>exact absurd ⟨_,_,_,_,rfl,rfl⟩ eu
  case pointer b=>
   obtain ⟨b',rfl,hb⟩:=h2
   cases op <;> simp only [binFine] at hf <;> first | cases hf | skip
   case add=>exact sim_movedNumber hx h t
   all_goals first | exact absurd (.inl rfl) eq | exact absurd (.inr rfl) eq | exact sim_dies (dies_unsupported (u:=.addressObserved) trivial) | (cases b <;> exact sim_dies (dies_unsupported (u:=.addressObserved) trivial))
  all_goals (cases op <;> simp only [binFine] at hf <;> first | cases hf | exact absurd (.inl rfl) eq | exact absurd (.inr rfl) eq | exact sim_stuck)
 all_goals (cases p <;> first | exact absurd ⟨_,_,rfl,rfl⟩ es | (cases op <;> simp only [binFine] at hf <;> first | cases hf | exact absurd (.inl rfl) eq | exact absurd (.inr rfl) eq | exact sim_stuck | exact sim_dies (dies_unsupported (u:=.addressObserved) trivial)))
end
section
variable {α β γ δ:Type} {P:Program} {F:Nat → Prop} {L:Nat} {r:Ren}
theorem sim_unary (op:UnOp) {u v:Value} (h:VR F r u v):Sim P F L (VR F) (Op.unary op u) (Op.unary op v) r:=by
 have h1:=h.out
 cases u <;> simp only [VStep] at h1
 case int k n=>subst h1;cases op <;> first | exact sim_stuck | exact sim_pure (VR.int _ _)
 case bool b=>subst h1;cases op <;> first | exact sim_stuck | exact sim_pure (VR.bool _)
 case pointer a=>cases a <;> cases op <;> first | exact sim_stuck | exact sim_dies (dies_unsupported (u:=.addressObserved) trivial)
 all_goals (cases op <;> exact sim_stuck)
theorem plainV_succ:∀ (n:Nat) (v:Value),plainV n v=true → plainV (n+1) v=true
 | 0,v,h=>by cases v <;> first | exact h | cases h | (cases ‹Option Addr› <;> exact h) | (cases ‹Option Nat› <;> exact h)
 | n+1,v,h=>by
  cases v <;> first | exact h | (cases ‹Option Addr› <;> exact h) | (cases ‹Option Nat› <;> exact h) | skip
  case iface t v=>exact plainV_succ n v h
  case agg c=>simp only [plainV,Array.all_eq_true_iff_forall_mem] at h ⊢;exact fun x hx=>plainV_succ n x (h x hx)
  case tuple c=>simp only [plainV,Array.all_eq_true_iff_forall_mem] at h ⊢;exact fun x hx=>plainV_succ n x (h x hx)
theorem plain_cells {n:Nat} {z:Value} (h:plainV n z=true):∀ x ∈ z.cells,plainV n x=true:=by
 intro x hx
 cases z <;> first | (simp only [Value.cells,List.mem_toArray,List.mem_cons,List.not_mem_nil,or_false] at hx;subst hx;exact h) | skip
 case agg c=>
  cases n with
  | zero=>simp [plainV] at h
  | succ n=>
   simp only [plainV,Array.all_eq_true_iff_forall_mem] at h
   exact plainV_succ n x (h x hx)
theorem ArR.map_range {n m:Nat} {z:Array Value} (h:∀ x ∈ z,plainV n x=true):ArR (VR F r) ((Array.range m).map (z[· % z.size]!)) ((Array.range m).map (z[· % z.size]!)):=by
 refine ArR.plain (n:=n) fun x hx=>?_
 obtain ⟨i,-,rfl⟩:=Array.mem_map.1 hx
 by_cases e:i % z.size < z.size
 ·
  rw [getElem!_pos z _ e]
  exact h _ (Array.getElem_mem e)
 ·
  rw [getElem!_neg z _ e]
  cases n <;> rfl
theorem fold_set (X:Value → Value → Prop):∀ (l l':List (Value × Nat)) (off:Nat) (c c':Array Value),ArR X c c' → l'.length=l.length → (∀ (j:Nat) x y,l[j]? = some x → l'[j]? = some y → y.2=x.2 ∧ X x.1 y.1) →
  ArR X (l.foldl (fun cs p=>cs.setIfInBounds (off+p.2) p.1) c) (l'.foldl (fun cs p=>cs.setIfInBounds (off+p.2) p.1) c')
 | [],[],_,_,_,h,_,_=>h
 | x :: l,y :: l',off,c,c',h,hl,hx=>by
  obtain ⟨e,hxy⟩:=hx 0 x y rfl rfl
  refine fold_set X l l' off _ _ ?_ (by simpa using hl) fun j a b h1 h2=>hx (j+1) a b h1 h2
  show ArR X (c.setIfInBounds (off+x.2) x.1) (c'.setIfInBounds (off+y.2) y.1)
  rw [e]
  exact h.set _ hxy
 | [],_ :: _,_,_,_,_,hl,_=>by cases hl
 | _ :: _,[],_,_,_,_,hl,_=>by cases hl
theorem fill_rel (place:Nat → Option (Nat × Nat)):∀ (l l':List (Nat × Value)) (c c':Array Value),ArR (VR F r) c c' → l'.length=l.length → (∀ (j:Nat) x y,l[j]? = some x → l'[j]? = some y → y.1=x.1 ∧ VR F r x.2 y.2) →
  OpR (ArR (VR F r)) (Instr.fill place c l) (Instr.fill place c' l')
 | [],[],c,c',h,_,_=>h
 | (i,u) :: l,(i',v) :: l',c,c',h,hl,hx=>by
  obtain ⟨e,huv⟩:=hx 0 (i,u) (i',v) rfl rfl
  dsimp only at e huv
  subst e
  unfold Instr.fill
  cases place i' with
  | none=>exact trivial
  | some p=>
   obtain ⟨off,size⟩:=p
   dsimp only
   rw [huv.cells.1,h.1]
   by_cases e:(decide (u.cells.size ≠ size) || decide (off+u.cells.size > c.size))=true
   ·
    rw [if_pos e,if_pos e]
    exact trivial
   ·
    rw [if_neg e,if_neg e]
    refine fill_rel place l l' _ _ ?_ (by simpa using hl) fun j x y h1 h2=>hx (j+1) x y h1 h2
    rw [← Array.foldl_toList,← Array.foldl_toList]
    refine fold_set (VR F r) _ _ off _ _ h (by simp [huv.cells.1]) fun j x y h1 h2=>?_
    simp only [Array.getElem?_toList,Array.getElem?_zipIdx] at h1 h2
    obtain ⟨a,ha,rfl⟩:=Option.map_eq_some_iff.1 h1
    obtain ⟨b,hb,rfl⟩:=Option.map_eq_some_iff.1 h2
    exact ⟨rfl,huv.cells.2 j a b ha hb⟩
 | [],_ :: _,_,_,_,hl,_=>by cases hl
 | _ :: _,[],_,_,_,hl,_=>by cases hl
theorem sim_mapSame {ι κ:Type} {f:ι → Sem κ} (hf:∀ (s:Ren) x,Sim P F L (fun _ a b=>b=a) (f x) (f x) s) (l:List ι):∀ r,Sim P F L (fun _ a b=>b=a) (l.mapM f) (l.mapM f) r:=by
 induction l with
 | nil=>intro r;rw [List.mapM_nil];exact sim_pure rfl
 | cons x l ih=>
  intro r
  rw [List.mapM_cons]
  refine sim_bind (hf r x) ?_
  rintro s _ a - rfl
  refine sim_bind (ih s) ?_
  rintro s2 _ b - rfl
  exact sim_pure rfl
theorem sim_build {t:TypeId} (hz:zeroFine P t=true) {l l':Array (Nat × Value)} (hl:l'.size=l.size) (hx:∀ (j:Nat) x y,l[j]? = some x → l'[j]? = some y → y.1=x.1 ∧ VR F r x.2 y.2):Sim P F L (VR F) (Instr.build t l) (Instr.build t l') r:=by
 unfold Instr.build
 dsimp only
 refine sim_bind (sim_zeroValue hz) ?_
 rintro s _ z hle ⟨rfl,hz⟩
 refine sim_bind (sim_underlying t) ?_
 rintro s2 _ d hle2 ⟨rfl,-⟩
 have fin:∀ (s3:Ren) (place:Nat → Option (Nat × Nat)),r.Le s3 → OpR (ArR (VR F s3)) (Instr.fill place z.cells l.toList) (Instr.fill place z.cells l'.toList):=fun s3 place h3=>
  fill_rel (F:=F) (r:=s3) place l.toList l'.toList z.cells z.cells (ArR.plain (plain_cells hz)) (by simp [hl]) fun j x y h1 h2=>by
   obtain ⟨e,h4⟩:=hx j x y (by simpa using h1) (by simpa using h2)
   exact ⟨e,h4.mono h3⟩
 have last:∀ (s3:Ren) (A B:Option (Array Value)),OpR (ArR (VR F s3)) A B → (A=none ∧ B=none) ∨ ∃ a b,A=some a ∧ B=some b ∧ ArR (VR F s3) a b:=fun s3 A B h=>by
  cases A <;> cases B <;> first | exact .inl ⟨rfl,rfl⟩ | exact h.elim | exact .inr ⟨_,_,rfl,rfl,h⟩
 cases d <;> first | exact sim_stuck | skip
 case struct fields=>
  dsimp only
  rw [Array.mapM_eq_mapM_toList]
  refine sim_bind (Q:=fun _ a b=>b=a) (sim_bind (sim_mapSame (fun s x=>?_) fields.toList s2) fun s3 a b _ h=>?_) ?_
  ·
   refine sim_bind (sim_sizeOf _) ?_
   rintro s4 _ n - ⟨rfl,-⟩
   exact sim_pure rfl
  ·
   subst h
   exact sim_pure rfl
  ·
   rintro s3 _ places h3 rfl
   rcases last s3 _ _ (fin s3 (places[·]?) ((hle.trans hle2).trans h3)) with ⟨e1,e2⟩ | ⟨a,b,e1,e2,hab⟩
   ·
    rw [e1,e2]
    exact sim_stuck
   ·
    rw [e1,e2]
    exact sim_pure (VR.agg hab)
 case array n elem=>
  dsimp only
  refine sim_bind (sim_sizeOf elem) ?_
  rintro s3 _ n h3 ⟨rfl,-⟩
  rcases last s3 _ _ (fin s3 (fun i=>some (i * n,n)) ((hle.trans hle2).trans h3)) with ⟨e1,e2⟩ | ⟨a,b,e1,e2,hab⟩
  ·
   rw [e1,e2]
   exact sim_stuck
  ·
   rw [e1,e2]
   exact sim_pure (VR.agg hab)
end
end Go.Proofs.YtbokomeejmnnoaaDoor
