/- Own facts, put together: no statement of its own. -/
import Derived.Test.YtbokomeejmnnoaaDoorD13

namespace Go.Proofs.YtbokomeejmnnoaaDoor
section
variable {α β γ δ:Type} {P:Program} {F:Nat → Prop} {L:Nat} {r:Ren}
theorem sameBits_kind (n:Nat) {u x:Value} (h:kindNo u ≠ kindNo x):Instr.sameBits n u x=false:=by
 cases u <;> cases x <;> first | exact absurd rfl h | (cases n <;> rfl)
theorem AR.beq {a a' b b':Addr} (h:AR r a a') (hb:AR r b b'):(a' == b')=(a == b):=by
 rw [Bool.eq_iff_iff,beq_iff_eq,beq_iff_eq]
 obtain ⟨a1,a2,a3⟩:=a
 obtain ⟨b1,b2,b3⟩:=b
 obtain ⟨c1,c2,c3⟩:=a'
 obtain ⟨d1,d2,d3⟩:=b'
 obtain ⟨h1,h2,h3⟩:=h
 obtain ⟨k1,k2,k3⟩:=hb
 dsimp only at h1 h2 h3 k1 k2 k3
 subst h2 h3 k2 k3
 constructor
 ·
  intro e
  injection e with e1 e2 e3
  subst e1 e2 e3
  rw [r.inj _ _ _ h1 k1]
 ·
  intro e
  injection e with e1 e2 e3
  subst e1 e2 e3
  rw [r.fn _ _ _ h1 k1]
theorem opAddr_beq {a a' b b':Option Addr} (h:OpR (AR r) a a') (hb:OpR (AR r) b b'):(a' == b')=(a == b):=by
 cases a <;> cases a' <;> simp only [OpR] at h <;> cases b <;> cases b' <;> simp only [OpR] at hb
 · rfl
 · rfl
 · rfl
 · exact h.beq hb
theorem zipAll_rel {f:Value × Value → Bool} (hf:∀ u v x y,VR F r u v → VR F r x y → f (v,y)=f (u,x)):∀ (a a' b b':List Value),a'.length=a.length → b'.length=b.length → (∀ (i:Nat) x y,a[i]? = some x → a'[i]? = some y → VR F r x y) → (∀ (i:Nat) x y,b[i]? = some x → b'[i]? = some y → VR F r x y) → (a'.zip b').all f=(a.zip b).all f
 | [],[],_,_,_,_,_,_=>rfl
 | _ :: _,_ :: _,[],[],_,_,_,_=>rfl
 | x :: a,x' :: a',y :: b,y' :: b',e1,e2,h1,h2=>by
  simp only [List.zip_cons_cons,List.all_cons]
  rw [hf x x' y y' (h1 0 x x' rfl rfl) (h2 0 y y' rfl rfl),zipAll_rel hf a a' b b' (by simpa using e1) (by simpa using e2) (fun i p q k1 k2=>h1 (i+1) p q k1 k2) fun i p q k1 k2=>h2 (i+1) p q k1 k2]
 | [],_ :: _,_,_,e,_,_,_=>by cases e
 | _ :: _,[],_,_,e,_,_,_=>by cases e
 | _,_,[],_ :: _,_,e,_,_=>by cases e
 | _,_,_ :: _,[],_,e,_,_=>by cases e
theorem sameBits_rel:∀ (n:Nat) {u v x y:Value},VR F r u v → VR F r x y → Instr.sameBits n v y=Instr.sameBits n u x:=by
 intro n
 induction n with
 | zero=>
  intro u v x y h hx
  by_cases hk:kindNo u=kindNo x
  ·
   have h1:=h.out
   have h2:=hx.out
   cases u <;> cases x <;> first | (cases hk;done) | skip
   all_goals simp only [VStep] at h1 h2
   case pointer.pointer=>
    obtain ⟨a,rfl,h1⟩:=h1
    obtain ⟨b,rfl,h2⟩:=h2
    exact opAddr_beq h1 h2
   case slice.slice=>obtain ⟨a,rfl,-⟩:=h1;obtain ⟨b,rfl,-⟩:=h2;rfl
   case map.map=>obtain ⟨a,rfl,-⟩:=h1;obtain ⟨b,rfl,-⟩:=h2;rfl
   case func.func=>obtain ⟨a,_,rfl,-⟩:=h1;obtain ⟨b,_,rfl,-⟩:=h2;rfl
   case iface.iface=>obtain ⟨a,rfl,-⟩:=h1;obtain ⟨b,rfl,-⟩:=h2;rfl
   case agg.agg=>obtain ⟨a,rfl,-⟩:=h1;obtain ⟨b,rfl,-⟩:=h2;rfl
   case tuple.tuple=>obtain ⟨a,rfl,-⟩:=h1;obtain ⟨b,rfl,-⟩:=h2;rfl
   all_goals (subst h1;subst h2;rfl)
  · rw [sameBits_kind 0 hk,sameBits_kind 0 (by rw [h.kind,hx.kind];exact hk)]
 | succ n ih=>
  intro u v x y h hx
  by_cases hk:kindNo u=kindNo x
  ·
   have h1:=h.out
   have h2:=hx.out
   cases u <;> cases x <;> first | (cases hk;done) | skip
   all_goals simp only [VStep] at h1 h2
   case pointer.pointer=>
    obtain ⟨a,rfl,h1⟩:=h1
    obtain ⟨b,rfl,h2⟩:=h2
    exact opAddr_beq h1 h2
   case slice.slice=>obtain ⟨a,rfl,-⟩:=h1;obtain ⟨b,rfl,-⟩:=h2;rfl
   case map.map=>obtain ⟨a,rfl,-⟩:=h1;obtain ⟨b,rfl,-⟩:=h2;rfl
   case func.func=>obtain ⟨a,_,rfl,-⟩:=h1;obtain ⟨b,_,rfl,-⟩:=h2;rfl
   case tuple.tuple=>obtain ⟨a,rfl,-⟩:=h1;obtain ⟨b,rfl,-⟩:=h2;rfl
   case iface.iface t u s x=>
    obtain ⟨a,rfl,h1⟩:=h1
    obtain ⟨b,rfl,h2⟩:=h2
    show (t == s && Instr.sameBits n a b)=(t == s && Instr.sameBits n u x)
    rw [ih h1 h2]
   case agg.agg u x=>
    obtain ⟨a,rfl,h1⟩:=h1
    obtain ⟨b,rfl,h2⟩:=h2
    show (a.size == b.size && (a.toList.zip b.toList).all fun p=>Instr.sameBits n p.1 p.2)=(u.size == x.size && (u.toList.zip x.toList).all fun p=>Instr.sameBits n p.1 p.2)
    rw [h1.1,h2.1,zipAll_rel (F:=F) (r:=r) (fun _ _ _ _ k1 k2=>ih k1 k2) u.toList a.toList x.toList b.toList (by simp [h1.1]) (by simp [h2.1]) (fun i p q k1 k2=>h1.2 i p q (by simpa using k1) (by simpa using k2)) fun i p q k1 k2=>h2.2 i p q (by simpa using k1) (by simpa using k2)]
   all_goals (subst h1;subst h2;rfl)
  · rw [sameBits_kind _ hk,sameBits_kind _ (by rw [h.kind,hx.kind];exact hk)]
theorem sim_keyThatStays {u v x y:Value} (h:VR F r u v) (hx:VR F r x y):Sim P F L (VR F) (Instr.keyThatStays u x) (Instr.keyThatStays v y) r:=by
 unfold Instr.keyThatStays
 rw [sameBits_rel 10000 h hx]
 refine sim_ite ?_ ?_
 · exact fun _=>sim_pure hx
 ·
  intro _
  refine sim_bind (sim_choose _) ?_
  rintro s _ c hle rfl
  refine sim_pure ?_
  by_cases hc:c=0
  ·
   rw [if_pos hc,if_pos hc]
   exact hx.mono hle
  ·
   rw [if_neg hc,if_neg hc]
   exact h.mono hle
theorem ents_modify {es es':Array MapEntry} (h1:es'.size=es.size) (h2:∀ (i:Nat) e e',es[i]? = some e → es'[i]? = some e' → EntR F r e e') (i:Nat) {k k' v v':Value} (hk:VR F r k k') (hv:VR F r v v') :
  (es'.modify i fun e=>{ e with key:=k',val:=v' }).size=(es.modify i fun e=>{ e with key:=k,val:=v }).size ∧ ∀ (j:Nat) e e',(es.modify i fun e=>{ e with key:=k,val:=v })[j]? = some e → (es'.modify i fun e=>{ e with key:=k',val:=v' })[j]? = some e' → EntR F r e e':=by
 refine ⟨by simp [h1],fun j e e' e1 e2=>?_⟩
 rw [Array.getElem?_modify] at e1 e2
 by_cases hij:i=j
 ·
  rw [if_pos hij] at e1 e2
  cases ha:es[j]? with
  | none=>rw [ha] at e1;cases e1
  | some a=>
   cases hb:es'[j]? with
   | none=>rw [hb] at e2;cases e2
   | some b=>
    rw [ha] at e1
    rw [hb] at e2
    cases e1
    cases e2
    exact ⟨hk,hv,(h2 j a b ha hb).2.2⟩
 ·
  rw [if_neg hij] at e1 e2
  exact h2 j e e' e1 e2
theorem ents_push {es es':Array MapEntry} (h1:es'.size=es.size) (h2:∀ (i:Nat) e e',es[i]? = some e → es'[i]? = some e' → EntR F r e e') {e e':MapEntry} (he:EntR F r e e') :
  (es'.push e').size=(es.push e).size ∧ ∀ (j:Nat) a b,(es.push e)[j]? = some a → (es'.push e')[j]? = some b → EntR F r a b:=by
 refine ⟨by simp [h1],fun j a b e1 e2=>?_⟩
 rw [Array.getElem?_push] at e1 e2
 rw [h1] at e2
 by_cases hj:j=es.size
 ·
  rw [if_pos hj] at e1 e2
  cases e1
  cases e2
  exact he
 ·
  rw [if_neg hj] at e1 e2
  exact h2 j a b e1 e2
theorem oldKey_rel {es es':Array MapEntry} (h1:es'.size=es.size) (h2:∀ (i:Nat) e e',es[i]? = some e → es'[i]? = some e' → EntR F r e e') (i:Nat) {x y:Value} (hx:VR F r x y):VR F r (((es[i]?).map (·.key)).getD x) (((es'[i]?).map (·.key)).getD y):=by
 cases ha:es[i]? with
 | none=>
  have:es'[i]? = none:=by
   rw [Array.getElem?_eq_none_iff] at ha ⊢
   omega
  rw [this]
  exact hx
 | some a=>
  have hl:i < es'.size:=by rw [h1];exact getElem?_lt ha
  rw [Array.getElem?_eq_getElem hl]
  exact (h2 i a _ ha (Array.getElem?_eq_getElem hl)).1
def keyedFine (P:Program) (t:TypeId):Bool:=match P.underlying t with
 | some (.map k _)=>keyFine P k
 | _=>true
theorem sim_mapUpdate {t:TypeId} (hf:keyedFine P t=true) (hG:P.globals.size ≤ L) {u v x y p q:Value} (h:VR F r u v) (hx:VR F r x y) (hp:VR F r p q):Sim P F L (fun _ _ _=>True) (Instr.mapUpdate t u x p) (Instr.mapUpdate t v y q) r:=by
 unfold Instr.mapUpdate
 refine sim_bind (sim_underlying t) ?_
 rintro s _ d hle ⟨rfl,hd⟩
 unfold keyedFine at hf
 rw [hd] at hf
 cases d <;> first | exact sim_stuck | skip
 rename_i k e
 dsimp only at hf ⊢
 have h1:=(h.mono hle).out
 cases u <;> simp only [VStep] at h1 <;> first | exact sim_stuck | skip
 rename_i m
 obtain ⟨m',rfl,hm⟩:=h1
 cases m <;> cases m' <;> simp only [OpR] at hm
 · exact sim_dies (dies_panic _)
 ·
  dsimp only
  refine sim_bind (sim_getObj hm) ?_
  rintro s2 o o' hle2 ⟨ho,-⟩
  cases o <;> simp only [ObR] at ho <;> first | exact sim_stuck | skip
  rename_i es clock
  obtain ⟨es',rfl,e1,e2⟩:=ho
  dsimp only
  refine sim_bind (sim_checkKey hf false false) ?_
  intro s3 _ _ hle3 _
  have l3:=(hle.trans hle2).trans hle3
  have he3:=(ents_of e1 e2).mono hle3
  refine sim_bind (sim_findKey hf hG (hx.mono l3) he3) ?_
  intro s4 o o' hle4 ho
  have l4:=l3.trans hle4
  have e4:∀ (i:Nat) e e',_ → _ → EntR F s4 e e':=fun i e e' k1 k2=>let ⟨a,b,c⟩:=e2 i e e' k1 k2;⟨a.mono (hle3.trans hle4),b.mono (hle3.trans hle4),c⟩
  cases o <;> cases o' <;> simp only [OpR] at ho
  ·
   have:=ents_push e1 e4 (e:=⟨x,p,clock⟩) (e':=⟨y,q,clock⟩) ⟨hx.mono l4,hp.mono l4,rfl⟩
   exact sim_setObj (((hle2.trans hle3).trans hle4) _ _ hm) ⟨_,rfl,this.1,this.2⟩
  ·
   rename_i a b
   obtain ⟨i,a⟩:=a
   obtain ⟨i',b⟩:=b
   obtain ⟨ho,-⟩:=ho
   dsimp only at ho
   subst ho
   dsimp only
   refine sim_bind (sim_keyThatStays (oldKey_rel e1 e4 i' (hx.mono l4)) (hx.mono l4)) ?_
   intro s5 k k' hle5 hk
   have e5:∀ (i:Nat) e e',_ → _ → EntR F s5 e e':=fun i e e' k1 k2=>let ⟨a,b,c⟩:=e4 i e e' k1 k2;⟨a.mono hle5,b.mono hle5,c⟩
   have:=ents_modify e1 e5 i' hk (hp.mono (l4.trans hle5))
   exact sim_setObj (((hle2.trans hle3).trans (hle4.trans hle5)) _ _ hm) ⟨_,rfl,this.1,this.2⟩
def clearFine (P:Program) (ts:Array TypeId):Bool:=match ts[0]? with
 | some t=>(match P.underlying t with
  | some (.map _ _)=>true
  | some (.slice e)=>zeroFine P e
  | _=>true)
 | none=>true
theorem sim_clear {ts:Array TypeId} (hf:clearFine P ts=true) (t:TypeId) {a b:Array Value} (h:ArR (VR F r) a b):Sim P F L (VR F) (Builtin.clear_ ts t a) (Builtin.clear_ ts t b) r:=by
 unfold Builtin.clear_
 unfold clearFine at hf
 cases ht:ts[0]? with
 | none=>exact sim_stuck
 | some t0=>
  rw [ht] at hf
  rcases h.get' 0 with ⟨ha,hb⟩ | ⟨x,y,ha,hb,hxy⟩
  ·
   rw [ha,hb]
   exact sim_stuck
  ·
   rw [ha,hb]
   dsimp only at hf ⊢
   refine sim_bind (sim_underlying t0) ?_
   rintro s _ d hle ⟨rfl,hd⟩
   rw [hd] at hf
   have last:∀ (s:Ren),Sim P F L (VR F) (pure (.tuple #[])) (pure (.tuple #[])) s:=fun s=>sim_pure (VR.tuple ⟨rfl,fun i x y k1 _=>by simp at k1⟩)
   have h1:=(hxy.mono hle).out
   cases x <;> simp only [VStep] at h1
   case map m=>
    obtain ⟨m',rfl,hm⟩:=h1
    cases m <;> cases m' <;> simp only [OpR] at hm
    · exact last s
    ·
     cases d
     all_goals
      refine sim_bind (sim_getObj hm) ?_
      rintro s2 o o' hle2 ⟨ho,-⟩
      cases o <;> simp only [ObR] at ho <;> first | exact sim_dies (dies_first (dies_halt (h:=.stuck _) trivial)) | skip
      obtain ⟨es',rfl,e1,e2⟩:=ho
      refine sim_bind (sim_setObj (hle2 _ _ hm) ⟨#[],rfl,rfl,fun i e e' k1 _=>by simp at k1⟩) ?_
      exact fun s3 _ _ _ _=>last s3
   case slice x n c=>
    obtain ⟨y,rfl,hy⟩:=h1
    cases x <;> cases y <;> simp only [OpR] at hy
    · cases d <;> exact last s
    ·
     cases n with
     | zero=>cases d <;> exact last s
     | succ n=>
      cases d
      case slice elem=>
       dsimp only at hf ⊢
       refine sim_bind (sim_zeroValue hf) ?_
       rintro s2 _ z hle2 ⟨rfl,hz⟩
       refine sim_bind (sim_storeArr (AR.mono hle2 hy) (ArR.plain (plain_zeroCells (plain_cells hz)))) ?_
       exact fun s3 _ _ _ _=>last s3
      all_goals exact sim_dies (dies_first (dies_halt (h:=.stuck _) trivial))
   all_goals (cases d <;> exact sim_dies (dies_first (dies_halt (h:=.stuck _) trivial)))
theorem sim_index {u v x y:Value} (h:VR F r u v) (hx:VR F r x y) (t:TypeId):Sim P F L (VR F) (Instr.index t u x) (Instr.index t v y) r:=by
 unfold Instr.index
 refine sim_bind (sim_asIntOf hx) ?_
 rintro s _ ⟨k,i⟩ hle rfl
 dsimp only
 refine sim_bind (sim_underlying t) ?_
 rintro s2 _ d hle2 ⟨rfl,hd⟩
 have h1:=(h.mono (hle.trans hle2)).out
 cases u <;> simp only [VStep] at h1
 case agg c=>
  obtain ⟨c',rfl,hc⟩:=h1
  cases d
  case array len elem=>
   dsimp only
   refine sim_ite (fun _=>?_) fun _=>sim_dies (dies_bounds _ _ _ _)
   refine sim_bind (sim_sizeOf elem) ?_
   rintro s3 _ n hle3 ⟨rfl,-⟩
   exact sim_part (ArR.mono (fun _ _=>VR.mono hle3) hc) _ _
  all_goals exact sim_stuck
 case string st=>
  subst h1
  cases d
  case string=>
   dsimp only
   cases (if 0 ≤ i then st[i.toNat]? else none)
   · exact sim_dies (dies_bounds _ _ _ _)
   · exact sim_pure (VR.int _ _)
  all_goals exact sim_stuck
 all_goals (cases d <;> exact sim_stuck)
end
section
variable {α β γ δ:Type} {P:Program} {F:Nat → Prop} {L:Nat} {r:Ren}
theorem sim_shift (op:BinOp) (k k':IntKind) (a b:Int):Sim P F L (VR F) (Op.shift op k a k' b) (Op.shift op k a k' b) r:=by
 unfold Op.shift
 split
 · exact sim_dies (dies_panic _)
 · cases op <;> first | exact sim_stuck | exact sim_pure (VR.int _ _)
def isShift:BinOp → Bool
 | .shl | .shr=>true
 | _=>false
theorem sim_binShift {op:BinOp} (ho:isShift op=true) (t:TypeId) {u v p q:Value} (h:VR F r u v) (hx:VR F r p q):Sim P F L (VR F) (binOp op t u p) (binOp op t v q) r:=by
 have h1:=h.out
 have h2:=hx.out
 have h3:op=.shl ∨ op=.shr:=by cases op <;> first | exact .inl rfl | exact .inr rfl | cases ho
 rcases h3 with rfl | rfl
 all_goals
  cases u <;> simp only [VStep] at h1
  case int k a=>
   subst h1
   cases p <;> simp only [VStep] at h2
   case int k' b=>
    subst h2
    first | exact sim_shift .shl k k' a b | exact sim_shift .shr k k' a b
   case pointer=>exact sim_dies (dies_unsupported trivial)
   all_goals exact sim_stuck
  case pointer=>cases p <;> exact sim_dies (dies_unsupported trivial)
  case string a=>
   subst h1
   cases p <;> simp only [VStep] at h2
   case string b=>
    subst h2
    first | exact sim_stringOp .shl a b | exact sim_stringOp .shr a b
   case pointer=>exact sim_dies (dies_unsupported trivial)
   all_goals exact sim_stuck
  all_goals (cases p <;> first | exact sim_stuck | exact sim_dies (dies_unsupported trivial))
def isSliceT (P:Program) (t:TypeId):Bool:=match P.underlying t with
 | some (.slice _)=>true
 | _=>false
def isNilSlice:Operand → Bool
 | .const (.slice none 0 0)=>true
 | _=>false
def isEqOp:BinOp → Bool
 | .eql | .neq=>true
 | _=>false
theorem sim_equalSliceNil {t:TypeId} (ht:isSliceT P t=true) {u v:Value} (h:VR F r u v):Sim P F L (fun _ a b=>b=a) (Op.equal t u (.slice none 0 0)) (Op.equal t v (.slice none 0 0)) r:=by
 obtain ⟨e,hk⟩:∃ e,P.underlying t=some (.slice e):=by
  unfold isSliceT at ht
  split at ht
  · exact ⟨_,by assumption⟩
  · cases ht
 show Sim P F L (fun _ a b=>b=a) (Op.equalIn (9999+1) t u _) (Op.equalIn (9999+1) t v _) r
 rw [Op.equalIn]
 (try rw [Op.equalIn])
 refine sim_under hk ?_
 have h1:=h.out
 cases u <;> simp only [VStep] at h1
 case slice a n c=>
  obtain ⟨a',rfl,ha⟩:=h1
  cases a <;> cases a' <;> simp only [OpR] at ha <;> exact sim_pure rfl
 all_goals exact sim_stuck
theorem sim_binSlice {op:BinOp} {t:TypeId} (ho:isEqOp op=true) (ht:isSliceT P t=true) {u v:Value} (h:VR F r u v):Sim P F L (VR F) (binOp op t u (.slice none 0 0)) (binOp op t v (.slice none 0 0)) r:=by
 have main:=sim_equalSliceNil (F:=F) (L:=L) (r:=r) ht h
 have h1:=h.out
 have n3:kindNo u ≠ 2:=fun e=>by cases u <;> first | exact h1 | cases e
 have n4:kindNo u ≠ 3:=fun e=>by cases u <;> first | exact h1 | cases e
 obtain ⟨a1,a2⟩:=binOp_eql (t:=t) u (.slice none 0 0) (fun ⟨k,a,k',b,ea,eb⟩=>by cases eb) (fun ⟨a,b,ea,eb⟩=>by cases eb) n3 n4
 obtain ⟨b1,b2⟩:=binOp_eql (t:=t) v (.slice none 0 0) (fun ⟨k,a,k',b,ea,eb⟩=>by cases eb) (fun ⟨a,b,ea,eb⟩=>by cases eb) (by rw [h.kind];exact n3) (by rw [h.kind];exact n4)
 have h3:op=.eql ∨ op=.neq:=by cases op <;> first | exact .inl rfl | exact .inr rfl | cases ho
 rcases h3 with rfl | rfl
 ·
  rw [a1,b1]
  refine sim_bind main ?_
  rintro s _ c - rfl
  exact sim_pure (VR.bool _)
 ·
  rw [a2,b2]
  refine sim_bind main ?_
  rintro s _ c - rfl
  exact sim_pure (VR.bool _)
theorem made_methods {T:Tables} {t:TypeId} {i:TypeInfo} (h:T.info? t=some i):(∃ n:Nat,T.types[n]? = some i) ∨ i.methods = #[]:=by
 unfold Tables.info? at h
 split at h
 · exact .inl ⟨t,h⟩
 ·
  right
  unfold Made.depth at h
  rw [Made.infoAt] at h
  split at h
  ·
   rename_i h1 h2
   exact absurd h2 h1
  ·
   obtain ⟨d,-,h⟩:=Option.bind_eq_some_iff.1 h
   unfold Made.reckon at h
   cases d <;> simp only [Option.bind_eq_bind,Option.bind_eq_some_iff,Option.pure_def,Option.some.injEq,reduceCtorEq] at h
   case pointer e=>
    obtain ⟨j,-,h⟩:=h
    (repeat' split at h) <;> first | (cases h;done) | (obtain ⟨_,-,h⟩:=Option.bind_eq_some_iff.1 h;cases h;rfl)
   case slice e=>obtain ⟨_,-,_,-,rfl⟩:=h;rfl
   case func=>obtain ⟨_,-,rfl⟩:=h;rfl
   case chan=>obtain ⟨_,-,_,-,rfl⟩:=h;rfl
   case array=>obtain ⟨_,-,_,-,rfl⟩:=h;rfl
   case map=>obtain ⟨_,-,_,-,_,-,_,-,rfl⟩:=h;rfl
   case struct=>
    unfold Made.reckonStruct at h
    simp only [Option.bind_eq_bind,Option.bind_eq_some_iff,Option.pure_def] at h
    obtain ⟨_,-,h⟩:=h
    (repeat' split at h) <;> (cases h;rfl)
def methodFine (P:Program) (Fb:Nat → Bool) (name:String):Bool:=P.types.all fun i=>match i.methods.find? (·.name == name) with
 | none=>true
 | some m=>(m.path.toList.all fun s=>!s.deref) && (match m.func with | some (f,_)=>Fb f | none=>false)
theorem ends_choose (q:Question) (w:World):(∃ a w1,(choose q).run P w=.ok a w1) ∨ ∃ h w1,(choose q).run P w=.halt h w1 ∧ Mild h:=by
 left
 cases hq:q.forced
 · exact ⟨_,_,by simp [choose,Sem.run,hq];exact ⟨rfl,rfl⟩⟩
 · exact ⟨_,_,by simp [choose,Sem.run,hq];exact ⟨rfl,rfl⟩⟩
theorem ends_underlying (t:TypeId) (w:World):(∃ a w1,(underlying t).run P w=.ok a w1) ∨ ∃ h w1,(underlying t).run P w=.halt h w1 ∧ Mild h:=by
 unfold underlying
 cases hu:P.underlying t with
 | none=>exact .inr ⟨.stuck _,w,by simp [program,Sem.run,hu,stuck];rfl,trivial⟩
 | some d=>exact .inl ⟨_,w,by simp [program,Sem.run,hu];rfl⟩
theorem ends_typeInfo (t:TypeId) (w:World):(∃ a w1,(typeInfo t).run P w=.ok a w1) ∨ ∃ h w1,(typeInfo t).run P w=.halt h w1 ∧ Mild h:=by
 unfold typeInfo
 cases hu:P.info? t with
 | none=>exact .inr ⟨.stuck _,w,by simp [program,Sem.run,hu,stuck];rfl,trivial⟩
 | some d=>exact .inl ⟨_,w,by simp [program,Sem.run,hu];rfl⟩
theorem sim_ssaWrap (ts:Array TypeId) (t:TypeId) {u v:Value} (h:VR F r u v) (a b:Value):Sim P F L (VR F) (Builtin.ssaWrapNilChk_ ts t #[u,a,b]) (Builtin.ssaWrapNilChk_ ts t #[v,a,b]) r:=by
 unfold Builtin.ssaWrapNilChk_
 cases a <;> first | exact sim_stuck | skip
 cases b <;> first | exact sim_stuck | skip
 dsimp only
 have h1:=h.out
 cases u <;> simp only [VStep] at h1
 case pointer a=>
  obtain ⟨a',rfl,ha⟩:=h1
  cases a <;> cases a' <;> simp only [OpR] at ha
  ·
   refine sim_dies (dies_bind (ends_choose _) fun c=>dies_ite (dies_first (dies_panic _)) ?_)
   cases ts[0]? with
   | none=>exact dies_halt (h:=.stuck _) trivial
   | some pt=>
    refine dies_bind (ends_underlying _) fun d=>?_
    cases d <;> first | exact dies_halt (h:=.stuck _) trivial | skip
    refine dies_bind (ends_typeInfo _) fun i=>?_
    split
    ·
     split
     ·
      split
      · exact dies_panic _
      · exact dies_unsupported trivial
     · exact dies_halt (h:=.stuck _) trivial
    · exact dies_halt (h:=.stuck _) trivial
  · exact sim_pure (VR.make ⟨_,rfl,ha⟩)
 all_goals exact sim_stuck
theorem sim_receiverAt (t:TypeId) (p:Bool) (o:Option String) {u v:Value} (h:VR F r u v):Sim P F L (VR F) (receiverAt t (.val u) p o) (receiverAt t (.val v) p o) r:=by
 unfold receiverAt
 refine sim_bind (sim_underlying t) ?_
 rintro s _ d hle ⟨rfl,-⟩
 cases d <;> cases p
 case pointer.true=>exact sim_pure (h.mono hle)
 case pointer.false elem=>
  refine sim_bind (Q:=VR F) (sim_pure (h.mono hle)) ?_
  intro s2 a b hle2 hab
  cases o with
  | none=>
   refine sim_bind (Q:=VR F) (sim_pure hab) ?_
   intro s3 x y _ hxy
   refine sim_bind (sim_asAddr hxy) ?_
   intro s4 x y _ hxy
   exact sim_loadVar hxy elem
  | some m=>
   refine sim_bind (sim_ssaWrap _ _ hab _ _) ?_
   intro s3 x y _ hxy
   refine sim_bind (sim_asAddr hxy) ?_
   intro s4 x y _ hxy
   exact sim_loadVar hxy elem
 all_goals first | exact sim_stuck | exact sim_pure (h.mono hle)
theorem sim_follow:∀ (l:List FieldStep) (t:TypeId) {r:Ren} {u v:Value},(l.all fun s=>!s.deref)=true → VR F r u v → Sim P F L (fun s a b=>b.1=a.1 ∧ ∃ x y,a.2=Place.val x ∧ b.2=Place.val y ∧ VR F s x y) (follow l t (.val u)) (follow l t (.val v)) r
 | [],t,r,u,v,_,h=>sim_pure ⟨rfl,u,v,rfl,rfl,h⟩
 | s :: rest,t,r,u,v,hl,h=>by
  rw [List.all_cons,Bool.and_eq_true] at hl
  have hd:s.deref=false:=by simpa using hl.1
  unfold follow
  refine sim_bind (sim_underlying s.struct) ?_
  rintro r1 _ d hle ⟨rfl,-⟩
  cases d <;> first | exact sim_stuck | skip
  rename_i fields
  dsimp only
  cases fields[s.index]? with
  | none=>exact sim_stuck
  | some f=>
   dsimp only
   rw [hd]
   have h1:=(h.mono hle).out
   cases u <;> simp only [VStep] at h1 <;> first | exact sim_stuck | skip
   obtain ⟨b,rfl,hb⟩:=h1
   refine sim_bind (sim_part hb _ _) ?_
   intro r2 x y _ hxy
   exact sim_follow rest f.type hl.2 hxy
theorem sim_method {Fb:Nat → Bool} {name:String} (hm:methodFine P Fb name=true) {t:TypeId} {u v:Value} (h:VR F r u v) (n:Nat):Sim P F L (fun s a b=>b.1=a.1 ∧ Fb a.1=true ∧ VR F s a.2 b.2) (method n t u name) (method n t v name) r:=by
 cases n with
 | zero=>exact sim_dies (dies_unsupported trivial)
 | succ n=>
  unfold method
  refine sim_bind (sim_typeInfo t) ?_
  rintro s _ i hle ⟨rfl,hi⟩
  have hrow:∀ m,i.methods.find? (·.name == name)=some m → (m.path.toList.all fun s=>!s.deref)=true ∧ ∃ f p,m.func=some (f,p) ∧ Fb f=true:=fun m e=>by
   rcases made_methods hi with ⟨k,hk⟩ | he
   ·
    have:=Array.all_eq_true_iff_forall_mem.1 hm i (Array.mem_of_getElem? hk)
    rw [e] at this
    dsimp only at this
    rw [Bool.and_eq_true] at this
    refine ⟨this.1,?_⟩
    cases hf:m.func with
    | none=>rw [hf] at this;cases this.2
    | some q=>rw [hf] at this;exact ⟨q.1,q.2,rfl,this.2⟩
   ·
    rw [he] at e
    cases e
  cases e:i.methods.find? (·.name == name) with
  | none=>exact sim_stuck
  | some m=>
   obtain ⟨h1,f,p,h2,h3⟩:=hrow m e
   dsimp only
   rw [h2]
   refine sim_bind (sim_follow m.path.toList t h1 (h.mono hle)) ?_
   rintro s2 ⟨t1,q1⟩ ⟨t2,q2⟩ hle2 ⟨e1,x,y,e2,e3,hxy⟩
   dsimp only at e1 e2 e3
   subst e1 e2 e3
   dsimp only
   refine sim_bind (sim_receiverAt t2 p _ hxy) ?_
   intro s3 a b _ hab
   exact sim_pure ⟨rfl,h3,hab⟩
end
section
variable {α β γ δ:Type} {P:Program} {F:Nat → Prop} {L:Nat} {r:Ren}
theorem sim_typeAssert {t asserted:TypeId} (hz:zeroFine P asserted=true) (ok:Bool) {u v:Value} (h:VR F r u v):Sim P F L (VR F) (Instr.typeAssert u t asserted ok) (Instr.typeAssert v t asserted ok) r:=by
 have holds:∀ (s:Ren) (x y:Value),VR F s x y → Sim P F L (VR F) (pure (if ok=true then .tuple #[x,.bool true] else x)) (pure (if ok=true then .tuple #[y,.bool true] else y)) s:=fun s x y hxy=>by
  cases ok
  · exact sim_pure hxy
  · exact sim_pure (VR.tuple ((ArR.one hxy).push (VR.bool true)))
 have fails:∀ (s:Ren) (a b:Option TypeId) (m:String),Sim P F L (VR F) (if ok=true then zeroValue asserted >>= fun z=>pure (.tuple #[z,.bool false]) else runtimePanic (.typeAssertion a b asserted m)) (if ok=true then zeroValue asserted >>= fun z=>pure (.tuple #[z,.bool false]) else runtimePanic (.typeAssertion a b asserted m)) s:=fun s a b m=>by
  cases ok
  ·
   rw [if_neg (by decide)]
   exact sim_dies (dies_panic _)
  ·
   rw [if_pos rfl]
   refine sim_bind (sim_zeroValue hz) ?_
   rintro s2 _ z - ⟨rfl,hz2⟩
   exact sim_pure (VR.tuple ((ArR.one (VR.plain hz2)).push (VR.bool false)))
 unfold Instr.typeAssert
 dsimp only
 refine sim_bind (sim_underlying asserted) ?_
 rintro s _ d hle ⟨rfl,hd⟩
 have h0:=h.mono hle
 have h1:=h0.out
 cases u <;> simp only [VStep] at h1
 case nilIface=>
  subst h1
  cases d <;> exact fails s _ _ _
 case iface ty w=>
  obtain ⟨w',rfl,hw⟩:=h1
  cases d
  case interface want=>
   dsimp only
   refine sim_bind (sim_typeInfo ty) ?_
   rintro s2 _ i hle2 ⟨rfl,-⟩
   cases Instr.missingMethod want i.methods with
   | none=>exact holds s2 _ _ (h0.mono hle2)
   | some m=>exact fails s2 _ _ _
  all_goals exact sim_ite (fun _=>holds s _ _ hw) fun _=>fails s _ _ _
 all_goals (cases d <;> exact sim_stuck)
theorem ends_panicnil (w:World):(∃ a w1,(Instr.panicnil).run P w=.ok a w1) ∨ ∃ h w1,(Instr.panicnil).run P w=.halt h w1 ∧ Mild h:=by
 revert w
 unfold Instr.panicnil
 refine ends_bind (fun w=>.inl ⟨_,_,rfl⟩) fun x=>?_
 cases x <;> first | exact fun w=>.inl ⟨_,_,rfl⟩ | exact ends_dies (dies_halt (h:=.stuck _) trivial)
theorem sim_panic {u v:Value} (h:VR F r u v):Sim P F L (VR F) (Instr.panic u) (Instr.panic v) r:=by
 unfold Instr.panic
 cases u
 case iface=>exact sim_dies (dies_halt (h:=.panic _) trivial)
 case nilIface=>exact sim_dies (dies_bind ends_panicnil fun b=>dies_ite (dies_halt (h:=.panic _) trivial) (dies_panic _))
 all_goals exact sim_stuck
def Asks {α:Type} (P:Program) (s:Sem α):Prop:=(∃ a,∀ w,s.run P w=.ok a w ∧ ∀ es,s.events P w es=es) ∨ Dies P s
theorem asks_pure (a:α):Asks P (pure a:Sem α):=.inl ⟨a,fun w=>⟨rfl,fun es=>by simp⟩⟩
theorem asks_bind {s:Sem α} {f:α → Sem β} (h:Asks P s) (hf:∀ a,Asks P (f a)):Asks P (s >>= f):=by
 rcases h with ⟨a,h⟩ | h
 ·
  rcases hf a with ⟨b,k⟩ | k
  · exact .inl ⟨b,fun w=>⟨by simp [(h w).1,(k w).1],fun es=>by simp [(h w).1,(h w).2,(k w).2]⟩⟩
  ·
   refine .inr fun w=>?_
   obtain ⟨x,w1,h1,hm⟩:=k w
   exact ⟨x,w1,by simp [(h w).1,h1],hm⟩
 · exact .inr (dies_first h)
theorem asks_dies {s:Sem α} (h:Dies P s):Asks P s:=.inr h
theorem asks_ite {c:Prop} [Decidable c] {s t:Sem α} (h:Asks P s) (h':Asks P t):Asks P (if c then s else t):=by
 split
 · exact h
 · exact h'
theorem asks_program:Asks P program:=.inl ⟨P,fun w=>⟨rfl,fun es=>by simp [program,Sem.events,Sem.runT]⟩⟩
theorem asks_stuck {m:String}:Asks P (stuck m:Sem α):=.inr (dies_halt (h:=.stuck m) trivial)
theorem asks_typeInfo (t:TypeId):Asks P (typeInfo t):=by
 unfold typeInfo
 refine asks_bind asks_program fun p=>?_
 cases p.info? t
 · exact asks_stuck
 · exact asks_pure _
open Extern.Rtype
theorem asks_noPack (m:String) (t:TypeId):Asks P (noPack m t):=by
 unfold noPack
 refine asks_bind asks_program fun p=>asks_ite (asks_dies (dies_unsupported trivial)) (asks_pure _)
theorem asks_noPackMethods (m:String) (t:TypeId):Asks P (noPackMethods m t):=by
 unfold noPackMethods
 refine asks_bind asks_program fun p=>asks_bind asks_program fun q=>asks_ite (asks_dies (dies_unsupported trivial)) (asks_pure _)
theorem asks_noPackNamed (m:String) (t:TypeId):Asks P (noPackNamed m t):=by
 unfold noPackNamed
 refine asks_bind asks_program fun p=>asks_bind asks_program fun q=>asks_ite (asks_dies (dies_unsupported trivial)) (asks_pure _)
theorem asks_under (t:TypeId):Asks P (under t):=by
 unfold under
 refine asks_bind (asks_typeInfo t) fun i=>?_
 split
 · exact asks_bind (asks_typeInfo _) fun _=>asks_pure _
 · exact asks_pure _
theorem asks_kind (t:TypeId):Asks P (kind t):=by
 unfold kind
 refine asks_bind (asks_under t) fun i=>?_
 obtain ⟨a,i⟩:=i
 dsimp only
 split <;> first | exact asks_pure _ | exact asks_stuck
theorem asks_elem (t:TypeId):Asks P (elem? t):=by
 unfold elem?
 refine asks_bind (asks_under t) fun i=>?_
 split <;> exact asks_pure _
theorem asks_implements (t u:TypeId):Asks P (implements t u):=by
 unfold implements
 refine asks_bind (asks_noPackMethods _ _) fun _=>asks_bind (asks_noPackMethods _ _) fun _=>asks_bind (asks_under _) fun a=>asks_bind (asks_under _) fun b=>?_
 split
 · exact asks_pure _
 · exact asks_bind (asks_typeInfo _) fun _=>asks_pure _
 · exact asks_pure _
theorem asks_hasName (t:TypeId):Asks P (hasName t):=by
 unfold hasName
 refine asks_bind (asks_typeInfo t) fun i=>?_
 split <;> exact asks_pure _
theorem asks_directly (t u:TypeId):Asks P (directlyAssignable t u):=by
 unfold directlyAssignable
 dsimp only
 refine asks_ite (asks_pure _) (asks_bind (asks_hasName _) fun a=>asks_bind (asks_hasName _) fun b=>asks_ite (asks_pure _) (asks_bind (asks_under _) fun x=>asks_bind (asks_under _) fun y=>?_))
 split <;> exact asks_pure _
theorem asks_spelt (t:TypeId):Asks P (spelt t):=by
 unfold spelt
 refine asks_bind (asks_noPackNamed _ _) fun _=>?_
 unfold typeStr
 exact asks_bind (asks_typeInfo t) fun i=>asks_ite (asks_dies (dies_unsupported trivial)) (asks_pure _)
theorem asks_cutType (m:String):Asks P (cutType m):=by
 unfold cutType
 refine asks_bind asks_program fun p=>?_
 split
 · exact asks_pure _
 · exact asks_stuck
theorem dies_panicString (m:String):Dies P (panicString m:Sem α):=dies_bind (fun w=>.inl ⟨P,w,rfl⟩) fun _=>dies_halt trivial
theorem ArR.pair {X:Value → Value → Prop} {x x':Value} {b:Array Value} (h:ArR X #[x,x'] b):∃ y y',b = #[y,y'] ∧ X x y ∧ X x' y':=by
 obtain ⟨l⟩:=b
 have h1:=h.1
 match l,h1,h with
 | [y,y'],_,h=>exact ⟨y,y',rfl,h.2 0 x y rfl rfl,h.2 1 x' y' rfl rfl⟩
theorem asks_implements_ (t u:TypeId):Asks P (Extern.ReflectliteType.implements_ t u):=by
 unfold Extern.ReflectliteType.implements_
 refine asks_bind (asks_kind t) fun k=>?_
 have rest:Asks P (noPackMethods "Implements" u >>= fun _=>noPack "Implements" t >>= fun _=>implements t u):=asks_bind (asks_noPackMethods _ _) fun _=>asks_bind (asks_noPack _ _) fun _=>asks_implements t u
 exact asks_ite (asks_dies (dies_first (dies_panicString _))) rest
theorem asks_assignableTo (t u:TypeId):Asks P (Extern.ReflectliteType.assignableTo t u):=by
 unfold Extern.ReflectliteType.assignableTo
 dsimp only
 have rest:Asks P (directlyAssignable t u >>= fun a=>implements t u >>= fun b=>pure (a || b)):=asks_bind (asks_directly t u) fun _=>asks_bind (asks_implements t u) fun _=>asks_pure _
 exact asks_ite (asks_bind (asks_noPackMethods _ _) fun _=>asks_bind (asks_noPackMethods _ _) fun _=>rest) rest
end
end Go.Proofs.YtbokomeejmnnoaaDoor

namespace Go.Proofs.YtbokomeejmnnoaaDoor
open Extern.Rtype Extern.ReflectliteValue
section
variable {α β γ δ:Type} {P:Program} {F:Nat → Prop} {L:Nat} {r:Ren}
theorem asks_ends {s:Sem α} (h:Asks P s):EndsP P s:=fun w=>by
 rcases h with ⟨a,h⟩ | h
 · exact .inl ⟨a,w,(h w).1⟩
 · exact .inr (h w)
theorem dies_valueError (m:String) (k:Nat):Dies P (valueError m k:Sem α):=by
 unfold valueError
 refine dies_bind (asks_ends (asks_cutType _)) fun t=>dies_bind (ends_elemOf t) fun e=>dies_bind (fun w=>.inl ⟨_,_,rfl⟩) fun a=>dies_halt trivial
def PartsR (r:Ren):Option (TypeId × Addr × Nat) → Option (TypeId × Addr × Nat) → Prop:=OpR fun p q=>q.1=p.1 ∧ AR r p.2.1 q.2.1 ∧ q.2.2=p.2.2
theorem PartsR.mono {s:Ren} (h:r.Le s) {p q:Option (TypeId × Addr × Nat)} (x:PartsR r p q):PartsR s p q:=OpR.mono (fun _ _ k=>⟨k.1,k.2.1.mono h,k.2.2⟩) x
end
end Go.Proofs.YtbokomeejmnnoaaDoor
