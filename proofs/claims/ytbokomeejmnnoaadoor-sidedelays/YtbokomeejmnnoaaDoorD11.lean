/- Own facts, put together: no statement of its own. -/
import Derived.Test.YtbokomeejmnnoaaDoorD10

namespace Go.Proofs.YtbokomeejmnnoaaDoor
def Dies {α:Type} (P:Program) (s:Sem α):Prop:=∀ w,∃ h w1,s.run P w=.halt h w1 ∧ Mild h
section
variable {α β γ δ:Type} {P:Program} {F:Nat → Prop} {L:Nat} {r:Ren}
theorem sim_dies {Q:Ren → α → β → Prop} {s:Sem α} {s':Sem β} (h:Dies P s):Sim P F L Q s s' r:=fun w _ _=>.inl (h w)
theorem dies_halt {h:Halt} (hm:Mild h):Dies P (Sem.halt h:Sem α):=fun w=>⟨h,w,rfl,hm⟩
theorem dies_bind {s:Sem α} {f:α → Sem β} (hs:∀ w,(∃ a w1,s.run P w=.ok a w1) ∨ ∃ h w1,s.run P w=.halt h w1 ∧ Mild h) (hf:∀ a,Dies P (f a)):Dies P (s >>= f):=fun w=>by
 rcases hs w with ⟨a,w1,h1⟩ | ⟨h,w1,h1,hm⟩
 ·
  obtain ⟨h,w2,h2,hm⟩:=hf a w1
  exact ⟨h,w2,by simp [h1,h2],hm⟩
 · exact ⟨h,w1,by simp [h1],hm⟩
theorem dies_first {s:Sem α} {f:α → Sem β} (h:Dies P s):Dies P (s >>= f):=fun w=>by
 obtain ⟨h,w1,h1,hm⟩:=h w
 exact ⟨h,w1,by simp [h1],hm⟩
theorem ends_elemOf (t:TypeId) (w:World):(∃ a w1,(elemOf t).run P w=.ok a w1) ∨ ∃ h w1,(elemOf t).run P w=.halt h w1 ∧ Mild h:=by
 unfold elemOf underlying
 cases hu:P.underlying t with
 | none=>exact .inr ⟨.stuck "no such type",w,by simp [program,Sem.run,hu,stuck],trivial⟩
 | some d=>cases d <;> first | exact .inl ⟨_,w,by simp [program,Sem.run,hu];rfl⟩ | exact .inr ⟨.stuck "pointer type expected",w,by simp [program,Sem.run,hu,stuck],trivial⟩
theorem dies_panic (e:RuntimeError):Dies P (runtimePanic e:Sem α):=by
 unfold runtimePanic
 refine dies_bind (fun w=>.inl ⟨P,w,rfl⟩) fun p=>?_
 cases e
 case typeAssertion i c a m=>
  refine dies_bind (fun w=>ends_elemOf _ w) fun t=>dies_bind (fun w=>.inl ⟨_,_,rfl⟩) fun x=>dies_halt trivial
 case panicNil=>
  refine dies_bind (fun w=>ends_elemOf _ w) fun t=>dies_bind (fun w=>.inl ⟨_,_,rfl⟩) fun x=>dies_halt trivial
 all_goals exact dies_halt trivial
theorem dies_bounds (k:IntKind) (x y:Int) (c:BoundsCode):Dies P (boundsPanic k x y c:Sem α):=by
 unfold boundsPanic
 dsimp only
 split
 · exact dies_bind (fun w=>.inl ⟨_,_,rfl⟩) fun b=>dies_panic _
 · exact dies_bind (fun w=>.inl ⟨_,_,rfl⟩) fun b=>dies_panic _
theorem dies_ite {c:Prop} [Decidable c] {s t:Sem α} (h:Dies P s) (h':Dies P t):Dies P (if c then s else t):=by
 split
 · exact h
 · exact h'
theorem dies_unsupported {u:Unsupported} (h:Mild (.unsupported u)):Dies P (unsupported u:Sem α):=dies_halt h
theorem sim_typeInfo (t:TypeId):Sim P F L (fun _ a b=>b=a ∧ P.info? t=some a) (typeInfo t) (typeInfo t) r:=by
 refine sim_program ?_
 cases h:P.info? t with
 | none=>exact sim_stuck
 | some i=>exact sim_pure ⟨rfl,rfl⟩
theorem sim_underlying (t:TypeId):Sim P F L (fun _ a b=>b=a ∧ P.underlying t=some a) (underlying t) (underlying t) r:=by
 refine sim_program ?_
 cases h:P.underlying t with
 | none=>exact sim_stuck
 | some i=>exact sim_pure ⟨rfl,rfl⟩
def zeroFine (P:Program) (t:TypeId):Bool:=match P.info? t with
 | some i=>(match i.zero with | some z=>plainV 8 z | none=>true)
 | none=>true
theorem sim_zeroValue {t:TypeId} (hz:zeroFine P t=true):Sim P F L (fun _ a b=>b=a ∧ plainV 8 a=true) (zeroValue t) (zeroValue t) r:=by
 refine sim_bind (sim_typeInfo t) ?_
 rintro s _ i - ⟨rfl,hi⟩
 unfold zeroFine at hz
 rw [hi] at hz
 cases h:i.zero with
 | none=>exact sim_halt (h:=.unsupported (.resourceLimit _)) trivial
 | some z=>
  simp only [h] at hz
  exact sim_pure ⟨rfl,hz⟩
theorem sim_sizeOf (t:TypeId):Sim P F L (fun _ a b=>b=a ∧ ∃ i,P.info? t=some i ∧ a=i.size) (sizeOf t) (sizeOf t) r:=by
 refine sim_bind (sim_typeInfo t) ?_
 rintro s _ i - ⟨rfl,hi⟩
 exact sim_pure ⟨rfl,i,hi,rfl⟩
theorem sim_isAgg (t:TypeId):Sim P F L (fun _ a b=>b=a) (isAgg t) (isAgg t) r:=by
 refine sim_bind (sim_underlying t) ?_
 rintro s _ d - ⟨rfl,hi⟩
 cases d <;> exact sim_pure rfl
theorem AR.add {a a':Addr} (h:AR r a a') (n:Nat):AR r (a.add n) (a'.add n):=by
 unfold Addr.add
 split
 · exact h
 · exact ⟨h.1,by simp [h.2.1],rfl⟩
theorem ArR.push {X:Value → Value → Prop} {c c':Array Value} (h:ArR X c c') {u v:Value} (hv:X u v):ArR X (c.push u) (c'.push v):=by
 refine ⟨by simp [h.1],fun j x y hx hy=>?_⟩
 rw [Array.getElem?_push] at hx hy
 rw [h.1] at hy
 split at hx
 ·
  rename_i e
  rw [if_pos e] at hy
  cases hx;cases hy;exact hv
 ·
  rename_i e
  rw [if_neg e] at hy
  exact h.2 j x y hx hy
theorem ArR.nil {X:Value → Value → Prop}:ArR X #[] #[]:=⟨rfl,fun i x y hx=>by simp at hx⟩
theorem ArR.one {X:Value → Value → Prop} {u v:Value} (h:X u v):ArR X #[u] #[v]:=by
 have:=ArR.push (ArR.nil (X:=X)) h
 exact this
theorem ArR.plain {n:Nat} {c:Array Value} (h:∀ x ∈ c,plainV n x=true):ArR (VR F r) c c:=⟨rfl,fun i x y hx hy=>by
 rw [hx] at hy
 cases hy
 exact VR.plain (h x (Array.mem_of_getElem? hx))⟩
theorem VR.cells {u v:Value} (h:VR F r u v):ArR (VR F r) u.cells v.cells:=by
 have:=h.out
 cases u <;> simp only [VStep] at this
 case agg c=>obtain ⟨b,rfl,hb⟩:=this;exact hb
 case pointer=>obtain ⟨_,rfl,-⟩:=this;exact ArR.one h
 case slice=>obtain ⟨_,rfl,-⟩:=this;exact ArR.one h
 case map=>obtain ⟨_,rfl,-⟩:=this;exact ArR.one h
 case func=>obtain ⟨_,_,rfl,-⟩:=this;exact ArR.one h
 case iface=>obtain ⟨_,rfl,-⟩:=this;exact ArR.one h
 case tuple=>obtain ⟨_,rfl,-⟩:=this;exact ArR.one h
 all_goals (subst this;exact ArR.one h)
theorem sim_loadCellsFrom {a a':Addr} (n:Nat):∀ {r:Ren} (_:AR r a a') (i:Nat) (c c':Array Value),ArR (VR F r) c c' → Sim P F L (fun t x y=>ArR (VR F t) x y) (loadCellsFrom a i n c) (loadCellsFrom a' i n c') r:=by
 induction n with
 | zero=>exact fun _ i c c' h=>sim_pure h
 | succ n ih=>
  intro r ha i c c' h
  refine sim_bind (sim_load (ha.add i)) ?_
  intro t u v hle huv
  exact ih (ha.mono hle) (i+1) _ _ ((h.mono fun _ _=>VR.mono hle).push huv)
theorem sim_loadCells {a a':Addr} (ha:AR r a a') (n:Nat):Sim P F L (fun t x y=>ArR (VR F t) x y) (loadCells a n) (loadCells a' n) r:=sim_loadCellsFrom n ha 0 #[] #[] ArR.nil
theorem VR.agg {c c':Array Value} (h:ArR (VR F r) c c'):VR F r (.agg c) (.agg c'):=VR.make ⟨_,rfl,h⟩
theorem VR.tuple {c c':Array Value} (h:ArR (VR F r) c c'):VR F r (.tuple c) (.tuple c'):=VR.make ⟨_,rfl,h⟩
theorem VR.ptr {a a':Addr} (h:AR r a a'):VR F r (.pointer (some a)) (.pointer (some a')):=VR.make ⟨_,rfl,h⟩
theorem VR.slc {a a':Addr} (h:AR r a a') (n k:Nat):VR F r (.slice (some a) n k) (.slice (some a') n k):=VR.make ⟨_,rfl,h⟩
theorem VR.int (k:IntKind) (n:Int):VR F r (.int k n) (.int k n):=VR.plain (n:=0) rfl
theorem VR.bool (b:Bool):VR F r (.bool b) (.bool b):=VR.plain (n:=0) rfl
theorem sim_loadVar {a a':Addr} (ha:AR r a a') (t:TypeId):Sim P F L (VR F) (loadVar t a) (loadVar t a') r:=by
 refine sim_bind (sim_isAgg t) ?_
 rintro s _ b hle rfl
 cases b with
 | false=>exact sim_load (ha.mono hle)
 | true=>
  refine sim_bind (sim_sizeOf t) ?_
  rintro s2 _ n hle2 ⟨rfl,-⟩
  refine sim_bind (sim_loadCells ((ha.mono hle).mono hle2) n) ?_
  exact fun s3 c c' _ h=>sim_pure (VR.agg h)
theorem sim_storeCells {a a':Addr}:∀ (l l':List Value) {r:Ren} (_:AR r a a') (i:Nat),l'.length=l.length → (∀ (j:Nat) x y,l[j]? = some x → l'[j]? = some y → VR F r x y) → Sim P F L (fun _ _ _=>True) (storeCells a l i) (storeCells a' l' i) r
 | [],[],_,_,_,_,_=>sim_pure trivial
 | u :: l,v :: l',r,ha,i,hl,h=>by
  refine sim_bind (sim_store (ha.add i) (h 0 u v rfl rfl)) ?_
  intro t _ _ hle _
  exact sim_storeCells l l' (ha.mono hle) (i+1) (by simpa using hl) fun j x y h1 h2=>(h (j+1) x y h1 h2).mono hle
 | [],_ :: _,_,_,_,hl,_=>by cases hl
 | _ :: _,[],_,_,_,hl,_=>by cases hl
theorem sim_storeArr {a a':Addr} {c c':Array Value} (ha:AR r a a') (h:ArR (VR F r) c c'):Sim P F L (fun _ _ _=>True) (storeCells a c.toList) (storeCells a' c'.toList) r:=
 sim_storeCells c.toList c'.toList ha 0 (by simp [h.1]) fun j x y h1 h2=>h.2 j x y (by simpa using h1) (by simpa using h2)
theorem sim_storeVar {a a':Addr} {u v:Value} (ha:AR r a a') (t:TypeId) (h:VR F r u v):Sim P F L (fun _ _ _=>True) (storeVar t a u) (storeVar t a' v) r:=by
 refine sim_bind (sim_sizeOf t) ?_
 rintro s _ n hle ⟨rfl,-⟩
 rw [h.cells.1]
 by_cases e:u.cells.size ≠ n
 ·
  rw [if_pos e,if_pos e]
  exact sim_dies (dies_first (dies_halt trivial))
 ·
  rw [if_neg e,if_neg e]
  exact sim_storeArr (ha.mono hle) (h.cells.mono fun _ _=>VR.mono hle)
theorem sim_newRow (t:TypeId) {c c':Array Value} (h:ArR (VR F r) c c'):Sim P F L (fun s a a'=>AR s a a' ∧ L ≤ a.block) (newRow t c) (newRow t c') r:=by
 refine sim_bind (sim_newObj (o:=.cells c t) (o':=.cells c' t) ⟨c',(0,0),rfl,h.pr,fun k _ h=>absurd h (Nat.not_lt_zero _)⟩) ?_
 rintro s a b - ⟨h1,h2⟩
 exact sim_pure ⟨⟨h1,rfl,rfl⟩,h2⟩
theorem sim_newVar (t:TypeId) {u v:Value} (h:VR F r u v):Sim P F L (fun s a a'=>AR s a a' ∧ L ≤ a.block) (newVar t u) (newVar t v) r:=sim_newRow t h.cells
end
section
variable {α β γ δ:Type} {P:Program} {F:Nat → Prop} {L:Nat} {r:Ren}
theorem sim_asIntOf {u v:Value} (h:VR F r u v):Sim P F L (fun _ a b=>b=a) (asIntOf u) (asIntOf v) r:=by
 have:=h.out
 cases u <;> simp only [VStep] at this
 case int k n=>subst this;exact sim_pure rfl
 case pointer a=>
  obtain ⟨b,rfl,-⟩:=this
  cases a with
  | none=>exact sim_stuck
  | some a=>exact sim_dies (dies_unsupported trivial)
 all_goals exact sim_stuck
theorem sim_asInt {u v:Value} (h:VR F r u v):Sim P F L (fun _ a b=>b=a) (asInt u) (asInt v) r:=by
 refine sim_bind (sim_asIntOf h) ?_
 rintro s _ x - rfl
 exact sim_pure rfl
theorem sim_asBool {u v:Value} (h:VR F r u v):Sim P F L (fun _ a b=>b=a) (asBool u) (asBool v) r:=by
 have:=h.out
 cases u <;> simp only [VStep] at this
 case bool b=>subst this;exact sim_pure rfl
 all_goals exact sim_stuck
theorem sim_asAgg {u v:Value} (h:VR F r u v):Sim P F L (fun t a b=>ArR (VR F t) a b) (asAgg u) (asAgg v) r:=by
 have:=h.out
 cases u <;> simp only [VStep] at this
 case agg c=>obtain ⟨c',rfl,hc⟩:=this;exact sim_pure hc
 all_goals exact sim_stuck
theorem sim_asAddr {u v:Value} (h:VR F r u v):Sim P F L (fun t a b=>AR t a b) (asAddr u) (asAddr v) r:=by
 have:=h.out
 cases u <;> simp only [VStep] at this
 case pointer a=>
  obtain ⟨b,rfl,hb⟩:=this
  cases a <;> cases b <;> simp only [OpR] at hb
  · exact sim_dies (show Dies P (runtimePanic .nilDeref:Sem Addr) from dies_panic _)
  · exact sim_pure hb
 all_goals exact sim_stuck
theorem sim_sureAddr {u v:Value} (h:VR F r u v):Sim P F L (fun t a b=>AR t a b) (Instr.sureAddr u) (Instr.sureAddr v) r:=by
 have:=h.out
 cases u <;> simp only [VStep] at this
 case pointer a=>
  obtain ⟨b,rfl,hb⟩:=this
  cases a <;> cases b <;> simp only [OpR] at hb
  · exact sim_stuck
  · exact sim_pure hb
 all_goals exact sim_stuck
theorem sim_loadAt {u v:Value} (h:VR F r u v) (t:TypeId):Sim P F L (VR F) (Instr.loadAt t u) (Instr.loadAt t v) r:=
 sim_bind (sim_sureAddr h) fun _ _ _ _ ha=>sim_loadVar ha t
theorem sim_storeAt {u v x y:Value} (h:VR F r u v) (hx:VR F r x y) (t:TypeId):Sim P F L (fun _ _ _=>True) (Instr.storeAt t u x) (Instr.storeAt t v y) r:=
 sim_bind (sim_sureAddr h) fun _ _ _ hle ha=>sim_storeVar ha t (hx.mono hle)
theorem sim_box {u v:Value} (h:VR F r u v) (t:TypeId):Sim P F L (VR F) (Instr.box t u) (Instr.box t v) r:=
 sim_bind (sim_newVar t h) fun _ _ _ _ ha=>sim_pure (VR.ptr ha.1)
theorem sim_alloc {t:TypeId} (hz:zeroFine P t=true):Sim P F L (VR F) (Instr.alloc t true (.tuple #[])) (Instr.alloc t true (.tuple #[])) r:=by
 refine sim_bind (sim_zeroValue hz) ?_
 rintro s _ z - ⟨rfl,hz⟩
 exact sim_bind (sim_newVar t (VR.plain hz)) fun _ _ _ _ ha=>sim_pure (VR.ptr ha.1)
def fieldFine (P:Program) (s:TypeId) (k:Nat):Bool:=match P.underlying s with
 | some (.struct fields)=>(match fields[k]? with
  | some f=>(match P.info? f.type with | some i=>i.size != 0 | none=>true)
  | none=>true)
 | _=>true
theorem sim_fieldAt {u v:Value} (h:VR F r u v) {s:TypeId} {k:Nat} (hf:fieldFine P s k=true):Sim P F L (VR F) (Instr.fieldAt s u k) (Instr.fieldAt s v k) r:=by
 refine sim_bind (sim_underlying s) ?_
 rintro t _ d hle ⟨rfl,hd⟩
 unfold fieldFine at hf
 rw [hd] at hf
 cases d <;> first | exact sim_stuck | skip
 rename_i fields
 dsimp only at hf ⊢
 cases hk:fields[k]? with
 | none=>exact sim_stuck
 | some f=>
  rw [hk] at hf
  dsimp only at hf ⊢
  refine sim_bind (sim_sureAddr (h.mono hle)) ?_
  intro t2 a a' hle2 ha
  refine sim_bind (Q:=fun t a b=>AR t a b) (sim_bind (sim_sizeOf f.type) ?_) fun t3 a b _ hab=>sim_pure (VR.ptr hab)
  rintro t3 _ n hle3 ⟨rfl,i,hi,rfl⟩
  rw [hi] at hf
  have hn:i.size ≠ 0:=by simpa using hf
  rw [if_neg hn,if_neg hn]
  exact sim_pure ((ha.mono hle3).add _)
theorem sim_indexAt {u v x y:Value} (h:VR F r u v) (hx:VR F r x y) (t:TypeId):Sim P F L (VR F) (Instr.indexAt t u x) (Instr.indexAt t v y) r:=by
 unfold Instr.indexAt
 dsimp only
 refine sim_bind (sim_asIntOf hx) ?_
 rintro s _ ⟨k,i⟩ hle rfl
 refine sim_bind (sim_underlying t) ?_
 rintro s2 _ d hle2 ⟨rfl,hd⟩
 have hu:=(h.mono hle).mono hle2
 have fin:∀ (m:String) (s3:Ren) (a a':Option Addr) (len:Nat) (elem:TypeId),OpR (AR s3) a a' → Sim P F L (VR F)
   (underlying t >>= fun d=>match a with
    | some a=>if 0 ≤ i ∧ i < (len:Int) then (sizeOf elem >>= fun n=>pure (Value.pointer (some (a.add (i.toNat * n))))) else if (decide (len ≤ 1) && match d with | TypeDesc.array len elem=>true | x=>false)=true then unsupported (Unsupported.noEntry m) else boundsPanic k i (len:Int) BoundsCode.index
    | none=>boundsPanic k i 0 BoundsCode.index)
   (underlying t >>= fun d=>match a' with
    | some a=>if 0 ≤ i ∧ i < (len:Int) then (sizeOf elem >>= fun n=>pure (Value.pointer (some (a.add (i.toNat * n))))) else if (decide (len ≤ 1) && match d with | TypeDesc.array len elem=>true | x=>false)=true then unsupported (Unsupported.noEntry m) else boundsPanic k i (len:Int) BoundsCode.index
    | none=>boundsPanic k i 0 BoundsCode.index) s3:=by
  intro m s3 a a' len elem ha
  refine sim_bind (sim_underlying t) ?_
  rintro s4 _ d2 hle4 ⟨rfl,-⟩
  cases a <;> cases a' <;> simp only [OpR] at ha
  · exact sim_dies (dies_bounds _ _ _ _)
  ·
   dsimp only
   by_cases hi:0 ≤ i ∧ i < (len:Int)
   ·
    rw [if_pos hi,if_pos hi]
    refine sim_bind (sim_sizeOf elem) ?_
    rintro s5 _ n hle5 ⟨rfl,-⟩
    exact sim_pure (VR.ptr (((ha.mono hle4).mono hle5).add _))
   ·
    rw [if_neg hi,if_neg hi]
    exact sim_dies (dies_ite (dies_unsupported trivial) (dies_bounds _ _ _ _))
 cases d <;> first | exact sim_dies (dies_first (dies_halt trivial)) | skip
 case array len elem=>
  dsimp only
  refine sim_bind (sim_sureAddr hu) ?_
  intro s3 a a' hle3 ha
  exact fin _ s3 (some a) (some a') len elem ha
 case slice elem=>
  have hu':=hu.out
  cases u <;> simp only [VStep] at hu'
  case slice a n c=>
   obtain ⟨a',rfl,ha⟩:=hu'
   exact fin _ s2 a a' n elem ha
  all_goals exact sim_dies (dies_first (dies_halt trivial))
theorem sim_part {c c':Array Value} (h:ArR (VR F r) c c') (t:TypeId) (off:Nat):Sim P F L (VR F) (part t c off) (part t c' off) r:=by
 refine sim_bind (sim_isAgg t) ?_
 rintro s _ b hle rfl
 cases b with
 | true=>
  refine sim_bind (sim_sizeOf t) ?_
  rintro s2 _ n hle2 ⟨rfl,-⟩
  refine sim_pure (VR.agg ⟨by simp [h.1],fun i x y hx hy=>?_⟩)
  rw [Array.getElem?_extract] at hx hy
  split at hx
  ·
   rename_i e
   rw [h.1,if_pos e] at hy
   exact ((h.2 _ _ _ hx hy).mono hle).mono hle2
  · cases hx
 | false=>
  rw [if_neg (by simp),if_neg (by simp)]
  cases hx:c[off]? with
  | none=>exact sim_stuck
  | some x=>
   have hl:off < c'.size:=by rw [h.1];exact getElem?_lt hx
   rw [Array.getElem?_eq_getElem hl]
   exact sim_pure ((h.2 _ _ _ hx (Array.getElem?_eq_getElem hl)).mono hle)
theorem sim_field {u v:Value} (h:VR F r u v) (s:TypeId) (k:Nat):Sim P F L (VR F) (Instr.field s u k) (Instr.field s v k) r:=by
 refine sim_bind (sim_underlying s) ?_
 rintro t _ d hle ⟨rfl,hd⟩
 cases d <;> first | exact sim_stuck | skip
 rename_i fields
 dsimp only
 cases hk:fields[k]? with
 | none=>exact sim_stuck
 | some f=>exact sim_bind (sim_asAgg (h.mono hle)) fun _ _ _ _ hc=>sim_part hc _ _
theorem sim_extract {u v:Value} (h:VR F r u v) (k:Nat):Sim P F L (VR F) (Instr.extract u k) (Instr.extract v k) r:=by
 have:=h.out
 cases u <;> simp only [VStep] at this
 case tuple c=>
  obtain ⟨c',rfl,hc⟩:=this
  unfold Instr.extract
  dsimp only
  cases hx:c[k]? with
  | none=>exact sim_stuck
  | some x=>
   have hl:k < c'.size:=by rw [hc.1];exact getElem?_lt hx
   rw [Array.getElem?_eq_getElem hl]
   exact sim_pure (hc.2 _ _ _ hx (Array.getElem?_eq_getElem hl))
 all_goals exact sim_stuck
theorem sim_makeInterface {u v:Value} (h:VR F r u v) (t:TypeId):Sim P F L (VR F) (Instr.makeInterface t u) (Instr.makeInterface t v) r:=by
 refine sim_bind (sim_underlying t) ?_
 rintro s _ d hle ⟨rfl,hd⟩
 cases d <;> first | exact sim_stuck | exact sim_pure (VR.make ⟨_,rfl,h.mono hle⟩)
theorem sim_sliceBound {u v:Value} (h:VR F r u v) (n:Nat) (c:BoundsCode):Sim P F L (fun _ a b=>b=a) (Instr.sliceBound u n c) (Instr.sliceBound v n c) r:=by
 refine sim_bind (sim_asIntOf h) ?_
 rintro s _ ⟨k,i⟩ hle rfl
 dsimp only
 split
 · exact sim_pure rfl
 · exact sim_dies (dies_bounds _ _ _ _)
def lowOf (lo:Option Value) (m h:Nat) (c:BoundsCode):Sem (Nat × Nat × Nat):=match lo with
 | some v=>Instr.sliceBound v h c >>= fun l=>pure (l,h,m)
 | none=>pure 0 >>= fun l=>pure (l,h,m)
theorem sim_lowOf {lo lo':Option Value} (h1:OpR (VR F r) lo lo') (m h:Nat) (c:BoundsCode):Sim P F L (fun _ a b=>b=a) (lowOf lo m h c) (lowOf lo' m h c) r:=by
 cases lo <;> cases lo' <;> simp only [OpR] at h1
 · exact sim_pure rfl
 ·
  refine sim_bind (sim_sliceBound h1 h c) ?_
  rintro s2 _ l - rfl
  exact sim_pure rfl
theorem sim_sliceBounds {lo hi mx lo' hi' mx':Option Value} (h1:OpR (VR F r) lo lo') (h2:OpR (VR F r) hi hi') (h3:OpR (VR F r) mx mx') (b:Bool) (n k:Nat):Sim P F L (fun _ a b=>b=a) (Instr.sliceBounds b n k lo hi mx) (Instr.sliceBounds b n k lo' hi' mx') r:=by
 have low:∀ s,r.Le s → OpR (VR F s) lo lo':=fun s hle=>h1.mono fun _ _=>VR.mono hle
 cases mx <;> cases mx' <;> simp only [OpR] at h3
 ·
  cases hi <;> cases hi' <;> simp only [OpR] at h2
  · exact sim_lowOf h1 k n _
  ·
   refine sim_bind (f:=fun h=>lowOf lo k h _) (f':=fun h=>lowOf lo' k h _) (sim_sliceBound h2 k _) ?_
   rintro s2 _ h hle2 rfl
   exact sim_lowOf (low s2 hle2) k h _
 ·
  cases hi <;> cases hi' <;> simp only [OpR] at h2
  ·
   refine sim_bind (sim_sliceBound h3 k _) ?_
   rintro s _ m hle rfl
   exact sim_dies (dies_first (dies_halt trivial))
  ·
   refine sim_bind (sim_sliceBound h3 k _) ?_
   rintro s _ m hle rfl
   refine sim_bind (f:=fun h=>lowOf lo m h _) (f':=fun h=>lowOf lo' m h _) (sim_sliceBound (h2.mono hle) m _) ?_
   rintro s2 _ h hle2 rfl
   exact sim_lowOf (low s2 (hle.trans hle2)) m h _
theorem OpR.add {a a':Option Addr} (h:OpR (AR r) a a') (n:Nat):OpR (AR r) (a.map (·.add n)) (a'.map (·.add n)):=by
 cases a <;> cases a' <;> simp only [OpR] at h ⊢
 · exact trivial
 · exact AR.add h n
theorem sim_slice {u v:Value} (h:VR F r u v) {lo hi mx lo' hi' mx':Option Value} (h1:OpR (VR F r) lo lo') (h2:OpR (VR F r) hi hi') (h3:OpR (VR F r) mx mx') (t:TypeId):Sim P F L (VR F) (Instr.slice t u lo hi mx) (Instr.slice t v lo' hi' mx') r:=by
 unfold Instr.slice
 dsimp only
 refine sim_bind (sim_underlying t) ?_
 rintro s _ d hle ⟨rfl,hd⟩
 have g1:=h1.mono fun _ _=>VR.mono hle
 have g2:=h2.mono fun _ _=>VR.mono hle
 have g3:=h3.mono fun _ _=>VR.mono hle
 have hu:=h.mono hle
 have hu':=hu.out
 cases d <;> first | exact sim_stuck | skip
 case string=>
  cases u <;> simp only [VStep] at hu' <;> first | exact sim_stuck | skip
  case string b=>
   subst hu'
   dsimp only
   have hm:mx'.isSome=mx.isSome:=by cases mx <;> cases mx' <;> simp_all [OpR]
   rw [hm]
   split
   · exact sim_dies (dies_first (dies_halt trivial))
   ·
    refine sim_bind (sim_sliceBounds g1 g2 (mx:=none) (mx':=none) trivial false b.size b.size) ?_
    rintro s2 _ x - rfl
    exact sim_pure (VR.plain (n:=0) rfl)
 case slice elem=>
  cases u <;> simp only [VStep] at hu' <;> first | exact sim_stuck | skip
  case slice a n c=>
   obtain ⟨a',rfl,ha⟩:=hu'
   dsimp only
   refine sim_bind (sim_sliceBounds g1 g2 g3 true n c) ?_
   rintro s2 _ ⟨l,h,m⟩ hle2 rfl
   refine sim_bind (sim_sizeOf elem) ?_
   rintro s3 _ z hle3 ⟨rfl,-⟩
   dsimp only
   refine sim_pure (VR.make ?_)
   have ha2:=(ha.mono fun _ _=>AR.mono hle2).mono fun _ _=>AR.mono hle3
   split
   · exact ⟨_,rfl,ha2⟩
   · exact ⟨_,rfl,ha2.add _⟩
 case pointer arr=>
  dsimp only
  refine sim_bind (sim_asAddr hu) ?_
  intro s2 a a' hle2 ha
  refine sim_bind (sim_underlying arr) ?_
  rintro s3 _ d hle3 ⟨rfl,-⟩
  cases d <;> first | exact sim_stuck | skip
  case array n elem=>
   dsimp only
   refine sim_bind (sim_sliceBounds (g1.mono fun _ _=>VR.mono (hle2.trans hle3)) (g2.mono fun _ _=>VR.mono (hle2.trans hle3)) (g3.mono fun _ _=>VR.mono (hle2.trans hle3)) false n n) ?_
   rintro s4 _ ⟨l,h,m⟩ hle4 rfl
   refine sim_bind (sim_sizeOf elem) ?_
   rintro s5 _ z hle5 ⟨rfl,-⟩
   dsimp only
   have ha2:=ha.mono (hle3.trans (hle4.trans hle5))
   refine sim_pure (VR.make ⟨_,rfl,?_⟩)
   show AR _ _ _
   split
   · exact ha2
   · exact ha2.add _
theorem sim_sliceAt {u v:Value} (h:VR F r u v) {lo hi mx lo' hi' mx':Option Value} (h1:OpR (VR F r) lo lo') (h2:OpR (VR F r) hi hi') (h3:OpR (VR F r) mx mx') (t:TypeId):Sim P F L (VR F) (Instr.sliceAt t u lo hi mx) (Instr.sliceAt t v lo' hi' mx') r:=by
 unfold Instr.sliceAt
 dsimp only
 refine sim_bind (sim_underlying t) ?_
 rintro s _ d hle ⟨rfl,hd⟩
 have g1:=h1.mono fun _ _=>VR.mono hle
 have g2:=h2.mono fun _ _=>VR.mono hle
 have g3:=h3.mono fun _ _=>VR.mono hle
 cases d <;> first | exact sim_slice (h.mono hle) g1 g2 g3 t | skip
 case array n elem=>
  dsimp only
  refine sim_bind (sim_sureAddr (h.mono hle)) ?_
  intro s2 a a' hle2 ha
  refine sim_bind (sim_sliceBounds (g1.mono fun _ _=>VR.mono hle2) (g2.mono fun _ _=>VR.mono hle2) (g3.mono fun _ _=>VR.mono hle2) false n n) ?_
  rintro s4 _ ⟨l,h,m⟩ hle4 rfl
  refine sim_bind (sim_sizeOf elem) ?_
  rintro s5 _ z hle5 ⟨rfl,-⟩
  dsimp only
  have ha2:=ha.mono (hle4.trans hle5)
  refine sim_pure (VR.make ⟨_,rfl,?_⟩)
  show AR _ _ _
  split
  · exact ha2
  · exact ha2.add _
end
section
variable {α β γ δ:Type} {P:Program} {F:Nat → Prop} {L:Nat} {r:Ren}
theorem cellAtBytes_more {p:Program} {d:Nat} {e:TypeId} {n m off:Nat} {b:Int} {o:Nat} (h:cellAtBytes p d e n off b=some o) (hnm:n ≤ m):cellAtBytes p d e m off b=some o:=by
 unfold cellAtBytes at h ⊢
 simp only [bind,Option.bind] at h ⊢
 split at h
 · cases h
 ·
  rename_i h1
  rw [if_neg h1]
  cases hb:byteOfCell p d e (off % p.cellsOf e) with
  | none=>rw [hb] at h;cases h
  | some x=>
   rw [hb] at h
   dsimp only at h ⊢
   have hle:n * p.bytesOf e ≤ m * p.bytesOf e:=Nat.mul_le_mul_right _ hnm
   split at h
   · cases h
   ·
    rename_i h2
    rw [if_neg]
    · exact h
    ·
     simp only [Bool.or_eq_true,decide_eq_true_eq,not_or] at h2 ⊢
     refine ⟨h2.1,fun h3=>h2.2 ?_⟩
     have h4:((n * p.bytesOf e:Nat):Int) ≤ ((m * p.bytesOf e:Nat):Int):=by exact_mod_cast hle
     exact Int.le_trans h4 h3
theorem ShR.some {a b:Option (TypeId × Nat)} (h:ShR a b):b.isSome=a.isSome:=by
 rcases h with ⟨rfl,rfl⟩ | ⟨e,n,m,rfl,rfl,-⟩ <;> rfl
theorem sim_viewAt {x y:Nat} (h:r.rel x y):Sim P F L (fun _ a b=>a=none ∧ b=none) (viewAt x) (viewAt y) r:=by
 unfold viewAt
 refine sim_bind (sim_shape h) ?_
 intro s o o1 hle ho1
 rw [ho1.some]
 split
 · exact sim_pure ⟨rfl,rfl⟩
 ·
  refine sim_bind (sim_getObj (hle _ _ h)) ?_
  rintro s2 o o' - ⟨ho,-⟩
  cases o <;> simp only [ObR] at ho
  · obtain ⟨_,_,rfl,-⟩:=ho;exact sim_pure ⟨rfl,rfl⟩
  · obtain ⟨_,rfl,-⟩:=ho;exact sim_pure ⟨rfl,rfl⟩
  · obtain ⟨_,rfl,-⟩:=ho;exact sim_pure ⟨rfl,rfl⟩
theorem sim_noView {a a':Addr} (h:AR r a a'):Sim P F L (fun _ _ _=>True) (noView a) (noView a') r:=by
 unfold noView
 refine sim_bind (sim_viewAt h.1) ?_
 rintro s _ _ - ⟨rfl,rfl⟩
 exact sim_pure trivial
theorem sim_numberAt {x y:Nat} (h:r.rel x y):Sim P F L (fun t a b=>OpR (fun p q=>AR t p.1 q.1 ∧ q.2=p.2) a b) (numberAt x) (numberAt y) r:=by
 unfold numberAt
 refine sim_bind (sim_shape h) ?_
 intro s o o1 hle ho1
 rw [ho1.some]
 split
 · exact sim_pure trivial
 ·
  refine sim_bind (sim_getObj (hle _ _ h)) ?_
  rintro s2 o o' - ⟨ho,-⟩
  cases o <;> simp only [ObR] at ho
  · obtain ⟨_,_,rfl,-⟩:=ho;exact sim_pure trivial
  · obtain ⟨_,rfl,h2⟩:=ho;exact sim_pure ⟨h2,rfl⟩
  · obtain ⟨_,rfl,-⟩:=ho;exact sim_pure trivial
theorem sim_behind {a a':Addr} (h:AR r a a'):Sim P F L (fun t p q=>AR t p.1 q.1 ∧ q.2=p.2) (behindNumber a) (behindNumber a') r:=by
 refine sim_bind (sim_numberAt h.1) ?_
 intro s o o' hle ho
 cases o <;> cases o' <;> simp only [OpR] at ho
 · exact sim_pure ⟨h.mono hle,rfl⟩
 · exact sim_pure ho
theorem sim_asNumber {a a':Addr} (h:AR r a a') (l:Bool):Sim P F L (VR F) (asNumber a l) (asNumber a' l) r:=by
 refine sim_bind (sim_newObj (o:=.number a l) (o':=.number a' l) ⟨_,rfl,h⟩) ?_
 rintro s x y - ⟨h1,-⟩
 exact sim_pure (VR.ptr ⟨h1,rfl,rfl⟩)
theorem sim_byteOf {a a':Addr} (h:AR r a a'):Sim P F L (fun _ a b=>b=a) (byteOf a) (byteOf a') r:=by
 unfold byteOf
 dsimp only
 obtain ⟨h1,h2,h3⟩:=h
 rw [h3]
 cases hs:a.spot with
 | some n=>exact sim_pure rfl
 | none=>
  refine sim_program ?_
  refine sim_bind (sim_noView ⟨h1,h2,h3⟩) ?_
  intro s _ _ hle _
  refine sim_bind (sim_shape (hle _ _ h1)) ?_
  intro s2 o o1 hle2 ho1
  rcases ho1 with ⟨rfl,rfl⟩ | ⟨e,n,m,rfl,rfl,-⟩
  · exact sim_stuck
  ·
   dsimp only
   rw [h2]
   split
   · exact sim_pure rfl
   ·
    split
    · exact sim_pure rfl
    · exact sim_stuck
theorem sim_unsafeAdd {u v x y:Value} (h:VR F r u v) (hx:VR F r x y) (t:TypeId):Sim P F L (VR F) (Builtin.unsafeAdd_ #[] t #[u,x]) (Builtin.unsafeAdd_ #[] t #[v,y]) r:=by
 have:=h.out
 cases u <;> simp only [VStep] at this
 case pointer a=>
  obtain ⟨a',rfl,ha⟩:=this
  show Sim P F L (VR F) (asInt x >>= _) (asInt y >>= _) r
  refine sim_bind (sim_asInt hx) ?_
  rintro s _ n hle rfl
  dsimp only
  have ha2:=ha.mono fun _ _=>AR.mono hle
  by_cases h0:n=0
  ·
   rw [if_pos h0,if_pos h0]
   cases a <;> cases a' <;> simp only [OpR] at ha2
   · exact sim_dies (dies_unsupported trivial)
   ·
    dsimp only
    refine sim_bind (sim_viewAt ha2.1) ?_
    rintro s2 _ _ hle2 ⟨rfl,rfl⟩
    exact sim_pure (VR.ptr (AR.mono hle2 ha2))
  ·
   rw [if_neg h0,if_neg h0]
   by_cases h1:n < 0
   ·
    rw [if_pos h1,if_pos h1]
    exact sim_dies (dies_first (dies_unsupported trivial))
   ·
    rw [if_neg h1,if_neg h1]
    cases a <;> cases a' <;> simp only [OpR] at ha2
    · exact sim_dies (dies_unsupported trivial)
    ·
     dsimp only
     refine sim_bind (sim_shape ha2.1) ?_
     intro s2 o o1 hle2 ho1
     rcases ho1 with ⟨rfl,rfl⟩ | ⟨e,n1,m1,rfl,rfl,hnm⟩
     · exact sim_dies (dies_unsupported trivial)
     ·
      dsimp only
      refine sim_program ?_
      rw [ha2.2.1]
      split
      ·
       rename_i off hoff
       rw [cellAtBytes_more hoff (Nat.div_le_div_right hnm)]
       exact sim_pure (VR.ptr ⟨hle2 _ _ ha2.1,rfl,ha2.2.2⟩)
      · exact sim_dies (dies_unsupported trivial)
 all_goals exact sim_stuck
def movedEnd (l:Bool) (d:Value):Sem Value:=match d with
 | .pointer (some b)=>asNumber b l
 | v=>pure v
def movedTail (t:TypeId) (u x:Value):Sem Value:=match u with
 | .pointer (some n)=>behindNumber n >>= fun p=>Builtin.unsafeAdd_ #[] t #[.pointer (some p.1),x] >>= fun d=>movedEnd p.2 d
 | _=>Builtin.unsafeAdd_ #[] t #[u,x]
theorem sim_movedEnd {p q:Value} (h:VR F r p q) (l:Bool):Sim P F L (VR F) (movedEnd l p) (movedEnd l q) r:=by
 have h3:=h.out
 cases p <;> simp only [VStep] at h3
 case pointer c=>
  obtain ⟨c',rfl,hc⟩:=h3
  cases c <;> cases c' <;> simp only [OpR] at hc
  · exact sim_pure h
  · exact sim_asNumber hc _
 case slice=>obtain ⟨_,rfl,-⟩:=h3;exact sim_pure h
 case map=>obtain ⟨_,rfl,-⟩:=h3;exact sim_pure h
 case func=>obtain ⟨_,_,rfl,-⟩:=h3;exact sim_pure h
 case iface=>obtain ⟨_,rfl,-⟩:=h3;exact sim_pure h
 case agg=>obtain ⟨_,rfl,-⟩:=h3;exact sim_pure h
 case tuple=>obtain ⟨_,rfl,-⟩:=h3;exact sim_pure h
 all_goals (subst h3;exact sim_pure h)
theorem sim_movedTail {u v x y:Value} (h:VR F r u v) (hx:VR F r x y) (t:TypeId):Sim P F L (VR F) (movedTail t u x) (movedTail t v y) r:=by
 have hs:=h.out
 cases u <;> simp only [VStep] at hs
 case pointer a=>
  obtain ⟨a',rfl,ha⟩:=hs
  cases a <;> cases a' <;> simp only [OpR] at ha
  · exact sim_unsafeAdd h hx t
  ·
   refine sim_bind (sim_behind ha) ?_
   rintro s2 ⟨b,l⟩ ⟨b',l'⟩ hle2 ⟨hb,rfl⟩
   refine sim_bind (sim_unsafeAdd (VR.ptr hb) (hx.mono hle2) t) ?_
   intro s3 p q _ hpq
   exact sim_movedEnd hpq _
 case slice=>obtain ⟨_,rfl,-⟩:=hs;exact sim_unsafeAdd h hx t
 case map=>obtain ⟨_,rfl,-⟩:=hs;exact sim_unsafeAdd h hx t
 case func=>obtain ⟨_,_,rfl,-⟩:=hs;exact sim_unsafeAdd h hx t
 case iface=>obtain ⟨_,rfl,-⟩:=hs;exact sim_unsafeAdd h hx t
 case agg=>obtain ⟨_,rfl,-⟩:=hs;exact sim_unsafeAdd h hx t
 case tuple=>obtain ⟨_,rfl,-⟩:=hs;exact sim_unsafeAdd h hx t
 all_goals (subst hs;exact sim_unsafeAdd h hx t)
theorem sim_movedNumber {u v x y:Value} (h:VR F r u v) (hx:VR F r x y) (t:TypeId):Sim P F L (VR F) (movedNumber t u x) (movedNumber t v y) r:=by
 unfold movedNumber
 dsimp only
 refine sim_bind (sim_underlying t) ?_
 rintro s _ d hle ⟨rfl,-⟩
 have rest:=sim_movedTail (P:=P) (L:=L) (h.mono hle) (hx.mono hle) t
 cases d <;> first | exact sim_dies (dies_first (dies_unsupported trivial)) | exact rest
theorem sim_twoPlaces {a a' b b':Addr} (hG:P.globals.size ≤ L) (ha:AR r a a') (hb:AR r b b'):Sim P F L (fun _ p q=>q=p) (Op.twoPlaces a b) (Op.twoPlaces a' b') r:=fun w w' hw=>by
 have e1:(a'.block != b'.block)=(a.block != b.block):=by
  by_cases e:a.block=b.block
  ·
   have e':a'.block=b'.block:=r.fn _ _ _ ha.1 (e ▸ hb.1)
   rw [e,e',bne_self_eq_false,bne_self_eq_false]
  ·
   have e':a'.block ≠ b'.block:=fun h=>e (r.inj _ _ _ (h ▸ ha.1) hb.1)
   rw [bne_iff_ne.2 e,bne_iff_ne.2 e']
 have e2:decide (a'.block ≥ P.globals.size)=decide (a.block ≥ P.globals.size):=by
  rcases Nat.lt_or_ge a.block L with hl | hl
  · rw [hw.base _ _ ha.1 hl]
  ·
   have:=hw.high _ _ ha.1 hl
   rw [decide_eq_true (show a'.block ≥ P.globals.size by omega),decide_eq_true (show a.block ≥ P.globals.size by omega)]
 refine (show Sim P F L (fun _ p q=>q=p) (Op.twoPlaces a b) (Op.twoPlaces a' b') r from ?_) w w' hw
 unfold Op.twoPlaces
 dsimp only
 refine sim_program ?_
 rw [e1,e2]
 split
 · exact sim_dies (dies_first (dies_unsupported trivial))
 ·
  refine sim_bind (sim_byteOf ha) ?_
  rintro s _ n hle rfl
  refine sim_bind (sim_byteOf (hb.mono hle)) ?_
  rintro s2 _ m - rfl
  exact sim_pure rfl
theorem sim_addrMod {a a':Addr} (ha:AR r a a') (k:IntKind) (n:Int):Sim P F L (VR F) (Op.addrMod k a n) (Op.addrMod k a' n) r:=by
 unfold Op.addrMod
 dsimp only
 refine sim_bind (sim_shape ha.1) ?_
 intro s o o1 hle ho1
 rcases ho1 with ⟨rfl,rfl⟩ | ⟨e,n1,m1,rfl,rfl,-⟩
 · exact sim_dies (dies_unsupported trivial)
 ·
  dsimp only
  refine sim_bind (sim_typeInfo e) ?_
  rintro s2 _ i hle2 ⟨rfl,-⟩
  split
  · exact sim_dies (dies_first (dies_unsupported trivial))
  ·
   refine sim_bind (sim_byteOf ((ha.mono hle).mono hle2)) ?_
   rintro s3 _ m - rfl
   exact sim_pure (VR.int _ _)
end
end Go.Proofs.YtbokomeejmnnoaaDoor
