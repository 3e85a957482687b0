/- Own facts, put together: no statement of its own. -/
import Derived.Test.YtbokomeejmnnoaaDoorD12

namespace Go.Proofs.YtbokomeejmnnoaaDoor
section
variable {α β γ δ:Type} {P:Program} {F:Nat → Prop} {L:Nat} {r:Ren}
def EndsP {α:Type} (P:Program) (s:Sem α):Prop:=∀ w,(∃ a w1,s.run P w=.ok a w1) ∨ ∃ h w1,s.run P w=.halt h w1 ∧ Mild h
theorem ends_pure (a:α):EndsP P (pure a:Sem α):=fun w=>.inl ⟨a,w,rfl⟩
theorem ends_bind {s:Sem α} {f:α → Sem β} (h:EndsP P s) (hf:∀ a,EndsP P (f a)):EndsP P (s >>= f):=fun w=>by
 rcases h w with ⟨a,w1,h1⟩ | ⟨x,w1,h1,hm⟩
 ·
  rcases hf a w1 with ⟨b,w2,h2⟩ | ⟨x,w2,h2,hm⟩
  · exact .inl ⟨b,w2,by simp [h1,h2]⟩
  · exact .inr ⟨x,w2,by simp [h1,h2],hm⟩
 · exact .inr ⟨x,w1,by simp [h1],hm⟩
theorem ends_dies {s:Sem α} (h:Dies P s):EndsP P s:=fun w=>.inr (h w)
theorem ends_shape (x:Nat):EndsP P (Go.shape x):=fun w=>.inl ⟨_,w,rfl⟩
theorem ends_frozen (a:Addr):EndsP P (frozen a):=fun w=>.inl ⟨_,w,rfl⟩
theorem ends_mark (m:Mark):EndsP P (mark m):=fun w=>.inl ⟨_,w,rfl⟩
theorem ends_ite {c:Prop} [Decidable c] {s t:Sem α} (h:EndsP P s) (h':EndsP P t):EndsP P (if c then s else t):=by
 split
 · exact h
 · exact h'
theorem sim_intToInt (k:IntKind) (n:Int):Sim P F L (VR F) (Conv.intToInt k n) (Conv.intToInt k n) r:=sim_pure (VR.int _ _)
def convFine (P:Program) (src dst:TypeId):Bool:=(match P.underlying src with | some (.int _)=>true | _=>false) && (match P.underlying dst with | some (.int _)=>true | _=>false)
theorem sim_convert {src dst:TypeId} (hf:convFine P src dst=true) {u v:Value} (h:VR F r u v):Sim P F L (VR F) (convert src dst u) (convert src dst v) r:=by
 unfold convFine at hf
 rw [Bool.and_eq_true] at hf
 obtain ⟨h1,h2⟩:=hf
 have e1:∃ k,P.underlying src=some (.int k):=by
  split at h1
  · exact ⟨_,by assumption⟩
  · cases h1
 have e2:∃ k,P.underlying dst=some (.int k):=by
  split at h2
  · exact ⟨_,by assumption⟩
  · cases h2
 obtain ⟨k1,e1⟩:=e1
 obtain ⟨k2,e2⟩:=e2
 unfold convert
 refine sim_under e1 (sim_under e2 ?_)
 have h3:=h.out
 cases u <;> simp only [VStep] at h3
 case int k n=>subst h3;exact sim_intToInt _ _
 case pointer a=>cases a <;> first | exact sim_dies (dies_unsupported (u:=.addressObserved) trivial) | exact sim_dies (dies_unsupported (u:=.noEntry _) trivial)
 all_goals exact sim_dies (dies_unsupported (u:=.noEntry _) trivial)
theorem sim_askRoom (n:Nat):Sim P F L (fun _ _ _=>True) (askRoom n) (askRoom n) r:=by
 unfold askRoom
 exact sim_ite (fun _=>sim_noRoom) fun _=>sim_pure trivial
def elemFine (P:Program) (t:TypeId):Bool:=match P.underlying t with
 | some (.slice e)=>zeroFine P e
 | _=>true
theorem sim_makeSlice {t:TypeId} (hf:elemFine P t=true) {u v x y:Value} (h:VR F r u v) (hx:VR F r x y):Sim P F L (VR F) (Instr.makeSlice t u x) (Instr.makeSlice t v y) r:=by
 unfold Instr.makeSlice
 dsimp only
 refine sim_bind (sim_underlying t) ?_
 rintro s _ d hle ⟨rfl,hd⟩
 unfold elemFine at hf
 rw [hd] at hf
 cases d <;> first | exact sim_stuck | skip
 rename_i e
 dsimp only at hf ⊢
 refine sim_bind (sim_asInt (h.mono hle)) ?_
 rintro s2 _ len hle2 rfl
 refine sim_bind (sim_asInt (hx.mono (hle.trans hle2))) ?_
 rintro s3 _ cap hle3 rfl
 refine sim_bind (sim_typeInfo e) ?_
 rintro s4 _ i hle4 ⟨rfl,-⟩
 refine sim_ite (fun _=>sim_dies ?_) fun _=>?_
 ·
  refine dies_ite (dies_first (dies_panic _)) (dies_ite (dies_first (dies_panic _)) ?_)
  exact dies_bind (fun w=>.inl ⟨_,_,rfl⟩) fun b=>dies_first (dies_panic _)
 ·
  refine sim_bind (sim_askRoom _) ?_
  intro s5 _ _ hle5 _
  refine sim_bind (sim_sizeOf e) ?_
  rintro s6 _ n hle6 ⟨rfl,-⟩
  have fin:∀ (s7:Ren) (z:Array Value) (m:Nat),(∀ x ∈ z,plainV 8 x=true) → Sim P F L (VR F) (newRow e ((Array.range m).map (z[· % z.size]!)) >>= fun a=>pure (.slice (some a) (IntKind.i64.wrap len).toNat (IntKind.i64.wrap cap).toNat)) (newRow e ((Array.range m).map (z[· % z.size]!)) >>= fun a=>pure (.slice (some a) (IntKind.i64.wrap len).toNat (IntKind.i64.wrap cap).toNat)) s7:=fun s7 z m hz=>
   sim_bind (sim_newRow e (ArR.map_range hz)) fun _ _ _ _ ha=>sim_pure (VR.slc ha.1 _ _)
  refine sim_ite (fun _=>fin s6 #[] _ (by simp)) fun _=>?_
  refine sim_bind (sim_zeroValue hf) ?_
  rintro s7 _ z hle7 ⟨rfl,hz⟩
  exact fin s7 z.cells _ (plain_cells hz)
theorem opArr_or {s:Ren} {A B:Option (Array Value)} (h:OpR (ArR (VR F s)) A B):(A=none ∧ B=none) ∨ ∃ a b,A=some a ∧ B=some b ∧ ArR (VR F s) a b:=by
 cases A <;> cases B <;> first | exact .inl ⟨rfl,rfl⟩ | exact h.elim | exact .inr ⟨_,_,rfl,rfl,h⟩
theorem sim_buildSlice {t:TypeId} (hf:elemFine P t=true) (len:Nat) {l l':Array (Nat × Value)} (hl:l'.size=l.size) (hx:∀ (j:Nat) x y,l[j]? = some x → l'[j]? = some y → y.1=x.1 ∧ VR F r x.2 y.2) :
  Sim P F L (VR F) (Instr.buildSlice t len l) (Instr.buildSlice t len l') r:=by
 unfold Instr.buildSlice
 dsimp only
 refine sim_bind (sim_underlying t) ?_
 rintro s _ d hle ⟨rfl,hd⟩
 unfold elemFine at hf
 rw [hd] at hf
 cases d <;> first | exact sim_stuck | skip
 rename_i e
 dsimp only at hf ⊢
 refine sim_bind (sim_sizeOf e) ?_
 rintro s2 _ n hle2 ⟨rfl,-⟩
 refine sim_ite (fun _=>sim_dies (dies_first (dies_unsupported trivial))) fun _=>?_
 have fill:∀ (s3:Ren) (z:Array Value),r.Le s3 → (∀ x ∈ z,plainV 8 x=true) → OpR (ArR (VR F s3)) (Instr.fill (fun i=>some (i * n,n)) ((Array.range (len * n)).map (z[· % z.size]!)) l.toList) (Instr.fill (fun i=>some (i * n,n)) ((Array.range (len * n)).map (z[· % z.size]!)) l'.toList):=fun s3 z h3 hz=>
  fill_rel _ l.toList l'.toList _ _ (ArR.map_range hz) (by simp [hl]) fun j x y h1 h2=>by
   obtain ⟨e,h4⟩:=hx j x y (by simpa using h1) (by simpa using h2)
   exact ⟨e,h4.mono h3⟩
 refine sim_ite (fun _=>?_) fun _=>?_
 ·
  rcases opArr_or (fill s2 #[] (hle.trans hle2) (by simp)) with ⟨e1,e2⟩ | ⟨a,b,e1,e2,hab⟩
  ·
   refine sim_bind (sim_pure (Q:=fun _ a b=>a = #[] ∧ b = #[]) ⟨rfl,rfl⟩) ?_
   rintro s3 _ _ - ⟨rfl,rfl⟩
   rw [e1,e2]
   exact sim_stuck
  ·
   refine sim_bind (sim_pure (Q:=fun _ a b=>a = #[] ∧ b = #[]) ⟨rfl,rfl⟩) ?_
   rintro s3 _ _ hle3 ⟨rfl,rfl⟩
   rw [e1,e2]
   exact sim_bind (sim_newRow e (hab.mono fun _ _=>VR.mono hle3)) fun _ _ _ _ ha=>sim_pure (VR.slc ha.1 _ _)
 ·
  refine sim_bind (sim_zeroValue hf) ?_
  rintro s3 _ z hle3 ⟨rfl,hz⟩
  refine sim_bind (sim_pure (Q:=fun _ a b=>a=z.cells ∧ b=z.cells) ⟨rfl,rfl⟩) ?_
  rintro s4 _ _ hle4 ⟨rfl,rfl⟩
  rcases opArr_or (fill s4 z.cells (hle.trans (hle2.trans (hle3.trans hle4))) (plain_cells hz)) with ⟨e1,e2⟩ | ⟨a,b,e1,e2,hab⟩
  ·
   rw [e1,e2]
   exact sim_stuck
  ·
   rw [e1,e2]
   exact sim_bind (sim_newRow e hab) fun _ _ _ _ ha=>sim_pure (VR.slc ha.1 _ _)
theorem ArR.get' {X:Value → Value → Prop} {a b:Array Value} (h:ArR X a b) (i:Nat):(a[i]? = none ∧ b[i]? = none) ∨ ∃ x y,a[i]? = some x ∧ b[i]? = some y ∧ X x y:=by
 cases hx:a[i]? with
 | none=>
  refine .inl ⟨rfl,?_⟩
  rw [Array.getElem?_eq_none_iff] at hx ⊢
  rw [h.1]
  exact hx
 | some x=>
  have hl:i < b.size:=by rw [h.1];exact getElem?_lt hx
  exact .inr ⟨x,b[i],rfl,Array.getElem?_eq_getElem hl,h.2 _ _ _ hx (Array.getElem?_eq_getElem hl)⟩
theorem sim_lenOf {u v:Value} (h:VR F r u v):Sim P F L (fun _ a b=>b=a) (Builtin.lenOf u) (Builtin.lenOf v) r:=by
 have h3:=h.out
 cases u <;> simp only [VStep] at h3 <;> first | exact sim_stuck | skip
 case slice=>obtain ⟨_,rfl,-⟩:=h3;exact sim_pure rfl
 case string=>subst h3;exact sim_pure rfl
theorem sim_firstCells (size n:Nat) {u v:Value} (h:VR F r u v):Sim P F L (fun t a b=>ArR (VR F t) a b) (Builtin.firstCells size n u) (Builtin.firstCells size n v) r:=by
 have h3:=h.out
 cases u <;> simp only [VStep] at h3 <;> first | exact sim_stuck | skip
 case slice a _ _=>
  obtain ⟨a',rfl,ha⟩:=h3
  cases a <;> cases a' <;> simp only [OpR] at ha
  · exact sim_pure ArR.nil
  · exact sim_loadCells ha _
 case string b=>
  subst h3
  refine sim_pure (ArR.plain (n:=0) fun x hx=>?_)
  obtain ⟨y,-,rfl⟩:=Array.mem_map.1 hx
  rfl
theorem plain_zeroCells {n m:Nat} {z:Array Value} (h:∀ x ∈ z,plainV n x=true):∀ x ∈ Builtin.zeroCells z m,plainV n x=true:=fun x hx=>by
 obtain ⟨i,-,rfl⟩:=Array.mem_map.1 hx
 by_cases e:i % z.size < z.size
 ·
  rw [getElem!_pos z _ e]
  exact h _ (Array.getElem_mem e)
 ·
  rw [getElem!_neg z _ e]
  cases n <;> rfl
theorem ArR.app' {X:Value → Value → Prop} {a b c d:Array Value} (h:ArR X a b) (h':ArR X c d):ArR X (a ++ c) (b ++ d):=by
 refine ⟨by simp [h.1,h'.1],fun i x y h1 h2=>?_⟩
 rw [Array.getElem?_append] at h1 h2
 rw [h.1] at h2
 split at h1
 ·
  rename_i e
  rw [if_pos e] at h2
  exact h.2 i x y h1 h2
 ·
  rename_i e
  rw [if_neg e] at h2
  exact h'.2 _ x y h1 h2
theorem ends_holds (a:Addr) (n:Nat):EndsP P (Builtin.holdsCells a n):=by
 unfold Builtin.holdsCells
 refine ends_bind (ends_shape _) fun o=>?_
 cases o <;> exact ends_pure _
theorem ends_mayShare (a b c:Nat) (base:Option Addr) (x:Value):EndsP P (Builtin.mayShare a b c base x):=by
 have tail:∀ there:Bool,EndsP P (if (!there)=true then pure true else (match x with | .slice (some b') _ _=>(Builtin.holdsCells b' (c * a) >>= fun h=>pure (!h || base.any (·.block == b'.block))) | _=>pure false):Sem Bool):=fun there=>by
  refine ends_ite (ends_pure _) ?_
  cases x <;> first | exact ends_pure _ | skip
  rename_i a' _ _
  cases a' <;> first | exact ends_pure _ | exact ends_bind (ends_holds _ _) fun _=>ends_pure _
 unfold Builtin.mayShare
 dsimp only
 cases base with
 | none=>exact ends_bind (ends_pure _) fun there=>tail there
 | some a'=>
  refine ends_bind (ends_holds _ _) fun h=>?_
  refine ends_bind (ends_frozen _) fun f=>?_
  exact ends_bind (ends_pure _) fun there=>tail there
def isIntD:TypeDesc → Bool
 | .int _=>true
 | _=>false
def appendFine (P:Program) (ts:Array TypeId):Bool:=(match ts[1]? with | some t=>(match P.underlying t with | some (.slice _)=>true | some .string=>true | _=>false) | none=>false) && (match ts[0]? with | some t=>elemFine P t | none=>true)
theorem sim_append {ts:Array TypeId} (hf:appendFine P ts=true) (t:TypeId) {a b:Array Value} (h:ArR (VR F r) a b):Sim P F L (VR F) (Builtin.append_ ts t a) (Builtin.append_ ts t b) r:=by
 unfold appendFine at hf
 rw [Bool.and_eq_true] at hf
 obtain ⟨hf1,hf0⟩:=hf
 obtain ⟨t1,h1,d1,hd1,hni⟩:∃ t1,ts[1]? = some t1 ∧ ∃ d,P.underlying t1=some d ∧ ∀ k,d ≠ .int k:=by
  cases h1:ts[1]? with
  | none=>rw [h1] at hf1;cases hf1
  | some t1=>
   rw [h1] at hf1
   dsimp only at hf1
   refine ⟨t1,rfl,?_⟩
   cases hu:P.underlying t1 with
   | none=>rw [hu] at hf1;cases hf1
   | some d=>
    refine ⟨d,rfl,fun k e=>?_⟩
    subst e
    rw [hu] at hf1
    cases hf1
 unfold Builtin.append_
 cases h0:ts[0]? with
 | none=>exact sim_stuck
 | some t0=>
  rw [h0] at hf0
  dsimp only at hf0
  rcases h.get' 0 with ⟨e1,e2⟩ | ⟨x0,y0,e1,e2,hxy0⟩
  ·
   rw [e1,e2]
   exact sim_stuck
  rcases h.get' 1 with ⟨f1,f2⟩ | ⟨x1,y1,f1,f2,hxy1⟩
  ·
   rw [e1,e2,f1,f2]
   exact sim_stuck
  rw [e1,e2,f1,f2]
  dsimp only
  refine sim_bind (sim_underlying t0) ?_
  rintro s _ d hle ⟨rfl,hd⟩
  unfold elemFine at hf0
  rw [hd] at hf0
  cases d <;> first | exact sim_stuck | skip
  rename_i e
  dsimp only at hf0 ⊢
  have h3:=(hxy0.mono hle).out
  cases x0 <;> simp only [VStep] at h3 <;> first | exact sim_stuck | skip
  rename_i base n c
  obtain ⟨base',rfl,hb⟩:=h3
  dsimp only
  refine sim_bind (sim_sizeOf e) ?_
  rintro s2 _ size hle2 ⟨rfl,-⟩
  rw [h1]
  dsimp only
  refine sim_under hd1 ?_
  have hz:isIntD d1=false:=by
   cases d1 <;> first | rfl | exact absurd rfl (hni _)
  refine sim_bind (sim_pure (Q:=fun _ a b=>a=false ∧ b=false) ⟨hz,hz⟩) ?_
  rintro s3 _ _ hle3 ⟨rfl,rfl⟩
  simp only [Bool.false_eq_true,if_false,Bool.not_false,if_true,false_or]
  have hx3:=hxy1.mono (hle.trans (hle2.trans hle3))
  have hs3:=hxy0.mono (hle.trans (hle2.trans hle3))
  refine sim_bind (sim_lenOf hx3) ?_
  rintro s4 _ m hle4 rfl
  refine sim_ite (fun _=>?_) fun _=>?_
  ·
   refine sim_bind (sim_firstCells size m (hx3.mono hle4)) ?_
   intro s5 u v hle5 huv
   have hb5:=hb.mono fun _ _=>AR.mono (hle2.trans (hle3.trans (hle4.trans hle5)))
   cases base <;> cases base' <;> simp only [OpR] at hb5
   · exact sim_pure (VR.make ⟨_,rfl,trivial⟩)
   ·
    dsimp only
    refine sim_bind (sim_storeArr (hb5.add _) huv) ?_
    intro s6 _ _ hle6 _
    exact sim_pure (VR.slc (AR.mono hle6 hb5) _ _)
  ·
   refine sim_bind (sim_typeInfo e) ?_
   rintro s5 _ i hle5 ⟨rfl,-⟩
   refine sim_ite (fun _=>sim_dies (dies_first (dies_panic _))) fun _=>?_
   refine sim_bind (sim_typeInfo e) ?_
   rintro s6 _ i2 hle6 ⟨rfl,-⟩
   refine sim_ite (fun _=>sim_dies (dies_first ?_)) fun _=>?_
   · refine dies_bind (ends_mayShare _ _ _ _ _) fun q=>dies_ite (dies_bind (ends_mark _) fun _=>dies_unsupported trivial) (dies_unsupported trivial)
   ·
    refine sim_bind (sim_choose _) ?_
    rintro s7 _ cap hle7 rfl
    refine sim_bind (sim_typeInfo e) ?_
    rintro s8 _ i3 hle8 ⟨rfl,-⟩
    refine sim_bind (sim_askRoom _) ?_
    intro s9 _ _ hle9 _
    have to9:=hle4.trans (hle5.trans (hle6.trans (hle7.trans (hle8.trans hle9))))
    refine sim_bind (sim_firstCells size n (hs3.mono to9)) ?_
    intro s10 u v hle10 huv
    refine sim_bind (sim_firstCells size m ((hx3.mono to9).mono hle10)) ?_
    intro s11 p q hle11 hpq
    refine sim_bind (sim_zeroValue hf0) ?_
    rintro s12 _ z hle12 ⟨rfl,hzz⟩
    refine sim_bind (sim_newRow e ((((huv.mono fun _ _=>VR.mono (hle11.trans hle12)).app' (hpq.mono fun _ _=>VR.mono hle12)).app' (ArR.plain (plain_zeroCells (plain_cells hzz)))))) ?_
    rintro s13 a a' - ⟨ha,-⟩
    exact sim_pure (VR.slc ha _ _)
end
section
variable {α β γ δ:Type} {P:Program} {F:Nat → Prop} {L:Nat} {r:Ren}
def isStrT (P:Program) (t:TypeId):Bool:=match P.underlying t with
 | some .string=>true
 | _=>false
theorem isStrT_is {t:TypeId} (h:isStrT P t=true):P.underlying t=some .string:=by
 unfold isStrT at h
 split at h
 · assumption
 · cases h
theorem sim_equalStr {t:TypeId} {u v x y:Value} (ht:isStrT P t=true) (h:VR F r u v) (hx:VR F r x y):Sim P F L (fun _ a b=>b=a) (Op.equal t u x) (Op.equal t v y) r:=by
 have hk:=isStrT_is ht
 show Sim P F L (fun _ a b=>b=a) (Op.equalIn (9999+1) t u x) (Op.equalIn (9999+1) t v y) r
 have h1:=h.out
 have h2:=hx.out
 rw [Op.equalIn]
 (try rw [Op.equalIn])
 refine sim_under hk ?_
 cases u <;> simp only [VStep] at h1 <;> first | exact sim_stuck | skip
 subst h1
 cases x <;> simp only [VStep] at h2 <;> first | exact sim_stuck | skip
 subst h2
 exact sim_pure rfl
def keyFine (P:Program) (t:TypeId):Bool:=intType P t || isStrT P t
theorem sim_equalKey {t:TypeId} {u v x y:Value} (ht:keyFine P t=true) (h:VR F r u v) (hx:VR F r x y) (hG:P.globals.size ≤ L):Sim P F L (fun _ a b=>b=a) (Op.equal t u x) (Op.equal t v y) r:=by
 rcases Bool.or_eq_true _ _ ▸ ht with ht | ht
 · exact sim_equalInt ht h hx hG
 · exact sim_equalStr ht h hx
theorem sim_checkKey {t:TypeId} (ht:keyFine P t=true) (b b':Bool) {u v:Value}:Sim P F L (fun _ _ _=>True) (Instr.checkKey b 10000 t u) (Instr.checkKey b' 10000 t v) r:=by
 show Sim P F L (fun _ _ _=>True) (Instr.checkKey b (9999+1) t u) (Instr.checkKey b' (9999+1) t v) r
 rw [Instr.checkKey,Instr.checkKey]
 rcases Bool.or_eq_true _ _ ▸ ht with ht | ht
 ·
  obtain ⟨k,hk⟩:=intType_is ht
  exact sim_under hk (sim_pure trivial)
 · exact sim_under (isStrT_is ht) (sim_pure trivial)
theorem sameNow_rel (d:TypeDesc) {u v x y:Value} (h:VR F r u v) (hx:VR F r x y):Instr.sameNow d v y=Instr.sameNow d u x:=by
 have h1:=h.out
 have h2:=hx.out
 have k1:=h.kind
 have k2:=hx.kind
 cases u <;> simp only [VStep] at h1
 case int=>subst h1;cases x <;> simp only [VStep] at h2 <;> first | (subst h2;rfl) | (cases y <;> first | (cases k2;done) | (cases d <;> rfl))
 case bool=>subst h1;cases x <;> simp only [VStep] at h2 <;> first | (subst h2;rfl) | (cases y <;> first | (cases k2;done) | (cases d <;> rfl))
 case string=>subst h1;cases x <;> simp only [VStep] at h2 <;> first | (subst h2;rfl) | (cases y <;> first | (cases k2;done) | (cases d <;> rfl))
 all_goals (cases v <;> first | (cases k1;done) | (cases d <;> rfl))
def EntsR (F:Nat → Prop) (r:Ren) (es es':List MapEntry):Prop:=es'.length=es.length ∧ ∀ (i:Nat) e e',es[i]? = some e → es'[i]? = some e' → EntR F r e e'
theorem EntsR.mono {s:Ren} (h:r.Le s) {es es':List MapEntry} (x:EntsR F r es es'):EntsR F s es es':=⟨x.1,fun i e e' h1 h2=>let ⟨a,b,c⟩:=x.2 i e e' h1 h2;⟨a.mono h,b.mono h,c⟩⟩
theorem EntsR.tail {e e':MapEntry} {es es':List MapEntry} (h:EntsR F r (e :: es) (e' :: es')):EntR F r e e' ∧ EntsR F r es es':=⟨h.2 0 e e' rfl rfl,by simpa using h.1,fun i a b h1 h2=>h.2 (i+1) a b h1 h2⟩
def FoundR (F:Nat → Prop) (r:Ren) (p q:Nat × Value):Prop:=q.1=p.1 ∧ VR F r p.2 q.2
theorem findNow_rel (d:TypeDesc) {u v:Value} (h:VR F r u v):∀ (es es':List MapEntry) (i:Nat),EntsR F r es es' → OpR (OpR (FoundR F r)) (Instr.findNow d u es i) (Instr.findNow d v es' i)
 | [],[],_,_=>trivial
 | e :: es,e' :: es',i,hx=>by
  obtain ⟨he,ht⟩:=hx.tail
  unfold Instr.findNow
  rw [sameNow_rel d h he.1]
  cases Instr.sameNow d u e.key with
  | none=>exact trivial
  | some b=>
   cases b
   · exact findNow_rel d h es es' (i+1) ht
   · exact ⟨rfl,he.2.1⟩
 | [],_ :: _,_,hx=>by cases hx.1
 | _ :: _,[],_,hx=>by cases hx.1
theorem sim_findAsking {t:TypeId} (ht:keyFine P t=true) (hG:P.globals.size ≤ L):∀ (es es':List MapEntry) (i:Nat) {r:Ren} {u v:Value},VR F r u v → EntsR F r es es' → Sim P F L (fun s a b=>OpR (FoundR F s) a b) (Instr.findAsking t u es i) (Instr.findAsking t v es' i) r
 | [],[],_,_,_,_,_,_=>sim_pure trivial
 | e :: es,e' :: es',i,r,u,v,h,hx=>by
  obtain ⟨he,hr⟩:=hx.tail
  unfold Instr.findAsking
  refine sim_bind (sim_equalKey ht h he.1 hG) ?_
  rintro s _ b hle rfl
  cases b
  · exact sim_findAsking ht hG es es' (i+1) (h.mono hle) (hr.mono hle)
  · exact sim_pure ⟨rfl,he.2.1.mono hle⟩
 | [],_ :: _,_,_,_,_,_,hx=>by cases hx.1
 | _ :: _,[],_,_,_,_,_,hx=>by cases hx.1
theorem sim_findKey {t:TypeId} (ht:keyFine P t=true) (hG:P.globals.size ≤ L) {u v:Value} (h:VR F r u v) {es es':List MapEntry} (hx:EntsR F r es es'):Sim P F L (fun s a b=>OpR (FoundR F s) a b) (Instr.findKey t u es) (Instr.findKey t v es') r:=by
 unfold Instr.findKey
 refine sim_bind (sim_underlying t) ?_
 rintro s _ d hle ⟨rfl,-⟩
 have:=findNow_rel d (h.mono hle) es es' 0 (hx.mono hle)
 revert this
 cases Instr.findNow d u es 0 <;> cases Instr.findNow d v es' 0
 · exact fun _=>sim_findAsking ht hG es es' 0 (h.mono hle) (hx.mono hle)
 · exact fun h=>h.elim
 · exact fun h=>h.elim
 · exact fun h=>sim_pure h
theorem ents_of {es es':Array MapEntry} (h1:es'.size=es.size) (h2:∀ (i:Nat) e e',es[i]? = some e → es'[i]? = some e' → EntR F r e e'):EntsR F r es.toList es'.toList:=⟨by simp [h1],fun i e e' h3 h4=>h2 i e e' (by simpa using h3) (by simpa using h4)⟩
def mapFine (P:Program) (t:TypeId):Bool:=match P.underlying t with
 | some (.map k e)=>keyFine P k && zeroFine P e
 | _=>true
theorem sim_lookup {t:TypeId} (hf:mapFine P t=true) (hG:P.globals.size ≤ L) {u v x y:Value} (h:VR F r u v) (hx:VR F r x y) (ok:Bool):Sim P F L (VR F) (Instr.lookup t u x ok) (Instr.lookup t v y ok) r:=by
 have fin:∀ (s:Ren) (k e:TypeId) (es es':Array MapEntry) (b b':Bool),r.Le s → keyFine P k=true → zeroFine P e=true → EntsR F s es.toList es'.toList → Sim P F L (VR F)
   (Instr.checkKey b 10000 k x >>= fun _=>Instr.findKey k x es.toList >>= fun o=>match o with | some (_,v)=>pure (v,true) >>= fun p=>pure (if ok=true then .tuple #[p.1,.bool p.2] else p.1) | none=>zeroValue e >>= fun z=>pure (z,false) >>= fun p=>pure (if ok=true then .tuple #[p.1,.bool p.2] else p.1))
   (Instr.checkKey b' 10000 k y >>= fun _=>Instr.findKey k y es'.toList >>= fun o=>match o with | some (_,v)=>pure (v,true) >>= fun p=>pure (if ok=true then .tuple #[p.1,.bool p.2] else p.1) | none=>zeroValue e >>= fun z=>pure (z,false) >>= fun p=>pure (if ok=true then .tuple #[p.1,.bool p.2] else p.1)) s:=fun s k e es es' b b' hle hk hz he=>by
  have last:∀ (s:Ren) (p q:Value) (c:Bool),VR F s p q → VR F s (if ok=true then .tuple #[p,.bool c] else p) (if ok=true then .tuple #[q,.bool c] else q):=fun s p q c hpq=>by
   cases ok
   · exact hpq
   · exact VR.tuple ((ArR.one hpq).push (VR.bool c))
  refine sim_bind (sim_checkKey hk b b') ?_
  intro s2 _ _ hle2 _
  refine sim_bind (sim_findKey hk hG ((hx.mono hle).mono hle2) (he.mono hle2)) ?_
  intro s3 o o' _ ho
  cases o <;> cases o' <;> simp only [OpR] at ho
  ·
   refine sim_bind (sim_zeroValue hz) ?_
   rintro s4 _ z - ⟨rfl,hz2⟩
   exact sim_pure (last s4 z z false (VR.plain hz2))
  · exact sim_pure (last s3 _ _ true ho.2)
 unfold Instr.lookup
 dsimp only
 refine sim_bind (sim_underlying t) ?_
 rintro s _ d hle ⟨rfl,hd⟩
 unfold mapFine at hf
 rw [hd] at hf
 cases d <;> first | exact sim_stuck | skip
 rename_i k e
 dsimp only at hf ⊢
 rw [Bool.and_eq_true] at hf
 have h1:=(h.mono hle).out
 cases u <;> simp only [VStep] at h1 <;> first | exact sim_dies (dies_first (dies_halt (h:=.stuck _) trivial)) | skip
 rename_i m
 obtain ⟨m',rfl,hm⟩:=h1
 cases m <;> cases m' <;> simp only [OpR] at hm
 · exact fin s k e #[] #[] _ _ hle hf.1 hf.2 ⟨rfl,fun i e e' h=>by simp at h⟩
 ·
  dsimp only
  refine sim_bind (sim_getObj hm) ?_
  rintro s2 o o' hle2 ⟨ho,-⟩
  cases o <;> simp only [ObR] at ho <;> first | exact sim_dies (dies_first (dies_halt (h:=.stuck _) trivial)) | exact sim_stuck | skip
  obtain ⟨es',rfl,e1,e2⟩:=ho
  exact fin s2 k e _ _ _ _ (hle.trans hle2) hf.1 hf.2 (ents_of e1 e2)
theorem sim_makeMap (t:TypeId):Sim P F L (VR F) (Instr.makeMap t none) (Instr.makeMap t none) r:=by
 unfold Instr.makeMap
 refine sim_bind (sim_newObj (o:=.map #[] 0) (o':=.map #[] 0) ⟨#[],rfl,rfl,fun i e e' h=>by simp at h⟩) ?_
 rintro s a b - ⟨hab,-⟩
 exact sim_pure (VR.make ⟨some b,rfl,hab⟩)
end
end Go.Proofs.YtbokomeejmnnoaaDoor
