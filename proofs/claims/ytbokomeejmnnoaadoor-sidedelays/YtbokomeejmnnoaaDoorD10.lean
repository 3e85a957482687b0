/- Own facts, put together: no statement of its own. -/
import Derived.Calls
import Derived.Conc.Events

namespace Go.Proofs.YtbokomeejmnnoaaDoor
structure Ren where
 rel:Nat → Nat → Prop
 fn:∀ a b c,rel a b → rel a c → b=c
 inj:∀ a b c,rel a c → rel b c → a=b
def Ren.Le (r s:Ren):Prop:=∀ a b,r.rel a b → s.rel a b
theorem Ren.Le.refl (r:Ren):r.Le r:=fun _ _ h=>h
theorem Ren.Le.trans {r s t:Ren} (h:r.Le s) (h':s.Le t):r.Le t:=fun a b x=>h' a b (h a b x)
def AR (r:Ren) (a a':Addr):Prop:=r.rel a.block a'.block ∧ a'.off=a.off ∧ a'.spot=a.spot
def OpR {α:Type} (X:α → α → Prop):Option α → Option α → Prop
 | none,none=>True
 | some a,some b=>X a b
 | _,_=>False
def ArR (X:Value → Value → Prop) (a b:Array Value):Prop:=b.size=a.size ∧ ∀ (i:Nat) x y,a[i]? = some x → b[i]? = some y → X x y
theorem OpR.mono {α:Type} {X Y:α → α → Prop} (h:∀ a b,X a b → Y a b) {a b:Option α} (x:OpR X a b):OpR Y a b:=by
 cases a <;> cases b <;> simp_all [OpR]
theorem ArR.mono {X Y:Value → Value → Prop} (h:∀ a b,X a b → Y a b) {a b:Array Value} (x:ArR X a b):ArR Y a b:=⟨x.1,fun i u v h1 h2=>h _ _ (x.2 i u v h1 h2)⟩
theorem AR.mono {r s:Ren} (h:r.Le s) {a b:Addr} (x:AR r a b):AR s a b:=⟨h _ _ x.1,x.2⟩
def VStep (F:Nat → Prop) (r:Ren) (X:Value → Value → Prop):Value → Value → Prop
 | .pointer a,v=>∃ a',v=.pointer a' ∧ OpR (AR r) a a'
 | .slice a n c,v=>∃ a',v=.slice a' n c ∧ OpR (AR r) a a'
 | .map m,v=>∃ m',v=.map m' ∧ OpR r.rel m m'
 | .chan _,_=>False
 | .float _ _,_=>False
 | .complex _ _ _,_=>False
 | .func fn fs cs,v=>∃ fs' cs',v=.func fn fs' cs' ∧ (∃ f,fn=.func f ∧ F f) ∧ ArR X fs fs' ∧ ArR X cs cs'
 | .iface t u,v=>∃ u',v=.iface t u' ∧ X u u'
 | .agg a,v=>∃ b,v=.agg b ∧ ArR X a b
 | .tuple a,v=>∃ b,v=.tuple b ∧ ArR X a b
 | u,v=>v=u
theorem VStep.mono {F:Nat → Prop} {r s:Ren} {X Y:Value → Value → Prop} (h:r.Le s) (hx:∀ u v,X u v → Y u v) {u v:Value} (x:VStep F r X u v):VStep F s Y u v:=by
 cases u <;> simp only [VStep] at x ⊢
 case pointer a=>obtain ⟨a',rfl,y⟩:=x;exact ⟨_,rfl,y.mono fun _ _=>AR.mono h⟩
 case slice a n c=>obtain ⟨a',rfl,y⟩:=x;exact ⟨_,rfl,y.mono fun _ _=>AR.mono h⟩
 case map m=>obtain ⟨a',rfl,y⟩:=x;exact ⟨_,rfl,y.mono h⟩
 case func fn fs cs=>obtain ⟨a,b,rfl,y,z,t⟩:=x;exact ⟨_,_,rfl,y,z.mono hx,t.mono hx⟩
 case iface t u=>obtain ⟨a,rfl,y⟩:=x;exact ⟨_,rfl,hx _ _ y⟩
 case agg a=>obtain ⟨b,rfl,y⟩:=x;exact ⟨_,rfl,y.mono hx⟩
 case tuple a=>obtain ⟨b,rfl,y⟩:=x;exact ⟨_,rfl,y.mono hx⟩
 all_goals exact x
def VR (F:Nat → Prop) (r:Ren) (u v:Value):Prop:=∃ X:Value → Value → Prop,(∀ a b,X a b → VStep F r X a b) ∧ X u v
theorem VR.out {F:Nat → Prop} {r:Ren} {u v:Value} (h:VR F r u v):VStep F r (VR F r) u v:=by
 obtain ⟨X,hX,hx⟩:=h
 exact (hX _ _ hx).mono (Ren.Le.refl _) fun a b y=>⟨X,hX,y⟩
theorem VR.make {F:Nat → Prop} {r:Ren} {u v:Value} (h:VStep F r (VR F r) u v):VR F r u v:=by
 refine ⟨fun a b=>VR F r a b ∨ (a=u ∧ b=v),fun a b hab=>?_,.inr ⟨rfl,rfl⟩⟩
 rcases hab with hab | ⟨rfl,rfl⟩
 · exact hab.out.mono (Ren.Le.refl _) fun _ _=>.inl
 · exact h.mono (Ren.Le.refl _) fun _ _=>.inl
theorem VR.mono {F:Nat → Prop} {r s:Ren} (h:r.Le s) {u v:Value} (x:VR F r u v):VR F s u v:=by
 obtain ⟨X,hX,hx⟩:=x
 exact ⟨X,fun a b y=>(hX a b y).mono h fun _ _=>id,hx⟩
def plainV:Nat → Value → Bool
 | _,.bool _=>true
 | _,.int _ _=>true
 | _,.string _=>true
 | _,.nilFunc=>true
 | _,.nilIface=>true
 | _,.pointer none=>true
 | _,.slice none _ _=>true
 | _,.map none=>true
 | n+1,.iface _ v=>plainV n v
 | n+1,.agg a=>a.all (plainV n)
 | n+1,.tuple a=>a.all (plainV n)
 | _,_=>false
theorem VR.plain {F:Nat → Prop} {r:Ren} {n:Nat} {v:Value} (h:plainV n v=true):VR F r v v:=by
 refine ⟨fun a b=>a=b ∧ ∃ n,plainV n a=true,?_,rfl,n,h⟩
 rintro a _ ⟨rfl,n,hn⟩
 have hall:∀ (n:Nat) (c:Array Value),c.all (plainV n)=true → ArR (fun a b=>a=b ∧ ∃ n,plainV n a=true) c c:=fun n c hc=>
  ⟨rfl,fun i x y hx hy=>by
   rw [hx] at hy
   exact ⟨Option.some.inj hy,n,Array.all_eq_true_iff_forall_mem.1 hc x (Array.mem_of_getElem? hx)⟩⟩
 cases a with
 | pointer a=>cases a <;> cases n <;> simp_all [plainV,VStep,OpR]
 | slice a _ _=>cases a <;> cases n <;> simp_all [plainV,VStep,OpR]
 | map a=>cases a <;> cases n <;> simp_all [plainV,VStep,OpR]
 | iface t v=>
  cases n with
  | zero=>simp [plainV] at hn
  | succ n=>exact ⟨v,rfl,rfl,n,by simpa only [plainV] using hn⟩
 | agg c=>
  cases n with
  | zero=>simp [plainV] at hn
  | succ n=>exact ⟨c,rfl,hall n c (by simpa only [plainV] using hn)⟩
 | tuple c=>
  cases n with
  | zero=>simp [plainV] at hn
  | succ n=>exact ⟨c,rfl,hall n c (by simpa only [plainV] using hn)⟩
 | _=>cases n <;> simp_all [plainV,VStep]
def EntR (F:Nat → Prop) (r:Ren) (e e':MapEntry):Prop:=VR F r e.key e'.key ∧ VR F r e.val e'.val ∧ e'.born=e.born
def PrR (X:Value → Value → Prop) (a b:Array Value):Prop:=a.size ≤ b.size ∧ ∀ (i:Nat) x y,a[i]? = some x → b[i]? = some y → X x y
theorem PrR.mono {X Y:Value → Value → Prop} (h:∀ a b,X a b → Y a b) {a b:Array Value} (x:PrR X a b):PrR Y a b:=⟨x.1,fun i u v h1 h2=>h _ _ (x.2 i u v h1 h2)⟩
theorem ArR.pr {X:Value → Value → Prop} {a b:Array Value} (h:ArR X a b):PrR X a b:=⟨Nat.le_of_eq h.1.symm,h.2⟩
def ObR (F:Nat → Prop) (r:Ren):Obj → Obj → Prop
 | .cells c t fz,o=>∃ c' fz',o=.cells c' t fz' ∧ PrR (VR F r) c c' ∧ ∀ k,fz'.1 ≤ k → k < fz'.2 → fz.1 ≤ k ∧ k < fz.2
 | .map es k,o=>∃ es',o=.map es' k ∧ es'.size=es.size ∧ ∀ (i:Nat) e e',es[i]? = some e → es'[i]? = some e' → EntR F r e e'
 | .number a l,o=>∃ a',o=.number a' l ∧ AR r a a'
 | _,_=>False
theorem ObR.mono {F:Nat → Prop} {r s:Ren} (h:r.Le s) {o o':Obj} (x:ObR F r o o'):ObR F s o o':=by
 cases o <;> simp only [ObR] at x ⊢
 case cells c t fz=>obtain ⟨c',fz',rfl,y,z⟩:=x;exact ⟨_,_,rfl,y.mono fun _ _=>VR.mono h,z⟩
 case map es k=>obtain ⟨es',rfl,y,z⟩:=x;exact ⟨_,rfl,y,fun i e e' h1 h2=>let ⟨a,b,c⟩:=z i e e' h1 h2;⟨a.mono h,b.mono h,c⟩⟩
 case number a l=>obtain ⟨a',rfl,y⟩:=x;exact ⟨_,rfl,y.mono h⟩
structure WR (F:Nat → Prop) (L:Nat) (r:Ren) (w w':World):Prop where
 obj:∀ a b,r.rel a b → ∃ o o',w.heap[a]? = some o ∧ w'.heap[b]? = some o' ∧ ObR F r o o'
 low:∀ a b,r.rel a b → a < L → ∃ c t hi,w.heap[a]? = some (.cells c t (0,hi)) ∧ c.size ≤ hi
 base:∀ a b,r.rel a b → a < L → b=a
 high:∀ a b,r.rel a b → L ≤ a → L ≤ b
 size:L ≤ w.heap.size
 size':L ≤ w'.heap.size
 tape:∀ j q,w.tape (w.drawn+j) q=w'.tape (w'.drawn+j) q
structure FrR (L:Nat) (r s:Ren) (w w':World):Prop where
 os:w'.os=w.os
 output:w'.output=w.output
 tape:w'.tape=w.tape
 size:w.heap.size ≤ w'.heap.size
 drawn:w.drawn ≤ w'.drawn
 other:∀ b,b < w.heap.size → (∀ a,L ≤ a → ¬ r.rel a b) → w'.heap[b]? = w.heap[b]?
 new:∀ a b,s.rel a b → r.rel a b ∨ (L ≤ a ∧ w.heap.size ≤ b ∧ b < w'.heap.size)
 le:r.Le s
theorem FrR.refl (L:Nat) (r:Ren) (w:World):FrR L r r w w:=⟨rfl,rfl,rfl,Nat.le_refl _,Nat.le_refl _,fun _ _ _=>rfl,fun _ _ h=>.inl h,Ren.Le.refl _⟩
theorem FrR.trans {L:Nat} {r s t:Ren} {w w' w'':World} (h:FrR L r s w w') (h':FrR L s t w' w''):FrR L r t w w'':=
 ⟨h'.os.trans h.os,h'.output.trans h.output,h'.tape.trans h.tape,Nat.le_trans h.size h'.size,Nat.le_trans h.drawn h'.drawn,fun b hb hn=>by
  rw [h'.other b (Nat.lt_of_lt_of_le hb h.size) fun a ha hr=>?_,h.other b hb hn]
  rcases h.new a b hr with h1 | ⟨-,h2,-⟩
  · exact hn a ha h1
  · omega,fun a b hr=>by
  rcases h'.new a b hr with h1 | ⟨h1,h2,h3⟩
  ·
   rcases h.new a b h1 with h4 | ⟨h4,h5,h6⟩
   · exact .inl h4
   · exact .inr ⟨h4,h5,Nat.lt_of_lt_of_le h6 h'.size⟩
  · exact .inr ⟨h1,Nat.le_trans h.size h2,h3⟩,h.le.trans h'.le⟩
def EvR (L:Nat) (r:Ren) (e:Event):Prop:=
 (∃ a b off sp,r.rel a b ∧ e=⟨.cell ⟨b,off,sp⟩,false,false⟩) ∨ (∃ a b off sp,L ≤ a ∧ r.rel a b ∧ e=⟨.cell ⟨b,off,sp⟩,true,false⟩) ∨
 (∃ a b wr,L ≤ a ∧ r.rel a b ∧ e=⟨.obj b,wr,false⟩) ∨ e=⟨.mark .noRoom,false,true⟩ ∨ ∃ f,e=⟨.mark (.extern f),false,true⟩
theorem EvR.mono {L:Nat} {r s:Ren} (h:r.Le s) {e:Event} (x:EvR L r e):EvR L s e:=by
 rcases x with ⟨a,b,o,p,h1,h2⟩ | ⟨a,b,o,p,h0,h1,h2⟩ | ⟨a,b,o,h0,h1,h2⟩ | h1
 · exact .inl ⟨a,b,o,p,h _ _ h1,h2⟩
 · exact .inr (.inl ⟨a,b,o,p,h0,h _ _ h1,h2⟩)
 · exact .inr (.inr (.inl ⟨a,b,o,h0,h _ _ h1,h2⟩))
 · exact .inr (.inr (.inr h1))
def Mild:Halt → Prop
 | .panic _=>True
 | .stuck _=>True
 | .unsupported (.initOrder _)=>False
 | .unsupported _=>True
 | _=>False
def taped (w:World) (t:Nat → Question → Nat):World:={ w with tape:=t }
def LocTp {α:Type} (P:Program) (s:Sem α) (w:World) (a:α) (w1:World):Prop:=w1.tape=w.tape ∧ w.drawn ≤ w1.drawn ∧
 ∀ t,(∀ j q,w.drawn ≤ j → j < w1.drawn → t j q=w.tape j q) → s.run P (taped w t)=.ok a (taped w1 t)
theorem LocTp.bind {α β:Type} {P:Program} {s:Sem α} {f:α → Sem β} {w w1 w2:World} {a:α} {b:β} (h:LocTp P s w a w1) (h':LocTp P (f a) w1 b w2):LocTp P (s >>= f) w b w2:=by
 obtain ⟨e1,e2,e3⟩:=h
 obtain ⟨k1,k2,k3⟩:=h'
 refine ⟨k1.trans e1,Nat.le_trans e2 k2,fun t ht=>?_⟩
 rw [Sem.run_bind,e3 t fun j q h1 h2=>ht j q h1 (Nat.lt_of_lt_of_le h2 k2)]
 simp only [Result.andThen_ok]
 exact k3 t fun j q h1 h2=>(ht j q (Nat.le_trans e2 h1) h2).trans (by rw [e1])
def SimAt {α β:Type} (P:Program) (F:Nat → Prop) (L:Nat) (Q:Ren → α → β → Prop) (s:Sem α) (s':Sem β) (r:Ren) (w w':World):Prop:=(∃ h w1,s.run P w=.halt h w1 ∧ Mild h) ∨
  ∃ a w1 r1 b w1' evs,s.run P w=.ok a w1 ∧ s'.run P w'=.ok b w1' ∧ (∀ es,s'.events P w' es=es ++ evs) ∧ Q r1 a b ∧ WR F L r1 w1 w1' ∧ FrR L r r1 w' w1' ∧ (∀ e ∈ evs,EvR L r1 e) ∧ LocTp P s w a w1
def Sim {α β:Type} (P:Program) (F:Nat → Prop) (L:Nat) (Q:Ren → α → β → Prop) (s:Sem α) (s':Sem β) (r:Ren):Prop:=∀ w w',WR F L r w w' → SimAt P F L Q s s' r w w'
section
variable {α β γ δ:Type} {P:Program} {F:Nat → Prop} {L:Nat} {r:Ren}
theorem sim_pure {Q:Ren → α → β → Prop} {a:α} {b:β} (h:Q r a b):Sim P F L Q (pure a) (pure b) r:=fun w w' hw=>
 .inr ⟨a,w,r,b,w',#[],rfl,rfl,fun es=>by simp,h,hw,FrR.refl _ _ _,by simp,rfl,Nat.le_refl _,fun _ _=>rfl⟩
theorem sim_halt {Q:Ren → α → β → Prop} {h:Halt} (hm:Mild h) {s':Sem β}:Sim P F L Q (Sem.halt h:Sem α) s' r:=fun w _ _=>.inl ⟨h,w,rfl,hm⟩
theorem sim_stuck {Q:Ren → α → β → Prop} {m:String} {s':Sem β}:Sim P F L Q (stuck m:Sem α) s' r:=sim_halt (h:=.stuck m) trivial
theorem sim_bind {Q:Ren → α → β → Prop} {Q':Ren → γ → δ → Prop} {s:Sem α} {s':Sem β} {f:α → Sem γ} {f':β → Sem δ} (h:Sim P F L Q s s' r)
  (hf:∀ t a b,r.Le t → Q t a b → Sim P F L Q' (f a) (f' b) t):Sim P F L Q' (s >>= f) (s' >>= f') r:=fun w w' hw=>by
 rcases h w w' hw with ⟨x,w1,h1,hm⟩ | ⟨a,w1,r1,b,w1',evs,h1,h2,h3,h4,h5,h6,h7,h8⟩
 · exact .inl ⟨x,w1,by simp [h1],hm⟩
 ·
  rcases hf r1 a b h6.le h4 w1 w1' h5 with ⟨x,w2,k1,hm⟩ | ⟨c,w2,r2,d,w2',evs',k1,k2,k3,k4,k5,k6,k7,k8⟩
  · exact .inl ⟨x,w2,by simp [h1,k1],hm⟩
  ·
   refine .inr ⟨c,w2,r2,d,w2',evs ++ evs',by simp [h1,k1],by simp [h2,k2],fun es=>by simp [h2,h3,k3,Array.append_assoc],k4,k5,h6.trans k6,fun e he=>?_,h8.bind k8⟩
   rcases Array.mem_append.1 he with he | he
   · exact (h7 e he).mono k6.le
   · exact k7 e he
theorem sim_program {Q:Ren → α → β → Prop} {f:Program → Sem α} {f':Program → Sem β} (h:Sim P F L Q (f P) (f' P) r):Sim P F L Q (program >>= f) (program >>= f') r:=fun w w' hw=>h w w' hw
theorem getElem?_lt {α:Type} {a:Array α} {i:Nat} {x:α} (h:a[i]? = some x):i < a.size:=by
 obtain ⟨h1,-⟩:=Array.getElem?_eq_some_iff.1 h
 exact h1
theorem WR.lt {w w':World} (h:WR F L r w w') {a b:Nat} (hr:r.rel a b):a < w.heap.size ∧ b < w'.heap.size:=by
 obtain ⟨o,o',h1,h2,-⟩:=h.obj a b hr
 exact ⟨getElem?_lt h1,getElem?_lt h2⟩
end
section
variable {P:Program} {F:Nat → Prop} {L:Nat} {r:Ren} {w w':World}
theorem WR.cell (h:WR F L r w w') {a a':Addr} (ha:AR r a a') {v:Value} (hv:w.cell? a=some v):∃ v',w'.cell? a'=some v' ∧ VR F r v v':=by
 obtain ⟨o,o',h1,h2,h3⟩:=h.obj _ _ ha.1
 unfold World.cell? at hv ⊢
 rw [h1] at hv
 rw [h2]
 cases o <;> simp only [ObR] at h3 hv
 case cells c t fz=>
  obtain ⟨c',fz',rfl,h4,-⟩:=h3
  split at hv
  · cases hv
  ·
   rename_i hs
   simp only [ha.2.2,ha.2.1,hs]
   have hl:a.off < c'.size:=Nat.lt_of_lt_of_le (getElem?_lt hv) h4.1
   exact ⟨c'[a.off],by rw [Array.getElem?_eq_getElem hl];rfl,h4.2 _ _ _ hv (Array.getElem?_eq_getElem hl)⟩
 all_goals cases hv
theorem WR.far (h:WR F L r w w') {a:Addr} {b:Nat} (ha:r.rel a.block b) (at_:Bool):∃ m,w.farLoad P a at_=.error (.stuck m):=by
 obtain ⟨o,o',h1,-,h3⟩:=h.obj _ _ ha
 cases o <;> simp only [ObR] at h3
 all_goals exact ⟨_,by simp only [World.farLoad,World.noCell,h1];rfl⟩
theorem WR.farS (h:WR F L r w w') {a:Addr} {b:Nat} (ha:r.rel a.block b) (v:Value) (at_:Bool):∃ m,w.farStore P a v at_=.error (.stuck m):=by
 obtain ⟨o,o',h1,-,h3⟩:=h.obj _ _ ha
 cases o <;> simp only [ObR] at h3
 all_goals exact ⟨_,by simp only [World.farStore,World.noCell,h1];rfl⟩
theorem sim_load {a a':Addr} (ha:AR r a a'):Sim P F L (VR F) (load a) (load a') r:=fun w w' hw=>by
 cases hv:w.cell? a with
 | none=>
  obtain ⟨m,hm⟩:=hw.far (P:=P) ha.1 (Mode.plain == Mode.atomic)
  exact .inl ⟨.stuck m,w,by simp [hv,hm],trivial⟩
 | some v=>
  obtain ⟨v',h1,h2⟩:=hw.cell ha hv
  refine .inr ⟨v,w,r,v',w',#[⟨.cell a',false,false⟩],by simp [hv],by simp [h1],fun es=>?_,h2,hw,FrR.refl _ _ _,fun e he=>?_,rfl,Nat.le_refl _,fun t _=>by simp [show (taped w t).cell? a=some v from hv]⟩
  ·
   simp only [load,Sem.events,Sem.runT,h1]
   rfl
  ·
   simp only [List.mem_toArray,List.mem_cons,List.not_mem_nil,or_false] at he
   subst he
   exact .inl ⟨a.block,a'.block,a'.off,a'.spot,ha.1,rfl⟩
theorem WR.put (h:WR F L r w w') {x y:Nat} (hx:r.rel x y) (hL:L ≤ x) {o o':Obj} (ho:ObR F r o o') (w1 w1':World) (e1:w1.heap=w.heap.setIfInBounds x o) (e2:w1'.heap=w'.heap.setIfInBounds y o')
  (t:w1.tape=w.tape) (t':w1'.tape=w'.tape) (d:w1.drawn=w.drawn) (d':w1'.drawn=w'.drawn):WR F L r w1 w1':=by
 obtain ⟨lx,ly⟩:=h.lt hx
 refine ⟨fun a b hab=>?_,fun a b hab hl=>?_,h.base,h.high,by rw [e1,Array.size_setIfInBounds];exact h.size,by rw [e2,Array.size_setIfInBounds];exact h.size',fun j q=>by rw [t,t',d,d'];exact h.tape j q⟩
 ·
  by_cases hax:a=x
  ·
   subst hax
   obtain rfl:=r.fn _ _ _ hab hx
   exact ⟨o,o',by rw [e1,Array.getElem?_setIfInBounds_self_of_lt lx],by rw [e2,Array.getElem?_setIfInBounds_self_of_lt ly],ho⟩
  ·
   have hby:b ≠ y:=fun e=>hax (r.inj _ _ _ (e ▸ hab) hx)
   obtain ⟨p,p',h1,h2,h3⟩:=h.obj a b hab
   exact ⟨p,p',by rw [e1,Array.getElem?_setIfInBounds_ne (Ne.symm hax)];exact h1,by rw [e2,Array.getElem?_setIfInBounds_ne (Ne.symm hby)];exact h2,h3⟩
 ·
  obtain ⟨c,ty,hi,h1,h1'⟩:=h.low a b hab hl
  exact ⟨c,ty,hi,by rw [e1,Array.getElem?_setIfInBounds_ne (by omega)];exact h1,h1'⟩
theorem FrR.put {x y:Nat} (hx:r.rel x y) (hL:L ≤ x) {o':Obj} (w1':World) (e2:w1'.heap=w'.heap.setIfInBounds y o') (t':w1'.tape=w'.tape) (d':w1'.drawn=w'.drawn) (os:w1'.os=w'.os) (out:w1'.output=w'.output):FrR L r r w' w1':=by
 refine ⟨os,out,t',by rw [e2,Array.size_setIfInBounds];exact Nat.le_refl _,by rw [d'];exact Nat.le_refl _,fun b _ hn=>?_,fun _ _ h=>.inl h,Ren.Le.refl _⟩
 have hby:b ≠ y:=fun e=>hn x hL (e ▸ hx)
 rw [e2,Array.getElem?_setIfInBounds_ne (Ne.symm hby)]
theorem ArR.set {X:Value → Value → Prop} {c c':Array Value} (h:ArR X c c') (i:Nat) {u v:Value} (hv:X u v):ArR X (c.setIfInBounds i u) (c'.setIfInBounds i v):=by
 refine ⟨by simp [h.1],fun j x y hx hy=>?_⟩
 have hj:j < c.size:=by have:=getElem?_lt hx;simpa using this
 have hj':j < c'.size:=by rw [h.1];exact hj
 by_cases e:i=j
 ·
  subst e
  rw [Array.getElem?_setIfInBounds_self_of_lt hj] at hx
  rw [Array.getElem?_setIfInBounds_self_of_lt hj'] at hy
  cases hx;cases hy;exact hv
 ·
  rw [Array.getElem?_setIfInBounds_ne e] at hx hy
  exact h.2 j x y hx hy
theorem PrR.set {X:Value → Value → Prop} {c c':Array Value} (h:PrR X c c') (i:Nat) {u v:Value} (hv:X u v):PrR X (c.setIfInBounds i u) (c'.setIfInBounds i v):=by
 refine ⟨by simp [h.1],fun j x y hx hy=>?_⟩
 have hj:j < c.size:=by have:=getElem?_lt hx;simpa using this
 have hj':j < c'.size:=Nat.lt_of_lt_of_le hj h.1
 by_cases e:i=j
 ·
  subst e
  rw [Array.getElem?_setIfInBounds_self_of_lt hj] at hx
  rw [Array.getElem?_setIfInBounds_self_of_lt hj'] at hy
  cases hx;cases hy;exact hv
 ·
  rw [Array.getElem?_setIfInBounds_ne e] at hx hy
  exact h.2 j x y hx hy
theorem setCell_heap {w:World} {a:Addr} {c:Array Value} {t:TypeId} {fz:Nat × Nat} (h:w.heap[a.block]? = some (.cells c t fz)) (hs:a.spot=none) (v:Value):(w.setCell a v).heap=w.heap.setIfInBounds a.block (.cells (c.setIfInBounds a.off v) t fz):=by
 have hb:=getElem?_lt h
 apply Array.ext_getElem?
 intro i
 show (w.heap.modify a.block _)[i]? = _
 rw [Array.getElem?_modify]
 by_cases e:a.block=i
 ·
  subst e
  rw [Array.getElem?_setIfInBounds_self_of_lt hb,h]
  simp [hs]
 ·
  rw [Array.getElem?_setIfInBounds_ne e]
  simp [e]
def OneV (v:Value):Prop:=(∀ c,v ≠ .agg c) ∧ ∀ c,v ≠ .tuple c
theorem store_far {a:Addr} {v:Value} {h:Halt} (w:World) (hv:OneV v) (hc:w.cell? a=none) (hf:w.farStore P a v (Mode.plain == Mode.atomic)=.error h):(store a v).run P w=.halt h w:=by
 cases v <;> first | exact absurd rfl (hv.1 _) | exact absurd rfl (hv.2 _) | simp only [store,Sem.run,hc,hf]
theorem store_frozen {a:Addr} {u v:Value} (w:World) (hv:OneV v) (hc:w.cell? a=some u) (hf:w.frozen? a=true):(store a v).run P w=.halt (.unsupported (.unsafePointer "a write to bytes that a string shares")) w:=by
 cases v <;> first | exact absurd rfl (hv.1 _) | exact absurd rfl (hv.2 _) | simp only [store,Sem.run,hc,hf,if_true]
theorem store_well {a:Addr} {u v:Value} (w:World) (hv:OneV v) (hc:w.cell? a=some u) (hf:w.frozen? a=false):(store a v).run P w=.ok () (w.setCell a v):=by
 cases v <;> first | exact absurd rfl (hv.1 _) | exact absurd rfl (hv.2 _) | (simp only [store,Sem.run,hc,hf];rfl)
theorem store_evs {a:Addr} {u v:Value} (w:World) (hv:OneV v) (hc:w.cell? a=some u) (hf:w.frozen? a=false) (es:Array Event):(store a v).events P w es=es ++ #[⟨.cell a,true,false⟩]:=by
 cases v <;> first | exact absurd rfl (hv.1 _) | exact absurd rfl (hv.2 _) | (simp only [store,Sem.events,Sem.runT,hc,hf];rfl)
theorem OneV.of {u v:Value} (h:VR F r u v) (hu:OneV u):OneV v:=by
 have:=h.out
 cases u <;> simp only [VStep] at this
 case agg c=>exact absurd rfl (hu.1 c)
 case tuple c=>exact absurd rfl (hu.2 c)
 case pointer=>obtain ⟨_,rfl,-⟩:=this;exact ⟨fun _ h=>(by cases h),fun _ h=>(by cases h)⟩
 case slice=>obtain ⟨_,rfl,-⟩:=this;exact ⟨fun _ h=>(by cases h),fun _ h=>(by cases h)⟩
 case map=>obtain ⟨_,rfl,-⟩:=this;exact ⟨fun _ h=>(by cases h),fun _ h=>(by cases h)⟩
 case func=>obtain ⟨_,_,rfl,-⟩:=this;exact ⟨fun _ h=>(by cases h),fun _ h=>(by cases h)⟩
 case iface=>obtain ⟨_,rfl,-⟩:=this;exact ⟨fun _ h=>(by cases h),fun _ h=>(by cases h)⟩
 all_goals (subst this;exact hu)
theorem oneV_or (v:Value):OneV v ∨ ∃ m,∀ (a:Addr) (w:World),(store a v).run P w=.halt (.stuck m) w:=by
 cases v
 case agg c=>exact .inr ⟨_,fun a w=>rfl⟩
 case tuple c=>exact .inr ⟨_,fun a w=>rfl⟩
 all_goals exact .inl ⟨fun _ h=>(by cases h),fun _ h=>(by cases h)⟩
theorem sim_store {a a':Addr} {u v:Value} (ha:AR r a a') (hv:VR F r u v):Sim P F L (fun _ _ _=>True) (store a u) (store a' v) r:=fun w w' hw=>by
 rcases oneV_or (P:=P) u with hu | ⟨m,hm⟩
 ·
  have hu':=hu.of hv
  cases hc:w.cell? a with
  | none=>
   obtain ⟨m,hm⟩:=hw.farS (P:=P) ha.1 u (Mode.plain == Mode.atomic)
   exact .inl ⟨_,w,store_far w hu hc hm,trivial⟩
  | some x=>
   cases hf:w.frozen? a with
   | true=>exact .inl ⟨_,w,store_frozen w hu hc hf,trivial⟩
   | false=>
    obtain ⟨x',h1,-⟩:=hw.cell ha hc
    obtain ⟨o,o',k1,k2,k3⟩:=hw.obj _ _ ha.1
    have hsp:a.spot=none:=by
     unfold World.cell? at hc
     rw [k1] at hc
     cases o <;> simp only [ObR] at k3 hc
     case cells c t fz=>
      cases hs:a.spot with
      | none=>rfl
      | some _=>rw [hs] at hc;cases hc
     all_goals cases hc
    have hL:L ≤ a.block:=by
     rcases Nat.lt_or_ge a.block L with hl | hl
     ·
      obtain ⟨c,t,hi,h2,h2'⟩:=hw.low _ _ ha.1 hl
      unfold World.frozen? at hf
      unfold World.cell? at hc
      rw [h2] at hf hc
      simp only [hsp,Option.isSome_none,Bool.false_eq_true,if_false] at hc
      have:=getElem?_lt hc
      have:a.off < hi:=by omega
      simp [this] at hf
     · exact hl
    cases o <;> simp only [ObR] at k3
    case cells c t fz=>
     obtain ⟨c',fz',rfl,k4,k5⟩:=k3
     have hf':w'.frozen? a'=false:=by
      unfold World.frozen? at hf ⊢
      rw [k1] at hf
      rw [k2]
      simp only [Bool.and_eq_false_iff,decide_eq_false_iff_not] at hf ⊢
      rw [ha.2.1]
      by_cases p:fz'.1 ≤ a.off
      ·
       by_cases q:a.off < fz'.2
       ·
        obtain ⟨s1,s2⟩:=k5 _ p q
        rcases hf with hf | hf
        · exact absurd s1 hf
        · exact absurd s2 hf
       · exact .inr q
      · exact .inl p
     have e1:=setCell_heap k1 hsp u
     have e2:=setCell_heap k2 (ha.2.2.trans hsp) v
     rw [ha.2.1] at e2
     refine .inr ⟨(),w.setCell a u,r,(),w'.setCell a' v,#[⟨.cell a',true,false⟩],store_well w hu hc hf,store_well w' hu' h1 hf',store_evs w' hu' h1 hf',trivial,
      hw.put ha.1 hL (o:=.cells (c.setIfInBounds a.off u) t fz) (o':=.cells (c'.setIfInBounds a.off v) t fz') ⟨_,_,rfl,k4.set _ hv,k5⟩ _ _ e1 e2 rfl rfl rfl rfl,FrR.put ha.1 hL _ e2 rfl rfl rfl rfl,fun e he=>?_,rfl,Nat.le_refl _,fun t _=>store_well (taped w t) hu hc hf⟩
     simp only [List.mem_toArray,List.mem_cons,List.not_mem_nil,or_false] at he
     subst he
     exact .inr (.inl ⟨a.block,a'.block,a'.off,a'.spot,hL,ha.1,rfl⟩)
    case map es k=>unfold World.cell? at hc;rw [k1] at hc;cases hc
    case number es k=>unfold World.cell? at hc;rw [k1] at hc;cases hc
 · exact .inl ⟨_,w,hm a w,trivial⟩
def Ren.add (r:Ren) (x y:Nat) (hx:∀ b,¬ r.rel x b) (hy:∀ a,¬ r.rel a y):Ren where
 rel a b:=r.rel a b ∨ (a=x ∧ b=y)
 fn a b c h1 h2:=by
  rcases h1 with h1 | ⟨rfl,rfl⟩ <;> rcases h2 with h2 | ⟨h2,h3⟩
  · exact r.fn _ _ _ h1 h2
  · exact absurd (h2 ▸ h1) (hx _)
  · exact absurd h2 (hx _)
  · exact h3.symm
 inj a b c h1 h2:=by
  rcases h1 with h1 | ⟨rfl,rfl⟩ <;> rcases h2 with h2 | ⟨h2,h3⟩
  · exact r.inj _ _ _ h1 h2
  · exact absurd (h3 ▸ h1) (hy _)
  · exact absurd h2 (hy _)
  · exact h2.symm
theorem sim_newObj {o o':Obj} (ho:ObR F r o o'):Sim P F L (fun t a b=>t.rel a b ∧ L ≤ a) (newObj o) (newObj o') r:=fun w w' hw=>by
 have hx:∀ b,¬ r.rel w.heap.size b:=fun b h=>absurd (hw.lt h).1 (Nat.lt_irrefl _)
 have hy:∀ a,¬ r.rel a w'.heap.size:=fun a h=>absurd (hw.lt h).2 (Nat.lt_irrefl _)
 have hle:r.Le (r.add w.heap.size w'.heap.size hx hy):=fun _ _=>.inl
 refine .inr ⟨w.heap.size,{ w with heap:=w.heap.push o },r.add w.heap.size w'.heap.size hx hy,w'.heap.size,{ w' with heap:=w'.heap.push o' },#[],rfl,rfl,fun es=>?_,⟨.inr ⟨rfl,rfl⟩,hw.size⟩,⟨fun a b hab=>?_,fun a b hab hl=>?_,fun a b hab hl=>?_,fun a b hab hl=>?_,?_,?_,hw.tape⟩,
  ⟨rfl,rfl,rfl,?_,Nat.le_refl _,fun b hb _=>?_,fun a b hab=>?_,hle⟩,by simp,rfl,Nat.le_refl _,fun _ _=>rfl⟩
 · simp only [newObj,Sem.events,Sem.runT,Array.append_empty]
 ·
  rcases hab with hab | ⟨rfl,rfl⟩
  ·
   obtain ⟨p,p',h1,h2,h3⟩:=hw.obj a b hab
   exact ⟨p,p',by show (w.heap.push o)[a]? = _;rw [Array.getElem?_push_lt (getElem?_lt h1),← h1,Array.getElem?_eq_getElem (getElem?_lt h1)],by show (w'.heap.push o')[b]? = _;rw [Array.getElem?_push_lt (getElem?_lt h2),← h2,Array.getElem?_eq_getElem (getElem?_lt h2)],h3.mono hle⟩
  · exact ⟨o,o',by simp,by simp,ho.mono hle⟩
 ·
  rcases hab with hab | ⟨rfl,rfl⟩
  ·
   obtain ⟨c,t,hi,h1,h1'⟩:=hw.low a b hab hl
   exact ⟨c,t,hi,by show (w.heap.push o)[a]? = _;rw [Array.getElem?_push_lt (getElem?_lt h1),← h1,Array.getElem?_eq_getElem (getElem?_lt h1)],h1'⟩
  · exact absurd hw.size (by omega)
 ·
  rcases hab with hab | ⟨rfl,rfl⟩
  · exact hw.base a b hab hl
  · exact absurd hw.size (by omega)
 ·
  rcases hab with hab | ⟨rfl,rfl⟩
  · exact hw.high a b hab hl
  · exact hw.size'
 ·
  show L ≤ (w.heap.push o).size
  rw [Array.size_push]
  exact Nat.le_succ_of_le hw.size
 ·
  show L ≤ (w'.heap.push o').size
  rw [Array.size_push]
  exact Nat.le_succ_of_le hw.size'
 ·
  show _ ≤ (w'.heap.push o').size
  rw [Array.size_push]
  exact Nat.le_succ _
 ·
  show (w'.heap.push o')[b]? = _
  rw [Array.getElem?_push_lt hb,Array.getElem?_eq_getElem hb]
 ·
  rcases hab with hab | ⟨rfl,rfl⟩
  · exact .inl hab
  ·
   refine .inr ⟨hw.size,Nat.le_refl _,?_⟩
   show _ < (w'.heap.push o').size
   rw [Array.size_push]
   exact Nat.lt_succ_self _
def ShR (a b:Option (TypeId × Nat)):Prop:=(a=none ∧ b=none) ∨ ∃ e n m,a=some (e,n) ∧ b=some (e,m) ∧ n ≤ m
theorem sim_shape {x y:Nat} (hx:r.rel x y):Sim P F L (fun _ a b=>ShR a b) (Go.shape x) (Go.shape y) r:=fun w w' hw=>by
 refine .inr ⟨w.shape? x,w,r,w'.shape? y,w',#[],rfl,rfl,fun es=>by simp only [Go.shape,Sem.events,Sem.runT,Array.append_empty],?_,hw,FrR.refl _ _ _,by simp,rfl,Nat.le_refl _,fun _ _=>rfl⟩
 obtain ⟨o,o',h1,h2,h3⟩:=hw.obj _ _ hx
 unfold World.shape?
 rw [h1,h2]
 cases o <;> simp only [ObR] at h3
 case cells c t fz=>obtain ⟨c',fz',rfl,h4,-⟩:=h3;exact .inr ⟨_,_,_,rfl,rfl,h4.1⟩
 case map es k=>obtain ⟨es',rfl,-⟩:=h3;exact .inl ⟨rfl,rfl⟩
 case number a l=>obtain ⟨a',rfl,-⟩:=h3;exact .inl ⟨rfl,rfl⟩
theorem WR.notCells (hw:WR F L r w w') {x y:Nat} (hx:r.rel x y) {o:Obj} (h1:w.heap[x]? = some o) (ho:∀ c t fz,o ≠ .cells c t fz):L ≤ x:=by
 rcases Nat.lt_or_ge x L with hl | hl
 ·
  obtain ⟨c,t,hi,h5,-⟩:=hw.low _ _ hx hl
  rw [h1] at h5
  exact absurd (Option.some.inj h5) (ho _ _ _)
 · exact hl
theorem sim_getObj {x y:Nat} (hx:r.rel x y):Sim P F L (fun t a b=>ObR F t a b ∧ L ≤ x) (getObj x) (getObj y) r:=fun w w' hw=>by
 obtain ⟨o,o',h1,h2,h3⟩:=hw.obj _ _ hx
 have h3':=h3
 cases o <;> simp only [ObR] at h3
 case cells c t fz=>exact .inl ⟨.stuck _,w,by simp only [getObj,Sem.run,h1];rfl,trivial⟩
 case map es k=>
  obtain ⟨es',rfl,h4⟩:=h3
  have hL:=hw.notCells hx h1 fun _ _ _ h=>by cases h
  refine .inr ⟨_,w,r,_,w',#[⟨.obj y,false,false⟩],by simp only [getObj,Sem.run,h1],by simp only [getObj,Sem.run,h2],fun es=>?_,⟨h3',hL⟩,hw,FrR.refl _ _ _,fun e he=>?_,rfl,Nat.le_refl _,fun t _=>by simp only [getObj,Sem.run,show (taped w t).heap=w.heap from rfl,h1]⟩
  ·
   simp only [getObj,Sem.events,Sem.runT,h2]
   rfl
  ·
   simp only [List.mem_toArray,List.mem_cons,List.not_mem_nil,or_false] at he
   subst he
   exact .inr (.inr (.inl ⟨x,y,false,hL,hx,rfl⟩))
 case number a l=>
  obtain ⟨a',rfl,h4⟩:=h3
  have hL:=hw.notCells hx h1 fun _ _ _ h=>by cases h
  refine .inr ⟨_,w,r,_,w',#[⟨.obj y,false,false⟩],by simp only [getObj,Sem.run,h1],by simp only [getObj,Sem.run,h2],fun es=>?_,⟨h3',hL⟩,hw,FrR.refl _ _ _,fun e he=>?_,rfl,Nat.le_refl _,fun t _=>by simp only [getObj,Sem.run,show (taped w t).heap=w.heap from rfl,h1]⟩
  ·
   simp only [getObj,Sem.events,Sem.runT,h2]
   rfl
  ·
   simp only [List.mem_toArray,List.mem_cons,List.not_mem_nil,or_false] at he
   subst he
   exact .inr (.inr (.inl ⟨x,y,false,hL,hx,rfl⟩))
theorem sim_setObj {x y:Nat} (hx:r.rel x y) {es es':Array MapEntry} {k:Nat} (ho:ObR F r (.map es k) (.map es' k)):Sim P F L (fun _ _ _=>True) (setObj x (.map es k)) (setObj y (.map es' k)) r:=fun w w' hw=>by
 obtain ⟨o,o',h1,h2,h3⟩:=hw.obj _ _ hx
 have main:(∀ c t fz,o ≠ .cells c t fz) → (∀ c t fz,o' ≠ .cells c t fz) → (∀ t,(setObj x (.map es k)).run P (taped w t)=.ok () (taped { w with heap:=w.heap.setIfInBounds x (.map es k) } t)) → (setObj y (.map es' k)).run P w'=.ok () { w' with heap:=w'.heap.setIfInBounds y (.map es' k) } →
   (∀ evs,(setObj y (.map es' k)).events P w' evs=evs ++ #[⟨.obj y,true,false⟩]) → SimAt P F L (fun _ _ _=>True) (setObj x (.map es k)) (setObj y (.map es' k)) r w w':=fun g1 _ e1 e2 e3=>by
  have hL:=hw.notCells hx h1 g1
  refine .inr ⟨(),{ w with heap:=w.heap.setIfInBounds x (.map es k) },r,(),{ w' with heap:=w'.heap.setIfInBounds y (.map es' k) },#[⟨.obj y,true,false⟩],e1 w.tape,e2,e3,trivial,
   hw.put hx hL ho _ _ rfl rfl rfl rfl rfl rfl,FrR.put hx hL _ rfl rfl rfl rfl rfl,fun e he=>?_,rfl,Nat.le_refl _,fun t _=>e1 t⟩
  simp only [List.mem_toArray,List.mem_cons,List.not_mem_nil,or_false] at he
  subst he
  exact .inr (.inr (.inl ⟨x,y,true,hL,hx,rfl⟩))
 cases o <;> simp only [ObR] at h3
 case cells c t fz=>exact .inl ⟨.stuck _,w,by simp only [setObj,Sem.run,h1];rfl,trivial⟩
 case map fs j=>
  obtain ⟨fs',rfl,h4⟩:=h3
  exact main (fun _ _ _ h=>by cases h) (fun _ _ _ h=>by cases h) (fun t=>by simp only [setObj,Sem.run,show (taped w t).heap=w.heap from rfl,h1];rfl) (by simp only [setObj,Sem.run,h2]) fun evs=>(by simp only [setObj,Sem.events,Sem.runT,h2];rfl)
 case number a l=>
  obtain ⟨a',rfl,h4⟩:=h3
  exact main (fun _ _ _ h=>by cases h) (fun _ _ _ h=>by cases h) (fun t=>by simp only [setObj,Sem.run,show (taped w t).heap=w.heap from rfl,h1];rfl) (by simp only [setObj,Sem.run,h2]) fun evs=>(by simp only [setObj,Sem.events,Sem.runT,h2];rfl)
theorem sim_choose (q:Question):Sim P F L (fun _ a b=>b=a) (choose q) (choose q) r:=fun w w' hw=>by
 cases hq:q.forced with
 | true=>exact .inr ⟨0,w,r,0,w',#[],by simp [choose,Sem.run,hq],by simp [choose,Sem.run,hq],fun es=>by simp [choose,Sem.events,Sem.runT,hq],rfl,hw,FrR.refl _ _ _,by simp,rfl,Nat.le_refl _,fun t _=>by simp [choose,Sem.run,hq]⟩
 | false=>
  refine .inr ⟨q.cut (w.tape w.drawn q),{ w with drawn:=w.drawn+1 },r,q.cut (w'.tape w'.drawn q),{ w' with drawn:=w'.drawn+1 },#[],by simp [choose,Sem.run,hq],by simp [choose,Sem.run,hq],fun es=>by simp [choose,Sem.events,Sem.runT,hq],?_,
   ⟨hw.obj,hw.low,hw.base,hw.high,hw.size,hw.size',fun j q=>?_⟩,⟨rfl,rfl,rfl,Nat.le_refl _,Nat.le_succ _,fun _ _ _=>rfl,fun _ _ h=>.inl h,Ren.Le.refl _⟩,by simp,rfl,Nat.le_succ _,fun t ht=>?_⟩
  ·
   have:=hw.tape 0 q
   simp only [Nat.add_zero] at this
   rw [this]
  ·
   have:=hw.tape (1+j) q
   simpa [Nat.add_assoc] using this
  ·
   have:=ht w.drawn q (Nat.le_refl _) (Nat.lt_succ_self _)
   simp only [choose,Sem.run,hq]
   show Result.ok (q.cut (t w.drawn q)) _=_
   rw [this]
   rfl
theorem sim_noRoom:Sim P F L (fun _ _ _=>True) (mark .noRoom) (mark .noRoom) r:=fun w w' hw=>
 .inr ⟨(),w,r,(),w',#[⟨.mark .noRoom,false,true⟩],rfl,rfl,fun es=>by simp only [mark,Sem.events,Sem.runT];rfl,trivial,hw,FrR.refl _ _ _,fun e he=>(by
  simp only [List.mem_toArray,List.mem_cons,List.not_mem_nil,or_false] at he
  subst he
  exact .inr (.inr (.inr (.inl rfl)))),rfl,Nat.le_refl _,fun _ _=>rfl⟩
theorem sim_extMark (f:FuncId):Sim P F L (fun _ _ _=>True) (mark (.extern f)) (mark (.extern f)) r:=fun w w' hw=>
 .inr ⟨(),w,r,(),w',#[⟨.mark (.extern f),false,true⟩],rfl,rfl,fun es=>by simp only [mark,Sem.events,Sem.runT];rfl,trivial,hw,FrR.refl _ _ _,fun e he=>(by
  simp only [List.mem_toArray,List.mem_cons,List.not_mem_nil,or_false] at he
  subst he
  exact .inr (.inr (.inr (.inr ⟨f,rfl⟩)))),rfl,Nat.le_refl _,fun _ _=>rfl⟩
end
end Go.Proofs.YtbokomeejmnnoaaDoor
