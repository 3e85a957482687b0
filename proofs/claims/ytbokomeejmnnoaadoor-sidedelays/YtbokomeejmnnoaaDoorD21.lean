/- Own facts, put together: no statement of its own. -/
import Derived.Test.YtbokomeejmnnoaaDoorD20
import Derived.Test.YtbokomeejmnnoaaDoorD15

namespace Go.Proofs.YtbokomeejmnnoaaDoor
section
variable {α β:Type} {P:Program} {H:Nat → Prop} {v w:World}
theorem msim_dies {m:Sem α} (h:Dies P m):MSim P H m:=fun v _ _=>.inl (h v)
theorem msim_typeInfo (t:TypeId):MSim P H (typeInfo t):=by
 unfold typeInfo
 refine msim_program ?_
 split
 · exact msim_pure _
 · exact msim_stuck _
theorem msim_underlying (t:TypeId):MSim P H (underlying t):=by
 unfold underlying
 refine msim_program ?_
 split
 · exact msim_pure _
 · exact msim_stuck _
theorem msim_zeroValue (t:TypeId):MSim P H (zeroValue t):=by
 unfold zeroValue
 refine msim_bind (msim_typeInfo t) fun a=>?_
 split
 · exact msim_pure _
 · exact msim_halt _
theorem msim_sizeOf (t:TypeId):MSim P H (sizeOf t):=msim_bind (msim_typeInfo t) fun _=>msim_pure _
theorem msim_isAgg (t:TypeId):MSim P H (isAgg t):=by
 unfold isAgg
 refine msim_bind (msim_underlying t) fun a=>?_
 split <;> exact msim_pure _
theorem msim_loadCellsFrom (a:Addr):∀ (n i:Nat) (c:Array Value),MSim P H (loadCellsFrom a i n c)
 | 0,_,_=>msim_pure _
 | n+1,i,c=>by
  unfold loadCellsFrom
  exact msim_bind (msim_load _ _) fun x=>msim_loadCellsFrom a n (i+1) (c.push x)
theorem msim_loadVar (t:TypeId) (a:Addr):MSim P H (loadVar t a):=by
 unfold loadVar
 refine msim_bind (msim_isAgg t) fun _=>msim_ite ?_ (msim_load _ _)
 exact msim_bind (msim_sizeOf t) fun n=>msim_bind (msim_loadCellsFrom a n 0 #[]) fun c=>msim_pure _
theorem msim_storeCells (a:Addr):∀ (l:List Value) (i:Nat),MSim P H (storeCells a l i)
 | [],_=>msim_pure _
 | x :: l,i=>by
  unfold storeCells
  exact msim_bind (msim_store _ _ _) fun _=>msim_storeCells a l (i+1)
theorem msim_storeVar (t:TypeId) (a:Addr) (x:Value):MSim P H (storeVar t a x):=by
 unfold storeVar
 refine msim_bind (msim_sizeOf t) fun n=>?_
 dsimp only
 split
 · exact msim_bind (msim_stuck _) fun _=>msim_storeCells _ _ _
 · exact msim_bind (msim_pure _) fun _=>msim_storeCells _ _ _
theorem msim_newRow (t:TypeId) (c:Array Value):MSim P H (newRow t c):=msim_bind (msim_newObj fun _ _ h=>by cases h) fun _=>msim_pure _
theorem msim_newVar (t:TypeId) (x:Value):MSim P H (newVar t x):=msim_newRow t _
theorem msim_part (t:TypeId) (c:Array Value) (off:Nat):MSim P H (part t c off):=by
 unfold part
 refine msim_bind (msim_isAgg t) fun _=>msim_ite (msim_bind (msim_sizeOf t) fun _=>msim_pure _) ?_
 split
 · exact msim_pure _
 · exact msim_stuck _
theorem msim_asIntOf (x:Value):MSim P H (asIntOf x):=by
 unfold asIntOf
 split
 · exact msim_pure _
 · exact msim_halt _
 · exact msim_stuck _
theorem msim_asInt (x:Value):MSim P H (asInt x):=msim_bind (msim_asIntOf x) fun _=>msim_pure _
theorem msim_asBool (x:Value):MSim P H (asBool x):=by
 unfold asBool
 split
 · exact msim_pure _
 · exact msim_stuck _
theorem msim_asAgg (x:Value):MSim P H (asAgg x):=by
 unfold asAgg
 split
 · exact msim_pure _
 · exact msim_stuck _
theorem msim_asAddr (x:Value):MSim P H (asAddr x):=by
 unfold asAddr
 split
 · exact msim_pure _
 · exact msim_dies (dies_panic _)
 · exact msim_stuck _
theorem msim_sureAddr (x:Value):MSim P H (Instr.sureAddr x):=by
 unfold Instr.sureAddr
 split
 · exact msim_pure _
 · exact msim_stuck _
theorem msim_viewAt (r:Nat):MSim P H (viewAt r):=by
 unfold viewAt
 refine msim_shape (fun x=>?_) fun _ _ _=>rfl
 refine msim_ite (msim_pure _) ?_
 refine msim_getObj (fun o=>?_) fun _ _=>rfl
 split <;> exact msim_pure _
theorem msim_noView (a:Addr):MSim P H (noView a):=by
 unfold noView
 exact msim_bind (msim_viewAt _) fun _=>msim_ite (msim_halt _) (msim_pure _)
theorem msim_byteOf (a:Addr):MSim P H (byteOf a):=by
 have tail:∀ e:TypeId,MSim P H (program >>= fun p=>(do
   let s:=p.cellsOf e
   if s=0 then return 0
   let some b:=byteOfCell p p.depth e (a.off % s) | stuck "byteOf: no such cell"
   pure (a.off / s * p.bytesOf e+b):Sem Nat)):=fun e=>by
  refine msim_program ?_
  dsimp only
  refine msim_ite (msim_pure _) ?_
  split
  · exact msim_pure _
  · exact msim_stuck _
 unfold byteOf
 split
 · exact msim_pure _
 ·
  refine msim_program ?_
  refine msim_bind (msim_noView a) fun _=>?_
  refine msim_shape (fun x=>?_) fun _ _ _=>rfl
  split
  · exact tail _
  · exact msim_stuck _
theorem msim_partAt (a:Addr) (c b:Nat):MSim P H (partAt a c b):=by
 unfold partAt
 exact msim_bind (msim_byteOf _) fun _=>msim_bind (msim_byteOf _) fun _=>msim_pure _
theorem msim_fieldPlace (a:Addr) (f:Field):MSim P H (fieldPlace a f):=by
 unfold fieldPlace
 exact msim_bind (msim_sizeOf _) fun _=>msim_ite (msim_partAt _ _ _) (msim_pure _)
theorem msim_fieldAt (s:TypeId) (x:Value) (k:Nat):MSim P H (Instr.fieldAt s x k):=by
 unfold Instr.fieldAt
 refine msim_bind (msim_underlying s) fun d=>?_
 split
 ·
  split
  · exact msim_bind (msim_sureAddr _) fun _=>msim_bind (msim_fieldPlace _ _) fun _=>msim_pure _
  · exact msim_stuck _
 · exact msim_stuck _
theorem msim_bounds (k:IntKind) (x y:Int) (c:BoundsCode):MSim P H (boundsPanic k x y c:Sem α):=msim_dies (dies_bounds k x y c)
theorem msim_panicRt (e:RuntimeError):MSim P H (runtimePanic e:Sem α):=msim_dies (dies_panic e)
theorem msim_indexAt (t:TypeId) (x i:Value):MSim P H (Instr.indexAt t x i):=by
 unfold Instr.indexAt
 refine msim_bind (msim_asIntOf i) fun p=>?_
 obtain ⟨k,i⟩:=p
 refine msim_bind (msim_underlying t) fun d=>?_
 dsimp only
 split
 ·
  refine msim_bind (msim_sureAddr _) fun a=>msim_bind (msim_pure _) fun p=>?_
  refine msim_bind (msim_underlying t) fun d=>?_
  split
  · exact msim_ite (msim_bind (msim_sizeOf _) fun _=>msim_pure _) (msim_ite (msim_halt _) (msim_bounds _ _ _ _))
  · exact msim_bounds _ _ _ _
 ·
  refine msim_bind (msim_pure _) fun p=>?_
  refine msim_bind (msim_underlying t) fun d=>?_
  split
  · exact msim_ite (msim_bind (msim_sizeOf _) fun _=>msim_pure _) (msim_ite (msim_halt _) (msim_bounds _ _ _ _))
  · exact msim_bounds _ _ _ _
 ·
  exact msim_bind (msim_stuck _) fun p=>by
   refine msim_bind (msim_underlying t) fun d=>?_
   split
   · exact msim_ite (msim_bind (msim_sizeOf _) fun _=>msim_pure _) (msim_ite (msim_halt _) (msim_bounds _ _ _ _))
   · exact msim_bounds _ _ _ _
theorem msim_sliceBound (x:Value) (n:Nat) (c:BoundsCode):MSim P H (Instr.sliceBound x n c):=by
 unfold Instr.sliceBound
 exact msim_bind (msim_asIntOf x) fun p=>msim_ite (msim_pure _) (msim_bounds _ _ _ _)
theorem msim_sliceBounds (b:Bool) (n k:Nat) (lo hi mx:Option Value):MSim P H (Instr.sliceBounds b n k lo hi mx):=by
 have low:∀ m h:Nat,MSim P H (lowOf lo m h (if mx.isSome then .slice3C else .sliceB)):=fun m h=>by
  unfold lowOf
  split
  · exact msim_bind (msim_sliceBound _ _ _) fun _=>msim_pure _
  · exact msim_pure _
 unfold Instr.sliceBounds
 cases mx <;> cases hi <;> cases lo <;> dsimp only <;>
  first
  | exact msim_bind (msim_pure _) fun _=>msim_bind (msim_pure _) fun _=>msim_bind (msim_pure _) fun _=>msim_pure _
  | exact msim_bind (msim_pure _) fun _=>msim_bind (msim_pure _) fun _=>msim_bind (msim_sliceBound _ _ _) fun _=>msim_pure _
  | exact msim_bind (msim_pure _) fun _=>msim_bind (msim_sliceBound _ _ _) fun _=>msim_bind (msim_pure _) fun _=>msim_pure _
  | exact msim_bind (msim_pure _) fun _=>msim_bind (msim_sliceBound _ _ _) fun _=>msim_bind (msim_sliceBound _ _ _) fun _=>msim_pure _
  | exact msim_bind (msim_sliceBound _ _ _) fun _=>msim_bind (msim_stuck _) fun _=>msim_bind (msim_pure _) fun _=>msim_pure _
  | exact msim_bind (msim_sliceBound _ _ _) fun _=>msim_bind (msim_stuck _) fun _=>msim_bind (msim_sliceBound _ _ _) fun _=>msim_pure _
  | exact msim_bind (msim_sliceBound _ _ _) fun _=>msim_bind (msim_sliceBound _ _ _) fun _=>msim_bind (msim_pure _) fun _=>msim_pure _
  | exact msim_bind (msim_sliceBound _ _ _) fun _=>msim_bind (msim_sliceBound _ _ _) fun _=>msim_bind (msim_sliceBound _ _ _) fun _=>msim_pure _
theorem msim_slice (t:TypeId) (x:Value) (lo hi mx:Option Value):MSim P H (Instr.slice t x lo hi mx):=by
 unfold Instr.slice
 refine msim_bind (msim_underlying t) fun d=>?_
 split
 ·
  dsimp only
  split
  · exact msim_bind (msim_stuck _) fun _=>msim_bind (msim_sliceBounds _ _ _ _ _ _) fun p=>msim_pure _
  · exact msim_bind (msim_sliceBounds _ _ _ _ _ _) fun p=>msim_pure _
 · exact msim_bind (msim_sliceBounds _ _ _ _ _ _) fun p=>msim_bind (msim_sizeOf _) fun _=>msim_pure _
 ·
  refine msim_bind (msim_asAddr _) fun a=>msim_bind (msim_underlying _) fun d=>?_
  split
  · exact msim_bind (msim_sliceBounds _ _ _ _ _ _) fun p=>msim_bind (msim_sizeOf _) fun _=>msim_pure _
  · exact msim_stuck _
 · exact msim_stuck _
theorem msim_sliceAt (t:TypeId) (x:Value) (lo hi mx:Option Value):MSim P H (Instr.sliceAt t x lo hi mx):=by
 unfold Instr.sliceAt
 refine msim_bind (msim_underlying t) fun d=>?_
 split
 · exact msim_bind (msim_sureAddr _) fun _=>msim_bind (msim_sliceBounds _ _ _ _ _ _) fun p=>msim_bind (msim_sizeOf _) fun _=>msim_pure _
 · exact msim_slice _ _ _ _ _
theorem msim_alloc (t:TypeId):MSim P H (Instr.alloc t true (.tuple #[])):=by
 unfold Instr.alloc
 exact msim_bind (msim_zeroValue t) fun _=>msim_bind (msim_newVar _ _) fun _=>msim_pure _
theorem msim_box (t:TypeId) (x:Value):MSim P H (Instr.box t x):=msim_bind (msim_newVar _ _) fun _=>msim_pure _
theorem msim_loadAt (t:TypeId) (x:Value):MSim P H (Instr.loadAt t x):=msim_bind (msim_sureAddr _) fun _=>msim_loadVar _ _
theorem msim_storeAt (t:TypeId) (x y:Value):MSim P H (Instr.storeAt t x y):=msim_bind (msim_sureAddr _) fun _=>msim_storeVar _ _ _
theorem msim_extract (x:Value) (k:Nat):MSim P H (Instr.extract x k):=by
 unfold Instr.extract
 split
 ·
  split
  · exact msim_pure _
  · exact msim_stuck _
 · exact msim_stuck _
theorem msim_field (t:TypeId) (x:Value) (k:Nat):MSim P H (Instr.field t x k):=by
 unfold Instr.field
 refine msim_bind (msim_underlying t) fun d=>?_
 split
 ·
  split
  · exact msim_bind (msim_asAgg _) fun _=>msim_part _ _ _
  · exact msim_stuck _
 · exact msim_stuck _
theorem msim_index (t:TypeId) (x i:Value):MSim P H (Instr.index t x i):=by
 unfold Instr.index
 refine msim_bind (msim_asIntOf i) fun p=>msim_bind (msim_underlying t) fun d=>?_
 split
 · exact msim_ite (msim_bind (msim_sizeOf _) fun _=>msim_part _ _ _) (msim_bounds _ _ _ _)
 ·
  split
  · exact msim_pure _
  · exact msim_bounds _ _ _ _
 · exact msim_stuck _
theorem msim_makeInterface (t:TypeId) (x:Value):MSim P H (Instr.makeInterface t x):=by
 unfold Instr.makeInterface
 refine msim_bind (msim_underlying t) fun d=>?_
 split
 · exact msim_stuck _
 · exact msim_pure _
theorem msim_mapM {γ:Type} {f:γ → Sem β} (h:∀ x,MSim P H (f x)):∀ l:List γ,MSim P H (l.mapM f)
 | []=>by rw [List.mapM_nil];exact msim_pure _
 | x :: l=>by
  rw [List.mapM_cons]
  exact msim_bind (h x) fun _=>msim_bind (msim_mapM h l) fun _=>msim_pure _
theorem msim_mapA {γ:Type} {f:γ → Sem β} (h:∀ x,MSim P H (f x)) (a:Array γ):MSim P H (a.mapM f):=by
 rw [Array.mapM_eq_mapM_toList]
 exact msim_bind (msim_mapM h _) fun _=>msim_pure _
theorem msim_build (t:TypeId) (l:Array (Nat × Value)):MSim P H (Instr.build t l):=by
 unfold Instr.build
 refine msim_bind (msim_zeroValue t) fun z=>msim_bind (msim_underlying t) fun d=>?_
 split
 ·
  refine msim_bind (msim_mapA (fun f=>msim_bind (msim_sizeOf _) fun _=>msim_pure _) _) fun p=>?_
  split
  · exact msim_pure _
  · exact msim_stuck _
 ·
  refine msim_bind (msim_sizeOf _) fun n=>?_
  split
  · exact msim_pure _
  · exact msim_stuck _
 · exact msim_stuck _
theorem msim_askRoom (n:Nat):MSim P H (askRoom n):=msim_ite (msim_mark (.inl rfl)) (msim_pure _)
end
section
variable {α β:Type} {P:Program} {H:Nat → Prop} {v w:World}
theorem msim_shapeN {r:Nat} {k:Option (TypeId × Nat) → Sem α} (h:∀ x,MSim P H (k x)) (hk:∀ e,Dies P (k (some (e,0)))):MSim P H (Go.shape r >>= k):=fun v w hm=>by
 by_cases hn:H r
 ·
  obtain ⟨c,t,h1,h2⟩:=hm.hid _ hn
  have h3:v.shape? r=some (t,0):=by simp only [World.shape?,h2];rfl
  obtain ⟨x,v1,h4,h5⟩:=hk t v
  refine .inl ⟨x,v1,?_,h5⟩
  show (k (v.shape? r)).run P v=.halt x v1
  rw [h3]
  exact h4
 ·
  have hkk:w.shape? r=v.shape? r:=by
   rcases hm.seen _ hn with ⟨hs,-⟩ | ⟨c,e,h1,h2⟩
   · simp only [World.shape?,hs]
   · simp only [World.shape?,h1,h2]
  rcases h (v.shape? r) _ _ hm with ⟨z,v1,k1,hz⟩ | ⟨b,v',w',u,k0,k1,k2,k3,k4,k5,k6⟩
  · exact .inl ⟨z,v1,k1,hz⟩
  ·
   refine .inr ⟨b,v',w',u,k0,?_,k2,k3,fun es=>?_,k5,k6.1,k6.2.1,fun t ht=>k6.2.2 t ht⟩
   ·
    show (k (w.shape? r)).run P w=.ok b w'
    rw [hkk]
    exact k1
   ·
    have:=k4 es
    simp only [Sem.events] at this ⊢
    show ((k (w.shape? r)).runT P w es).2=_
    rw [hkk]
    exact this
def Looks (P:Program) (m:Sem α) (f:World → α):Prop:=∀ w,m.run P w=.ok (f w) w ∧ (∀ es,m.events P w es=es) ∧ ∀ t,f (taped w t)=f w
theorem looks_bind {m:Sem α} {k:α → Sem β} {f:World → α} {g:α → World → β} (h:Looks P m f) (hk:∀ a,Looks P (k a) (g a)):Looks P (m >>= k) fun w=>g (f w) w:=fun w=>by
 refine ⟨by rw [Sem.run_bind,(h w).1];exact (hk _ w).1,fun es=>?_,fun t=>?_⟩
 ·
  rw [Sem.events_bind,(h w).2.1,(h w).1]
  exact (hk _ w).2.1 es
 ·
  dsimp only
  rw [(h w).2.2]
  exact (hk _ w).2.2 t
theorem looks_pure (a:α):Looks P (pure a:Sem α) fun _=>a:=fun w=>⟨rfl,(fun es=>by simp),fun _=>rfl⟩
theorem looks_frozen (a:Addr):Looks P (frozen a) fun w=>w.frozen? a:=fun w=>⟨rfl,(fun es=>by simp [frozen,Sem.events,Sem.runT]),fun _=>rfl⟩
theorem looks_shape (r:Nat):Looks P (Go.shape r) fun w=>w.shape? r:=fun w=>⟨rfl,(fun es=>by simp [Go.shape,Sem.events,Sem.runT]),fun _=>rfl⟩
theorem msim_looks {m:Sem α} (f:World → α) (hf:Looks P m f) (h:∀ v w,Mask H v w → f w=f v):MSim P H m:=fun v w hm=>
 .inr ⟨f v,v,w,#[],(hf v).1,by rw [(hf w).1,h v w hm],hm,Kept.refl _ _,fun es=>by rw [(hf w).2.1];simp,by simp,rfl,Nat.le_refl _,fun t _=>by rw [(hf (taped v t)).1,(hf v).2.2]⟩
theorem msim_asks {m:Sem α} (h:Asks P m):MSim P H m:=by
 rcases h with ⟨a,h⟩ | h
 · exact msim_looks (fun _=>a) (fun w=>⟨(h w).1,(h w).2,fun _=>rfl⟩) fun _ _ _=>rfl
 · exact msim_dies h
def stringishAt (w:World) (a:Addr):Bool:=w.frozen? a || (match w.shape? a.block with | some (_,n)=>w.frozen? { block:=a.block,off:=n } | none=>false)
def emptyAt (w:World) (a:Addr):Bool:=w.shape? a.block matches some (_,0)
theorem stringish_is (a:Addr):Looks P (stringish a) fun w=>stringishAt w a:=by
 have h:=looks_bind (looks_frozen (P:=P) a) (k:=fun b=>if b then return true else do
   match ← Go.shape a.block with
   | some (_,n)=>frozen { block:=a.block,off:=n }
   | none=>pure false) (g:=fun b w=>b || (match w.shape? a.block with | some (_,n)=>w.frozen? { block:=a.block,off:=n } | none=>false)) fun b=>by
  cases b
  ·
   refine looks_bind (looks_shape a.block) (g:=fun x w=>match x with | some (_,n)=>w.frozen? { block:=a.block,off:=n } | none=>false) fun x=>?_
   cases x with
   | none=>exact looks_pure _
   | some y=>exact looks_frozen _
  · exact looks_pure _
 exact h
theorem Mask.shapeOff (hm:Mask H v w) {r:Nat} (hn:¬ H r):w.shape? r=v.shape? r:=by
 rcases hm.seen _ hn with ⟨hs,-⟩ | ⟨c,e,h1,h2⟩
 · simp only [World.shape?,hs]
 · simp only [World.shape?,h1,h2]
theorem Mask.stringish (hm:Mask H v w) (a:Addr):stringishAt w a=stringishAt v a:=by
 unfold stringishAt
 rw [hm.frozen]
 by_cases hn:H a.block
 ·
  obtain ⟨c,e,h1,h2⟩:=hm.hid _ hn
  have e1:w.shape? a.block=some (e,c.size):=by simp only [World.shape?,h1]
  have e2:v.shape? a.block=some (e,0):=by simp only [World.shape?,h2];rfl
  rw [e1,e2]
  have f1:∀ o,w.frozen? { block:=a.block,off:=o }=false:=fun o=>by simp [World.frozen?,h1]
  have f2:∀ o,v.frozen? { block:=a.block,off:=o }=false:=fun o=>by simp [World.frozen?,h2]
  simp only [f1,f2]
 ·
  have e1:=hm.shapeOff hn
  rw [e1]
  cases v.shape? a.block with
  | none=>rfl
  | some x=>simp only [hm.frozen]
theorem Mask.oneOrNone (hm:Mask H v w) (a:Addr):(stringishAt w a && emptyAt w a)=(stringishAt v a && emptyAt v a):=by
 rw [hm.stringish]
 by_cases hn:H a.block
 ·
  obtain ⟨c,e,h1,h2⟩:=hm.hid _ hn
  have:stringishAt v a=false:=by
   unfold stringishAt
   simp [World.frozen?,World.shape?,h2]
  rw [this]
  simp
 ·
  have e1:=hm.shapeOff hn
  unfold emptyAt
  rw [e1]
theorem looks_empty (a:Addr):Looks P (do pure ((← Go.shape a.block) matches some (_,0)):Sem Bool) fun w=>emptyAt w a:=looks_bind (looks_shape a.block) fun _=>looks_pure _
theorem msim_mayBeOne (a b:Addr):MSim P H (mayBeOne a b):=by
 refine msim_looks (fun w=>(stringishAt w a && stringishAt w b) || (stringishAt w a && emptyAt w a) || (stringishAt w b && emptyAt w b)) ?_ fun v w hm=>?_
 ·
  exact looks_bind (stringish_is a) (g:=fun x w=>(x && stringishAt w b) || (x && emptyAt w a) || (stringishAt w b && emptyAt w b)) fun x=>looks_bind (stringish_is b) (g:=fun y w=>(x && y) || (x && emptyAt w a) || (y && emptyAt w b)) fun y=>
   looks_bind (looks_empty a) (g:=fun z w=>(x && y) || (x && z) || (y && emptyAt w b)) fun z=>looks_bind (looks_empty b) fun z'=>looks_pure _
 · rw [hm.oneOrNone a,hm.oneOrNone b,hm.stringish,hm.stringish]
theorem msim_sameAddr (a b:Addr):MSim P H (sameAddr a b):=by
 unfold sameAddr
 refine msim_ite (msim_pure _) ?_
 refine msim_bind (msim_frozen a) fun x=>msim_bind (msim_frozen b) fun y=>?_
 have tail:MSim P H (do
   noView a
   noView b
   if ← mayBeOne a b then return (← choose (.extern "sameAddr.stringBytes" 2)) == 1
   pure false):=msim_bind (msim_noView a) fun _=>msim_bind (msim_noView b) fun _=>msim_bind (msim_mayBeOne a b) fun _=>msim_ite (msim_bind (msim_choose _) fun _=>msim_pure _) (msim_pure _)
 exact msim_ite (msim_bind (msim_halt _) fun _=>tail) tail
end
section
variable {α β γ:Type} {P:Program} {H:Nat → Prop} {v w:World}
theorem msim_forList {f:α → β → Sem (ForInStep β)} (h:∀ x b,MSim P H (f x b)):∀ (l:List α) (b:β),MSim P H (forIn l b f)
 | [],b=>by rw [List.forIn_nil];exact msim_pure _
 | x :: l,b=>by
  rw [List.forIn_cons]
  refine msim_bind (h x b) fun r=>?_
  cases r with
  | done b=>exact msim_pure _
  | yield b=>exact msim_forList h l b
theorem msim_forArr {f:α → β → Sem (ForInStep β)} (h:∀ x b,MSim P H (f x b)) (a:Array α) (b:β):MSim P H (forIn a b f):=by
 rw [← Array.forIn_toList]
 exact msim_forList h _ b
theorem msim_forRange {f:Nat → β → Sem (ForInStep β)} (h:∀ x b,MSim P H (f x b)) (n:Nat) (b:β):MSim P H (forIn [0:n] b f):=by
 rw [Std.Legacy.Range.forIn_eq_forIn_range']
 exact msim_forList h _ b
theorem msim_numberAt (r:Nat):MSim P H (numberAt r):=by
 unfold numberAt
 refine msim_shape (fun x=>?_) fun _ _ _=>rfl
 refine msim_ite (msim_pure _) ?_
 refine msim_getObj (fun o=>?_) fun _ _=>rfl
 split <;> exact msim_pure _
theorem msim_behind (a:Addr):MSim P H (behindNumber a):=msim_bind (msim_numberAt _) fun _=>msim_pure _
theorem msim_asNumber (a:Addr) (l:Bool):MSim P H (asNumber a l):=msim_bind (msim_newObj fun _ _ h=>by cases h) fun _=>msim_pure _
theorem msim_samePointer (a b:Option Addr):MSim P H (samePointer a b):=by
 unfold samePointer
 split
 · exact msim_sameAddr _ _
 · exact msim_pure _
theorem asks_typeStr (t:TypeId):Asks P (typeStr t):=by
 unfold typeStr
 exact asks_bind (asks_typeInfo t) fun i=>asks_ite (asks_dies (dies_halt trivial)) (asks_pure _)
theorem msim_equalIn:∀ (d:Nat) (t:TypeId) (x y:Value),MSim P H (Op.equalIn d t x y)
 | 0,_,_,_=>msim_halt _
 | d+1,t,x,y=>by
  unfold Op.equalIn
  refine msim_bind (msim_underlying t) fun u=>?_
  split
  all_goals first
   | exact msim_pure _
   | exact msim_stuck _
   | exact msim_halt _
   | exact msim_ite (msim_pure _) (msim_stuck _)
   | exact msim_samePointer _ _
   | skip
  ·
   refine msim_bind (msim_behind _) fun a=>msim_bind (msim_behind _) fun b=>?_
   dsimp only
   refine msim_program (msim_ite (msim_bind (msim_byteOf _) fun _=>msim_bind (msim_byteOf _) fun _=>msim_pure _) (msim_bind (msim_typeInfo _) fun i=>?_))
   split
   · exact msim_ite (msim_pure _) (msim_halt _)
   · exact msim_halt _
  · exact msim_bind (msim_sizeOf _) fun _=>msim_ite (msim_sameAddr _ _) (msim_ite (msim_pure _) (msim_bind (msim_choose _) fun _=>msim_pure _))
  ·
   refine msim_ite (msim_pure _) (msim_bind (msim_typeInfo _) fun i=>msim_ite ?_ (msim_equalIn d _ _ _))
   refine msim_program (msim_program ?_)
   dsimp only
   exact msim_ite (msim_bind (msim_halt _) fun _=>msim_bind (msim_asks (asks_typeStr _)) fun _=>msim_panicRt _) (msim_bind (msim_asks (asks_typeStr _)) fun _=>msim_panicRt _)
  ·
   refine msim_program ?_
   dsimp only
   refine msim_ite (msim_bind (msim_halt _) fun _=>msim_bind (msim_forArr (fun f b=>?_) _ _) fun z=>(by split <;> exact msim_pure _)) (msim_bind (msim_forArr (fun f b=>?_) _ _) fun z=>(by split <;> exact msim_pure _))
   · exact msim_ite (msim_bind (msim_part _ _ _) fun _=>msim_bind (msim_part _ _ _) fun _=>msim_bind (msim_equalIn d _ _ _) fun _=>msim_ite (msim_pure _) (msim_pure _)) (msim_pure _)
   · exact msim_ite (msim_bind (msim_part _ _ _) fun _=>msim_bind (msim_part _ _ _) fun _=>msim_bind (msim_equalIn d _ _ _) fun _=>msim_ite (msim_pure _) (msim_pure _)) (msim_pure _)
  ·
   refine msim_bind (msim_sizeOf _) fun n=>msim_bind (msim_forRange (fun i b=>?_) _ _) fun z=>(by dsimp only;split <;> exact msim_pure _)
   exact msim_bind (msim_part _ _ _) fun _=>msim_bind (msim_part _ _ _) fun _=>msim_bind (msim_equalIn d _ _ _) fun _=>msim_ite (msim_pure _) (msim_pure _)
theorem msim_eqGuardIn:∀ (d:Nat) (t:TypeId) (x y:Value),MSim P H (Op.eqGuardIn d t x y)
 | 0,_,_,_=>msim_halt _
 | d+1,t,x,y=>by
  unfold Op.eqGuardIn
  refine msim_bind (msim_underlying t) fun u=>?_
  split
  · exact msim_pure _
  ·
   refine msim_bind (msim_forArr (fun f b=>?_) _ _) fun z=>(by dsimp only;split <;> exact msim_pure _)
   exact msim_ite (msim_bind (msim_part _ _ _) fun _=>msim_bind (msim_part _ _ _) fun _=>msim_bind (msim_eqGuardIn d _ _ _) fun _=>msim_ite (msim_pure _) (msim_pure _)) (msim_pure _)
  ·
   refine msim_bind (msim_sizeOf _) fun n=>msim_bind (msim_forRange (fun i b=>?_) _ _) fun z=>(by dsimp only;split <;> exact msim_pure _)
   exact msim_bind (msim_part _ _ _) fun _=>msim_bind (msim_part _ _ _) fun _=>msim_bind (msim_eqGuardIn d _ _ _) fun _=>msim_ite (msim_pure _) (msim_pure _)
  · exact msim_pure _
theorem msim_eqGuard (op:BinOp) (t:TypeId) (x y:Operand) (a b:Value):MSim P H (eqGuard op t x y a b):=by
 unfold eqGuard
 refine msim_ite (msim_pure _) ?_
 split
 · exact msim_ite (msim_pure _) (msim_bind (msim_eqGuardIn _ _ _ _) fun _=>msim_ite (msim_halt _) (msim_pure _))
 · exact msim_program (msim_program (msim_ite (msim_pure _) (msim_bind (msim_eqGuardIn _ _ _ _) fun _=>msim_ite (msim_halt _) (msim_pure _))))
 · exact msim_pure _
theorem cellAt_none (p:Program) (d:Nat) (e:TypeId) (n off:Nat) (b:Int):cellAtBytes p d e (0 / n) off b=none:=by
 unfold cellAtBytes
 simp only [Nat.zero_div,Nat.zero_mul]
 split
 · rfl
 ·
  cases byteOfCell p d e (off % p.cellsOf e) with
  | none=>rfl
  | some here=>
   simp only [Option.bind_eq_bind,Option.bind_some,Int.ofNat_eq_natCast]
   rw [if_pos (by simp;omega)]
   rfl
theorem msim_addAt (a:Addr) (n:Int):MSim P H (do
  let some (e,cells) ← Go.shape a.block | unsupported (.unsafePointer "Add")
  let p ← program
  match cellAtBytes p p.depth e (cells / p.cellsOf e) a.off n with
  | some off=>pure (.pointer (some { a with off }))
  | none=>unsupported (.unsafePointer "Add"):Sem Value):=by
 refine msim_shapeN (fun x=>?_) fun e=>?_
 ·
  split
  ·
   refine msim_program ?_
   split
   · exact msim_pure _
   · exact msim_halt _
  · exact msim_halt _
 ·
  show Dies P (match cellAtBytes P P.depth e (0 / P.cellsOf e) a.off n with
   | some off=>pure (.pointer (some { a with off }))
   | none=>unsupported (.unsafePointer "Add"):Sem Value)
  rw [cellAt_none]
  exact dies_halt (h:=.unsupported (.unsafePointer "Add")) trivial
theorem msim_unsafeAdd (ts:Array TypeId) (t:TypeId) (x y:Value):MSim P H (Builtin.unsafeAdd_ ts t #[x,y]):=by
 unfold Builtin.unsafeAdd_
 cases x <;> dsimp only <;> first | exact msim_stuck _ | skip
 rename_i ptr
 refine msim_bind (msim_asInt _) fun n=>?_
 have last:MSim P H (match ptr with
   | some a=>do
    let __x ← Go.shape a.block
    match __x with
     | some (e,cells)=>do
      let p ← program
      match cellAtBytes p p.depth e (cells / p.cellsOf e) a.off n with
       | some off=>pure (Value.pointer (some { block:=a.block,off:=off,spot:=a.spot }))
       | none=>unsupported (Unsupported.unsafePointer "Add")
     | _=>unsupported (Unsupported.unsafePointer "Add")
   | _=>unsupported (Unsupported.unsafePointer "Add"):Sem Value):=by
  cases ptr with
  | none=>exact msim_halt _
  | some a=>exact msim_addAt a n
 refine msim_ite ?_ (msim_ite (msim_bind (msim_halt _) fun _=>last) last)
 cases ptr with
 | none=>exact msim_bind (msim_halt _) fun _=>msim_ite (msim_bind (msim_halt _) fun _=>last) last
 | some a=>exact msim_bind (msim_viewAt _) fun _=>msim_ite (msim_bind (msim_halt _) fun _=>msim_pure _) (msim_pure _)
theorem msim_movedNumber (t:TypeId) (x y:Value):MSim P H (movedNumber t x y):=by
 unfold movedNumber
 refine msim_bind (msim_underlying t) fun d=>?_
 have last:MSim P H (match x with
   | .pointer (some n)=>do
    let z ← behindNumber n
    match z with
    | (a,lost)=>do
     match ← Builtin.unsafeAdd_ #[] t #[.pointer (some a),y] with
     | .pointer (some b)=>asNumber b lost
     | v=>pure v
   | _=>Builtin.unsafeAdd_ #[] t #[x,y]:Sem Value):=by
  split
  ·
   refine msim_bind (msim_behind _) fun z=>msim_bind (msim_unsafeAdd _ _ _ _) fun q=>?_
   split
   · exact msim_asNumber _ _
   · exact msim_pure _
  · exact msim_unsafeAdd _ _ _ _
 exact msim_ite (msim_bind (msim_halt _) fun _=>last) last
theorem msim_movedPointer (t:TypeId) (x y:Value):MSim P H (movedPointer t x y):=by
 unfold movedPointer
 split
 · exact msim_bind (msim_numberAt _) fun _=>msim_ite (msim_bind (msim_halt _) fun _=>msim_unsafeAdd _ _ _ _) (msim_unsafeAdd _ _ _ _)
 · exact msim_unsafeAdd _ _ _ _
theorem msim_twoPlaces (a b:Addr):MSim P H (Op.twoPlaces a b):=by
 unfold Op.twoPlaces
 refine msim_program ?_
 have last:MSim P H (do pure (← byteOf a,← byteOf b):Sem (Nat × Nat)):=msim_bind (msim_byteOf _) fun _=>msim_bind (msim_byteOf _) fun _=>msim_pure _
 exact msim_ite (msim_bind (msim_halt _) fun _=>last) last
theorem msim_addrMod (k:IntKind) (a:Addr) (n:Int):MSim P H (Op.addrMod k a n):=by
 unfold Op.addrMod
 refine msim_shape (fun x=>?_) fun _ _ _=>rfl
 split
 ·
  refine msim_bind (msim_typeInfo _) fun i=>?_
  exact msim_ite (msim_bind (msim_halt _) fun _=>msim_bind (msim_byteOf _) fun _=>msim_pure _) (msim_bind (msim_byteOf _) fun _=>msim_pure _)
 · exact msim_halt _
end
end Go.Proofs.YtbokomeejmnnoaaDoor
