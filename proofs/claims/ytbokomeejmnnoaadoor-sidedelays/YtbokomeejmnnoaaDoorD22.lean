/- Own facts, put together: no statement of its own. -/
import Derived.Test.YtbokomeejmnnoaaDoorD21

namespace Go.Proofs.YtbokomeejmnnoaaDoor
section
variable {α β γ:Type} {P:Program} {H:Nat → Prop} {v w:World}
theorem msim_intArith (op:BinOp) (k:IntKind) (a b:Int):MSim P H (Op.intArith op k a b):=by
 unfold Op.intArith
 split <;> first | exact msim_pure _ | exact msim_stuck _
theorem msim_intBits (op:BinOp) (k:IntKind) (a b:Int):MSim P H (Op.intBits op k a b):=by
 unfold Op.intBits
 dsimp only
 split <;> first | exact msim_pure _ | exact msim_stuck _
theorem msim_intCmp (op:BinOp) (a b:Int):MSim P H (Op.intCmp op a b):=by
 unfold Op.intCmp
 split <;> first | exact msim_pure _ | exact msim_stuck _
theorem msim_intDiv (op:BinOp) (k:IntKind) (a b:Int):MSim P H (Op.intDiv op k a b):=by
 unfold Op.intDiv
 refine msim_ite (msim_panicRt _) ?_
 split <;> first | exact msim_pure _ | exact msim_stuck _
theorem msim_shift (op:BinOp) (k k':IntKind) (a b:Int):MSim P H (Op.shift op k a k' b):=by
 unfold Op.shift
 refine msim_ite (msim_panicRt _) ?_
 dsimp only
 split <;> first | exact msim_pure _ | exact msim_stuck _
theorem msim_stringOp (op:BinOp) (a b:ByteArray):MSim P H (Op.stringOp op a b):=by
 unfold Op.stringOp
 dsimp only
 split <;> first | exact msim_pure _ | exact msim_stuck _ | exact msim_ite (msim_halt _) (msim_pure _)
theorem msim_addrSub (k:IntKind) (a b:Addr):MSim P H (Op.addrSub k a b):=msim_bind (msim_twoPlaces a b) fun _=>msim_pure _
theorem msim_addrCmp (op:BinOp) (a b:Addr):MSim P H (Op.addrCmp op a b):=by
 unfold Op.addrCmp
 refine msim_bind (msim_twoPlaces a b) fun z=>?_
 dsimp only
 cases op <;> first | exact msim_pure _ | exact msim_halt _
theorem msim_floatArith (op:BinOp) (k:FloatKind) (a b:Nat):MSim P H (Op.floatArith op k a b):=by
 have last:∀ r:Option Nat,MSim P H (match r with | some r=>pure (.float k r) | none=>do pure (.float k (← choose (.nanBits k a b))):Sem Value):=fun r=>by
  cases r with
  | none=>exact msim_bind (msim_choose _) fun _=>msim_pure _
  | some _=>exact msim_pure _
 unfold Op.floatArith
 cases op <;> first | exact msim_bind (msim_pure _) last | exact msim_bind (msim_stuck _) last
theorem msim_floatCmp (op:BinOp) (k:FloatKind) (a b:Nat):MSim P H (Op.floatCmp op k a b):=by
 unfold Op.floatCmp
 cases op <;> first | exact msim_pure _ | exact msim_stuck _
section
open Op.Complex
theorem msim_arith (op:BinOp) (k:FloatKind) (a b:Nat):MSim P H (arith op k a b):=by
 unfold arith
 refine msim_bind (msim_floatArith _ _ _ _) fun x=>?_
 cases x <;> first | exact msim_pure _ | exact msim_stuck _
theorem msim_cmp (op:BinOp) (k:FloatKind) (a b:Nat):MSim P H (cmp op k a b):=msim_bind (msim_floatCmp _ _ _ _) fun _=>msim_asBool _
theorem msim_floatToFloat (k:FloatKind) (a:Nat) (k':FloatKind):MSim P H (Conv.floatToFloat k a k'):=by
 unfold Conv.floatToFloat
 refine msim_ite (msim_pure _) ?_
 split
 · exact msim_bind (msim_choose _) fun _=>msim_pure _
 · exact msim_pure _
 · exact msim_ite (msim_bind (msim_choose _) fun _=>msim_pure _) (msim_pure _)
theorem msim_conv (k:FloatKind) (a:Nat) (k':FloatKind):MSim P H (conv k a k'):=by
 unfold conv
 refine msim_ite (msim_pure _) (msim_bind (msim_floatToFloat _ _ _) fun x=>?_)
 cases x <;> first | exact msim_pure _ | exact msim_stuck _
theorem msim_product (a b c d:Nat):MSim P H (product a b c d):=
 msim_bind (msim_arith _ _ _ _) fun _=>msim_bind (msim_arith _ _ _ _) fun _=>msim_bind (msim_arith _ _ _ _) fun _=>msim_bind (msim_arith _ _ _ _) fun _=>msim_bind (msim_arith _ _ _ _) fun _=>msim_bind (msim_arith _ _ _ _) fun _=>msim_pure _
theorem msim_corrected (s a b c d:Nat):MSim P H (corrected s a b c d):=
 msim_bind (msim_arith _ _ _ _) fun _=>msim_bind (msim_arith _ _ _ _) fun _=>msim_bind (msim_arith _ _ _ _) fun _=>msim_bind (msim_arith _ _ _ _) fun _=>msim_bind (msim_arith _ _ _ _) fun _=>msim_bind (msim_arith _ _ _ _) fun _=>msim_bind (msim_arith _ _ _ _) fun _=>msim_bind (msim_arith _ _ _ _) fun _=>msim_pure _
theorem msim_quotient (a b c d:Nat):MSim P H (quotient a b c d):=by
 have last:∀ e f:Nat,MSim P H (do
   let zero:=(← cmp .eql .f64 c 0) && (← cmp .eql .f64 d 0)
   if !(isNaN e && isNaN f) then pure (e,f)
   else if zero && (!isNaN a || !isNaN b) then
    pure (← mul (copysign inf c) a,← mul (copysign inf c) b)
   else if (isInf a || isInf b) && isFinite c && isFinite d then
    corrected inf (inf2one a) (inf2one b) c d
   else if (isInf c || isInf d) && isFinite a && isFinite b then
    corrected 0 a b (inf2one c) (inf2one d)
   else pure (e,f)):=fun e f=>
  msim_bind (msim_cmp _ _ _ _) fun _=>msim_bind (msim_cmp _ _ _ _) fun _=>msim_ite (msim_pure _) (msim_ite (msim_bind (msim_arith _ _ _ _) fun _=>msim_bind (msim_arith _ _ _ _) fun _=>msim_pure _) (msim_ite (msim_corrected _ _ _ _ _) (msim_ite (msim_corrected _ _ _ _ _) (msim_pure _))))
 unfold quotient
 refine msim_bind (msim_cmp _ _ _ _) fun _=>?_
 refine msim_ite ?_ ?_
 · exact msim_bind (msim_arith _ _ _ _) fun _=>msim_bind (msim_arith _ _ _ _) fun _=>msim_bind (msim_arith _ _ _ _) fun _=>msim_bind (msim_arith _ _ _ _) fun _=>msim_bind (msim_arith _ _ _ _) fun _=>msim_bind (msim_arith _ _ _ _) fun _=>msim_bind (msim_arith _ _ _ _) fun _=>msim_bind (msim_arith _ _ _ _) fun _=>msim_bind (msim_arith _ _ _ _) fun _=>msim_bind (msim_pure _) fun z=>last z.1 z.2
 · exact msim_bind (msim_arith _ _ _ _) fun _=>msim_bind (msim_arith _ _ _ _) fun _=>msim_bind (msim_arith _ _ _ _) fun _=>msim_bind (msim_arith _ _ _ _) fun _=>msim_bind (msim_arith _ _ _ _) fun _=>msim_bind (msim_arith _ _ _ _) fun _=>msim_bind (msim_arith _ _ _ _) fun _=>msim_bind (msim_arith _ _ _ _) fun _=>msim_bind (msim_arith _ _ _ _) fun _=>msim_bind (msim_pure _) fun z=>last z.1 z.2
theorem msim_complexOp (op:BinOp) (k:FloatKind) (a b c d:Nat):MSim P H (Op.complexOp op k a b c d):=by
 unfold Op.complexOp
 split
 · exact msim_bind (msim_arith _ _ _ _) fun _=>msim_bind (msim_arith _ _ _ _) fun _=>msim_pure _
 · exact msim_bind (msim_arith _ _ _ _) fun _=>msim_bind (msim_arith _ _ _ _) fun _=>msim_pure _
 ·
  refine msim_bind (msim_conv _ _ _) fun _=>msim_bind (msim_conv _ _ _) fun _=>msim_bind (msim_conv _ _ _) fun _=>msim_bind (msim_conv _ _ _) fun _=>?_
  exact msim_bind (msim_product _ _ _ _) fun _=>msim_bind (msim_conv _ _ _) fun _=>msim_bind (msim_conv _ _ _) fun _=>msim_pure _
 ·
  refine msim_bind (msim_conv _ _ _) fun _=>msim_bind (msim_conv _ _ _) fun _=>msim_bind (msim_conv _ _ _) fun _=>msim_bind (msim_conv _ _ _) fun _=>?_
  exact msim_bind (msim_quotient _ _ _ _) fun _=>msim_bind (msim_conv _ _ _) fun _=>msim_bind (msim_conv _ _ _) fun _=>msim_pure _
 · exact msim_bind (msim_cmp _ _ _ _) fun _=>msim_bind (msim_cmp _ _ _ _) fun _=>msim_pure _
 · exact msim_bind (msim_cmp _ _ _ _) fun _=>msim_bind (msim_cmp _ _ _ _) fun _=>msim_pure _
 · exact msim_stuck _
end
theorem msim_binOp (op:BinOp) (t:TypeId) (x y:Value):MSim P H (binOp op t x y):=by
 unfold binOp
 split
 all_goals first
  | exact msim_shift _ _ _ _ _
  | exact msim_stringOp _ _ _
  | exact msim_movedNumber _ _ _
  | exact msim_halt _
  | exact msim_stuck _
  | exact msim_bind (msim_equalIn _ _ _ _) fun _=>msim_pure _
  | exact msim_bind (msim_underlying _) fun _=>msim_ite (msim_movedPointer _ _ _) (msim_movedNumber _ _ _)
  | exact msim_bind (msim_behind _) fun _=>msim_bind (msim_behind _) fun _=>msim_addrSub _ _ _
  | exact msim_bind (msim_behind _) fun _=>msim_bind (msim_behind _) fun _=>msim_addrCmp _ _ _
  | exact msim_bind (msim_behind _) fun _=>msim_addrMod _ _ _
  | skip
 ·
  refine msim_ite (msim_stuck _) ?_
  cases op <;> first | exact msim_intArith _ _ _ _ | exact msim_intDiv _ _ _ _ | exact msim_intBits _ _ _ _ | exact msim_intCmp _ _ _
 ·
  refine msim_ite (msim_stuck _) ?_
  cases op <;> first | exact msim_floatArith _ _ _ _ | exact msim_floatCmp _ _ _ _
 · exact msim_ite (msim_stuck _) (msim_complexOp _ _ _ _ _ _)
theorem msim_unary (op:UnOp) (x:Value):MSim P H (Op.unary op x):=by
 unfold Op.unary
 split
 all_goals first
  | exact msim_pure _
  | exact msim_halt _
  | exact msim_intArith _ _ _ _
  | exact msim_intBits _ _ _ _
theorem msim_makeChan (t:TypeId) (x:Value):MSim P H (Instr.makeChan t x):=by
 unfold Instr.makeChan
 refine msim_bind (msim_asInt _) fun n=>msim_bind (msim_underlying t) fun d=>?_
 split
 ·
  rename_i elem
  refine msim_bind (msim_typeInfo _) fun i=>?_
  have tail:MSim P H (do pure (.chan (some (← newObj (.chan n.toNat #[] false 0 0 false)))):Sem Value):=msim_bind (msim_newObj fun _ _ h=>by cases h) fun _=>msim_pure _
  dsimp only
  split
  · exact msim_bind (msim_panicRt _) fun _=>tail
  · exact tail
 · exact msim_stuck _
theorem msim_makeSlice (t:TypeId) (l c:Value):MSim P H (Instr.makeSlice t l c):=by
 unfold Instr.makeSlice
 refine msim_bind (msim_underlying t) fun d=>?_
 split
 ·
  rename_i elem
  refine msim_bind (msim_asInt _) fun len=>msim_bind (msim_asInt _) fun cap=>msim_bind (msim_typeInfo _) fun i=>?_
  have tail:∀ (n m:Int),MSim P H (do
    askRoom (m.toNat * i.bytes)
    let n':=m.toNat * (← sizeOf elem)
    let zero ← if n'=0 then pure #[] else do pure (← zeroValue elem).cells
    let a ← newRow elem ((Array.range n').map (zero[· % zero.size]!))
    pure (.slice (some a) n.toNat m.toNat):Sem Value):=fun n m=>by
   refine msim_bind (msim_askRoom _) fun _=>msim_bind (msim_sizeOf _) fun k=>?_
   dsimp only
   split
   · exact msim_bind (msim_pure _) fun _=>msim_bind (msim_newRow _ _) fun _=>msim_pure _
   · exact msim_bind (msim_zeroValue _) fun _=>msim_bind (msim_pure _) fun _=>msim_bind (msim_newRow _ _) fun _=>msim_pure _
  dsimp only
  split
  ·
   split
   · exact msim_bind (msim_panicRt _) fun _=>tail _ _
   ·
    split
    · exact msim_bind (msim_panicRt _) fun _=>tail _ _
    · exact msim_bind (msim_choose _) fun _=>msim_bind (msim_panicRt _) fun _=>tail _ _
  · exact tail _ _
 · exact msim_stuck _
theorem msim_buildSlice (t:TypeId) (n:Nat) (l:Array (Nat × Value)):MSim P H (Instr.buildSlice t n l):=by
 unfold Instr.buildSlice
 refine msim_bind (msim_underlying t) fun d=>?_
 split
 ·
  rename_i elem
  refine msim_bind (msim_sizeOf _) fun k=>?_
  have last:∀ zero:Array Value,MSim P H (match Instr.fill (fun i=>some (i * k,k)) ((Array.range (n * k)).map (zero[· % zero.size]!)) l.toList with
    | some cells=>do pure (.slice (some (← newRow elem cells)) n n)
    | _=>stuck "buildSlice: a part of the wrong size" : Sem Value):=fun zero=>by
   split
   · exact msim_bind (msim_newRow _ _) fun _=>msim_pure _
   · exact msim_stuck _
  have tail:MSim P H (do
    let zero ← if n * k=0 then pure #[] else do pure (← zeroValue elem).cells
    match Instr.fill (fun i=>some (i * k,k)) ((Array.range (n * k)).map (zero[· % zero.size]!)) l.toList with
    | some cells=>do pure (.slice (some (← newRow elem cells)) n n)
    | _=>stuck "buildSlice: a part of the wrong size" : Sem Value):=by
   dsimp only
   split
   · exact msim_bind (msim_pure _) last
   · exact msim_bind (msim_zeroValue _) fun _=>msim_bind (msim_pure _) last
  exact msim_ite (msim_bind (msim_halt _) fun _=>tail) tail
 · exact msim_stuck _
theorem msim_typeAssert (x:Value) (t u:TypeId) (ok:Bool):MSim P H (Instr.typeAssert x t u ok):=by
 have fails:∀ (a b:Option TypeId) (m:String),MSim P H (if ok then (do pure (.tuple #[← zeroValue u,.bool false])) else runtimePanic (.typeAssertion a b u m):Sem Value):=fun a b m=>msim_ite (msim_bind (msim_zeroValue _) fun _=>msim_pure _) (msim_panicRt _)
 unfold Instr.typeAssert
 dsimp only
 refine msim_bind (msim_underlying u) fun d=>?_
 split
 · exact fails _ _ _
 ·
  refine msim_bind (msim_typeInfo _) fun i=>?_
  split
  · exact msim_pure _
  · exact fails _ _ _
 · exact fails _ _ _
 · exact msim_ite (msim_pure _) (fails _ _ _)
 · exact msim_stuck _
theorem msim_panic (x:Value):MSim P H (Instr.panic x):=by
 unfold Instr.panic
 cases x
 case iface=>exact msim_halt _
 case nilIface=>exact msim_dies (dies_bind ends_panicnil fun b=>dies_ite (dies_halt (h:=.panic _) trivial) (dies_panic _))
 all_goals exact msim_stuck _
theorem msim_placeGet (t:TypeId) (x:Place):MSim P H (x.get t):=by
 unfold Place.get
 split
 · exact msim_pure _
 · exact msim_loadVar _ _
theorem msim_follow:∀ (l:List FieldStep) (t:TypeId) (x:Place),MSim P H (follow l t x)
 | [],_,_=>msim_pure _
 | s :: l,t,x=>by
  unfold follow
  refine msim_bind (msim_underlying _) fun d=>?_
  split
  ·
   split
   ·
    refine msim_ite (msim_bind (msim_placeGet _ _) fun _=>msim_bind (msim_asAddr _) fun _=>msim_bind (msim_fieldPlace _ _) fun _=>msim_follow l _ _) ?_
    split
    · exact msim_bind (msim_fieldPlace _ _) fun _=>msim_follow l _ _
    · exact msim_bind (msim_part _ _ _) fun _=>msim_follow l _ _
    · exact msim_stuck _
   · exact msim_stuck _
  · exact msim_stuck _
theorem msim_ssaWrap (ts:Array TypeId) (t:TypeId) (x a b:Value):MSim P H (Builtin.ssaWrapNilChk_ ts t #[x,a,b]):=by
 unfold Builtin.ssaWrapNilChk_
 cases a <;> first | exact msim_stuck _ | skip
 cases b <;> first | exact msim_stuck _ | skip
 dsimp only
 cases x <;> first | exact msim_stuck _ | skip
 rename_i p
 cases p with
 | none=>
  refine msim_dies (dies_bind (ends_choose _) fun c=>dies_ite (dies_first (dies_panic _)) ?_)
  cases ts[0]? with
  | none=>exact dies_halt (h:=.stuck _) trivial
  | some pt=>
   refine dies_bind (ends_underlying _) fun d=>?_
   cases d <;> first | exact dies_halt (h:=.stuck _) trivial | skip
   refine dies_bind (ends_typeInfo _) fun i=>?_
   split
   ·
    split
    ·
     split
     · exact dies_panic _
     · exact dies_unsupported trivial
    · exact dies_halt (h:=.stuck _) trivial
   · exact dies_halt (h:=.stuck _) trivial
 | some _=>exact msim_pure _
theorem msim_receiverAt (t:TypeId) (x:Place) (p:Bool) (o:Option String):MSim P H (receiverAt t x p o):=by
 unfold receiverAt
 refine msim_bind (msim_underlying _) fun d=>?_
 split
 · exact msim_placeGet _ _
 ·
  refine msim_bind (msim_placeGet _ _) fun q=>?_
  dsimp only
  split
  · exact msim_bind (msim_ssaWrap _ _ _ _ _) fun _=>msim_bind (msim_asAddr _) fun _=>msim_loadVar _ _
  · exact msim_bind (msim_pure _) fun _=>msim_bind (msim_asAddr _) fun _=>msim_loadVar _ _
 · exact msim_pure _
 · exact msim_stuck _
 · exact msim_placeGet _ _
theorem msim_method:∀ (n:Nat) (t:TypeId) (x:Value) (m:String),MSim P H (method n t x m)
 | 0,_,_,_=>msim_halt _
 | n+1,t,x,m=>by
  unfold method
  refine msim_bind (msim_typeInfo _) fun i=>?_
  split
  ·
   refine msim_bind (msim_follow _ _ _) fun z=>?_
   dsimp only
   split
   ·
    refine msim_bind (msim_placeGet _ _) fun y=>?_
    split
    · exact msim_method n _ _ _
    · exact msim_panicRt _
    · exact msim_stuck _
   · exact msim_bind (msim_receiverAt _ _ _ _) fun _=>msim_pure _
  · exact msim_stuck _
theorem msim_len (ts:Array TypeId) (t:TypeId) (a:Array Value):MSim P H (Builtin.len_ ts t a):=by
 unfold Builtin.len_
 split
 ·
  refine msim_bind (msim_underlying _) fun d=>?_
  split
  all_goals first | exact msim_pure _ | exact msim_stuck _ | skip
  ·
   refine msim_bind (msim_underlying _) fun d=>?_
   split
   · exact msim_pure _
   · exact msim_stuck _
  ·
   refine msim_getObj (fun o=>?_) fun _ _=>rfl
   split
   · exact msim_pure _
   · exact msim_stuck _
  ·
   refine msim_getObj (fun o=>?_) fun _ _=>rfl
   split
   · exact msim_pure _
   · exact msim_stuck _
 · exact msim_stuck _
theorem msim_foldlM {f:Value → Value → Sem Value} (h:∀ x y,MSim P H (f x y)):∀ (l:List Value) (x:Value),MSim P H (l.foldlM f x)
 | [],x=>by rw [List.foldlM_nil];exact msim_pure _
 | y :: l,x=>by rw [List.foldlM_cons];exact msim_bind (h x y) fun z=>msim_foldlM h l z
theorem msim_max2 (x y:Value):MSim P H (Builtin.max2 x y):=by
 unfold Builtin.max2
 split
 · exact msim_pure _
 ·
  split
  · exact msim_bind (msim_choose _) fun _=>msim_pure _
  · exact msim_pure _
  · exact msim_pure _
  · exact msim_pure _
 · exact msim_bind (msim_stringOp _ _ _) fun _=>msim_bind (msim_asBool _) fun _=>msim_pure _
 · exact msim_halt _
 · exact msim_halt _
 · exact msim_stuck _
theorem msim_min2 (x y:Value):MSim P H (Builtin.min2 x y):=by
 unfold Builtin.min2
 split
 · exact msim_pure _
 ·
  split
  · exact msim_bind (msim_choose _) fun _=>msim_pure _
  · exact msim_pure _
  · exact msim_pure _
  · exact msim_pure _
 · exact msim_bind (msim_stringOp _ _ _) fun _=>msim_bind (msim_asBool _) fun _=>msim_pure _
 · exact msim_halt _
 · exact msim_halt _
 · exact msim_stuck _
theorem msim_max (ts:Array TypeId) (t:TypeId) (a:Array Value):MSim P H (Builtin.max_ ts t a):=by
 unfold Builtin.max_
 split
 · exact msim_stuck _
 · exact msim_foldlM msim_max2 _ _
theorem msim_min (ts:Array TypeId) (t:TypeId) (a:Array Value):MSim P H (Builtin.min_ ts t a):=by
 unfold Builtin.min_
 split
 · exact msim_stuck _
 · exact msim_foldlM msim_min2 _ _
theorem msim_lenOf (x:Value):MSim P H (Builtin.lenOf x):=by
 unfold Builtin.lenOf
 split <;> first | exact msim_pure _ | exact msim_stuck _
theorem msim_firstCells (n m:Nat) (x:Value):MSim P H (Builtin.firstCells n m x):=by
 unfold Builtin.firstCells
 split <;> first | exact msim_pure _ | exact msim_stuck _ | exact msim_loadCellsFrom _ _ _ _
end
section
variable {α β γ:Type} {P:Program} {H:Nat → Prop} {v w:World}
theorem underlying_out {t:TypeId} {d:TypeDesc} (h:∃ w w',(underlying t).run P w=.ok d w'):P.underlying t=some d:=by
 obtain ⟨w,w',h⟩:=h
 unfold underlying at h
 simp only [program,bind,Sem.bind,Sem.run] at h
 cases hu:P.underlying t with
 | none=>rw [hu] at h;cases h
 | some x=>rw [hu] at h;cases h;rfl
def appendLet (P:Program) (ts:Array TypeId):Bool:=match ts[1]? with | some t=>(match P.underlying t with | some (.int _)=>false | some _=>true | none=>false) | none=>false
theorem msim_append {ts:Array TypeId} (hf:appendLet P ts=true) (t:TypeId) (a:Array Value):MSim P H (Builtin.append_ ts t a):=by
 unfold appendLet at hf
 unfold Builtin.append_
 cases h0:ts[0]? with
 | none=>exact msim_stuck _
 | some t0=>
  cases a[0]? with
  | none=>exact msim_stuck _
  | some s=>
   cases a[1]? with
   | none=>exact msim_stuck _
   | some x=>
    dsimp only
    refine msim_bind (msim_underlying t0) fun d=>?_
    cases d <;> first | exact msim_stuck _ | skip
    rename_i e
    cases s <;> first | exact msim_stuck _ | skip
    rename_i base n c
    dsimp only
    refine msim_bind (msim_sizeOf e) fun size=>?_
    cases h1:ts[1]? with
    | none=>rw [h1] at hf;cases hf
    | some t1=>
     rw [h1] at hf
     dsimp only at hf ⊢
     refine msim_bindR (msim_underlying t1) fun d1 hd1=>msim_bindR (msim_pure _) fun z hz=>?_
     have hd2:=underlying_out hd1
     have hz2:z=false:=by
      obtain ⟨w,w',hz⟩:=hz
      rw [hd2] at hf
      cases hz
      cases d1 <;> first | rfl | cases hf
     subst hz2
     simp only [Bool.false_eq_true,if_false,Bool.not_false,if_true,false_or]
     refine msim_bind (msim_lenOf x) fun m=>?_
     refine msim_ite ?_ ?_
     ·
      refine msim_bind (msim_firstCells _ _ _) fun u=>?_
      cases base with
      | none=>exact msim_pure _
      | some b=>exact msim_bind (msim_storeCells _ _ _) fun _=>msim_pure _
     ·
      have tail:MSim P H (do
        let newCap ← choose (.appendCap (n+m) c e)
        let i ← typeInfo e
        askRoom (newCap * i.bytes)
        let old ← Builtin.firstCells size n (.slice base n c)
        let new ← Builtin.firstCells size m x
        let z ← zeroValue e
        let r ← newRow e (old ++ new ++ Builtin.zeroCells z.cells (newCap - (n+m)))
        pure (.slice (some r) (n+m) newCap):Sem Value):=
       msim_bind (msim_choose _) fun _=>msim_bind (msim_typeInfo _) fun _=>msim_bind (msim_askRoom _) fun _=>msim_bind (msim_firstCells _ _ _) fun _=>msim_bind (msim_firstCells _ _ _) fun _=>msim_bind (msim_zeroValue _) fun _=>msim_bind (msim_newRow _ _) fun _=>msim_pure _
      have share:Dies P (do
        let q ← Builtin.mayShare size n m base x
        if (!q)=true then do
          mark Mark.noRoom
          unsupported (Unsupported.resourceLimit "append: a slice or a string whose bytes no memory bears")
         else unsupported (Unsupported.resourceLimit "append: a slice or a string whose bytes no memory bears"):Sem PUnit):=dies_bind (ends_mayShare _ _ _ _ _) fun q=>dies_ite (dies_bind (ends_mark _) fun _=>dies_unsupported trivial) (dies_unsupported trivial)
      have two:MSim P H (do
        let i ← typeInfo e
        if Builtin.nextslicecap (n+m) c * i.bytes > 2 ^ 48 then do
         let _ ← (do
          let q ← Builtin.mayShare size n m base x
          if (!q)=true then do
            mark Mark.noRoom
            unsupported (Unsupported.resourceLimit "append: a slice or a string whose bytes no memory bears")
           else unsupported (Unsupported.resourceLimit "append: a slice or a string whose bytes no memory bears"):Sem PUnit)
         let newCap ← choose (.appendCap (n+m) c e)
         let i ← typeInfo e
         askRoom (newCap * i.bytes)
         let old ← Builtin.firstCells size n (.slice base n c)
         let new ← Builtin.firstCells size m x
         let z ← zeroValue e
         let r ← newRow e (old ++ new ++ Builtin.zeroCells z.cells (newCap - (n+m)))
         pure (.slice (some r) (n+m) newCap)
        else do
         let newCap ← choose (.appendCap (n+m) c e)
         let i ← typeInfo e
         askRoom (newCap * i.bytes)
         let old ← Builtin.firstCells size n (.slice base n c)
         let new ← Builtin.firstCells size m x
         let z ← zeroValue e
         let r ← newRow e (old ++ new ++ Builtin.zeroCells z.cells (newCap - (n+m)))
         pure (.slice (some r) (n+m) newCap):Sem Value):=msim_bind (msim_typeInfo _) fun i=>msim_ite (msim_dies (dies_first share)) tail
      refine msim_bind (msim_typeInfo _) fun i=>?_
      exact msim_ite (msim_dies (dies_first (dies_panic _))) two
def ExtM (P:Program) (H:Nat → Prop) (x:Array Value → Sem Value):Prop:=∀ a,MSim P H (x a)
def FnsM (P:Program) (H:Nat → Prop) (Fb:Nat → Bool):Prop:=∀ f,Fb f=true → ∀ fn,P.funcs[f]? = some fn → (fn.name == "runtime.NumGoroutine")=false ∧ (fn.body.isNone=false ∨ (Extern.findNext fn=none ∧ ∃ x,Extern.find fn=some x ∧ ExtM P H x) ∨ ∀ a,Dies P (callFunc f a))
theorem msim_callFunc {Fb:Nat → Bool} (hF:FnsM P H Fb) {f:FuncId} (hf:Fb f=true) (a:Array Value):MSim P H (callFunc f a):=by
 cases h1:P.funcs[f]? with
 | none=>
  unfold callFunc
  refine msim_program ?_
  rw [h1]
  exact msim_stuck _
 | some fn=>
  obtain ⟨h2,h3 | ⟨h3,x,h4,h5⟩ | h3⟩:=hF f hf fn h1
  ·
   unfold callFunc
   refine msim_program ?_
   rw [h1]
   dsimp only
   rw [h2,h3]
   exact msim_pure _
  ·
   unfold callFunc
   refine msim_program ?_
   rw [h1]
   dsimp only
   rw [h2]
   simp only [Bool.false_eq_true,if_false]
   refine msim_ite ?_ (msim_pure _)
   refine msim_bind (msim_mark (.inr ⟨f,rfl⟩)) fun _=>?_
   rw [h3,h4]
   exact msim_bind (h5 a) fun _=>msim_pure _
  · exact msim_dies (h3 a)
end
end Go.Proofs.YtbokomeejmnnoaaDoor
