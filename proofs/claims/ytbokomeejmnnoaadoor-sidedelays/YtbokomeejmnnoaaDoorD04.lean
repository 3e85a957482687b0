/- Own facts, put together: no statement of its own. -/
import Derived.Test.YtbokomeejmnnoaaDoorD03
import Derived.Test.YtbokomeejmnnoaaDoorChecked
import Derived.WalkKit
import Derived.WalkSpells
import Derived.WalkLawsBesides
import Derived.BigQuiet
import Derived.LaidEql
import Derived.Stop.Asserts
import Derived.RowKitTokens
set_option maxHeartbeats 4000000

namespace Go.Proofs.YtbokomeejmnnoaaDoor
open Go.RowKit
theorem firstBad (ls:List (Int × Int)):okAll ls ∨ ∃ j,j < ls.length ∧ (∀ i x y,i < j → ls[i]? = some (x,y) → okLine x y=true) ∧ ∀ x y,ls[j]? = some (x,y) → okLine x y=false:=by
 induction ls with
 | nil=>exact .inl fun p hp=>by cases hp
 | cons q r ih=>
  cases hq:okLine q.1 q.2 with
  | false=>exact .inr ⟨0,by simp,fun i x y hi=>by omega,fun x y h=>by simp at h;subst h;exact hq⟩
  | true=>
   rcases ih with h | ⟨j,hj,h1,h2⟩
   ·
    refine .inl fun p hp=>?_
    rcases List.mem_cons.1 hp with rfl | hp
    · exact hq
    · exact h p hp
   ·
    refine .inr ⟨j+1,by simpa using hj,fun i x y hi he=>?_,fun x y he=>h2 x y (by simpa using he)⟩
    cases i with
    | zero=>simp at he;subst he;exact hq
    | succ i=>exact h1 i x y (by omega) (by simpa using he)
structure Errs2 (w:World) (aB aS:Addr):Prop where
 bound:w.cell? ⟨2,0,none⟩=some (.iface 139 (.pointer (some aB)))
 shape:w.cell? ⟨1,0,none⟩=some (.iface 139 (.pointer (some aS)))
theorem Errs2.below {w w':World} {aB aS:Addr} (h:Errs2 w aB aS) (hb:Below w.heap.size w w'):Errs2 w' aB aS:=
 ⟨cell_later hb h.bound,cell_later hb h.shape⟩
theorem lineError_yes (x y:Int) (w:World) (h:okLine x y=true) :
  Calls Tryd.prog 20 #[.agg #[.int .i64 x,.int .i64 y]] w fun e w'=>e=.returned (.int .i64 0) ∧ w'=w.alloc (.cells #[.int .i64 x,.int .i64 y] 42):=by
 obtain ⟨h1,h2,h3,h4⟩:=okLine_true h
 clear h
 go_enter Tryd.func20,Tryd.ntmps20
 go_wp2
 go_ret
 exact ⟨rfl,rfl⟩
theorem lineError_no (x y:Int) (w:World) (h:okLine x y=false) :
  Calls Tryd.prog 20 #[.agg #[.int .i64 x,.int .i64 y]] w fun e w'=>e=.returned (.int .i64 2) ∧ w'=w.alloc (.cells #[.int .i64 x,.int .i64 y] 42):=by
 have h':¬ (1 ≤ x ∧ x ≤ 20000 ∧ 0 ≤ y ∧ y ≤ 100000):=of_decide_eq_false h
 clear h
 by_cases h1:1 ≤ x
 ·
  by_cases h2:x ≤ 20000
  ·
   by_cases h3:0 ≤ y
   ·
    have h4:¬ y ≤ 100000:=fun h4=>h' ⟨h1,h2,h3,h4⟩
    clear h'
    go_enter Tryd.func20,Tryd.ntmps20
    go_wp2
    go_ret
    exact ⟨rfl,rfl⟩
   ·
    clear h'
    go_enter Tryd.func20,Tryd.ntmps20
    go_wp2
    go_ret
    exact ⟨rfl,rfl⟩
  ·
   clear h'
   go_enter Tryd.func20,Tryd.ntmps20
   go_wp2
   go_ret
   exact ⟨rfl,rfl⟩
 ·
  clear h'
  go_enter Tryd.func20,Tryd.ntmps20
  go_wp2
  go_ret
  exact ⟨rfl,rfl⟩
end Go.Proofs.YtbokomeejmnnoaaDoor

namespace Go.Proofs.YtbokomeejmnnoaaDoor
open Go.RowKit Go.Extern.Stop Go.Stop Go.Extern
theorem Tryd.isTypeOf (v:Value) (w:World):(Extern.ReflectliteType.typeOf #[.iface 139 v]).run Tryd.prog w=.ok (.iface 125 (.agg #[.pointer (some ⟨10,139,none⟩)])) w:=by kernel_rfl
def cmpEntry:Array Value → Sem Value:=Extern.ReflectliteType.method fun t=>do Rtype.noPackHeld "Comparable" t;pure (.bool (← typeInfo t).comparable)
theorem Tryd.isComparable (w:World):(cmpEntry #[.agg #[.pointer (some ⟨10,139,none⟩)]]).run Tryd.prog w=.ok (.bool true) w:=by kernel_rfl
theorem Tryd.isMethodComparable (v:Value) (w:World):(Go.method 272 125 v "Comparable").run Tryd.prog w=.ok (95,v) w:=by kernel_rfl
theorem Tryd.isComp:(Tryd.prog.info? 139).map (·.comparable)=some true:=by kernel_rfl
theorem Tryd.isSize:(Tryd.prog.info? 160).map (·.size)=some 1:=by kernel_rfl
theorem Tryd.noIsE (v:Value) (xT:TypeId) (w:World):(Instr.typeAssert (.iface 139 v) xT 136 true).run Tryd.prog w=.ok (.tuple #[.nilIface,.bool false]) w:=run_typeAssert_lacksB Tryd.underlying136 (by kernel_rfl) (by kernel_rfl) v xT w
theorem Tryd.noAsE (v:Value) (xT:TypeId) (w:World):(Instr.typeAssert (.iface 139 v) xT 129 true).run Tryd.prog w=.ok (.tuple #[.nilIface,.bool false]) w:=run_typeAssert_lacksB Tryd.underlying129 (by kernel_rfl) (by kernel_rfl) v xT w
theorem Tryd.noUnwrapE (v:Value) (xT:TypeId) (w:World):(Instr.typeAssert (.iface 139 v) xT 132 true).run Tryd.prog w=.ok (.tuple #[.nilIface,.bool false]) w:=run_typeAssert_lacksB Tryd.underlying132 (by kernel_rfl) (by kernel_rfl) v xT w
theorem Tryd.noUnwrapsE (v:Value) (xT:TypeId) (w:World):(Instr.typeAssert (.iface 139 v) xT 134 true).run Tryd.prog w=.ok (.tuple #[.nilIface,.bool false]) w:=run_typeAssert_lacksB Tryd.underlying134 (by kernel_rfl) (by kernel_rfl) v xT w
theorem Tryd.noIsW (v:Value) (xT:TypeId) (w:World):(Instr.typeAssert (.iface 77 v) xT 136 true).run Tryd.prog w=.ok (.tuple #[.nilIface,.bool false]) w:=run_typeAssert_lacksB Tryd.underlying136 (by kernel_rfl) (by kernel_rfl) v xT w
theorem Tryd.hasUnwrapW (v:Value) (xT:TypeId) (w:World):(Instr.typeAssert (.iface 77 v) xT 132 true).run Tryd.prog w=.ok (.tuple #[.iface 77 v,.bool true]) w:=run_typeAssert_hasB Tryd.underlying132 (by kernel_rfl) v xT w
theorem Tryd.methodUnwrap (v:Value) (w:World):(Go.method 272 77 v "Unwrap").run Tryd.prog w=.ok (89,v) w:=by kernel_rfl
theorem is_same (a:Addr) (w:World) :
  Calls Tryd.prog 35 #[.iface 139 (.pointer (some a)),.iface 139 (.pointer (some a))] w fun e w'=>e=.returned (.bool true) ∧ w'=w:=by
 obtain ⟨i,hi,hcmp⟩:=Option.map_eq_some_iff.1 Tryd.isComp
 obtain ⟨j,hj,hjs⟩:=Option.map_eq_some_iff.1 Tryd.isSize
 have h8:=@run_callFunc_extern Tryd.prog 62 _ Extern.ReflectliteType.typeOf Tryd.func62 (by kernel_rfl) (by kernel_rfl) (by kernel_rfl) (by kernel_rfl)
 have h32:=@run_callFunc_extern Tryd.prog 95 _ cmpEntry Tryd.func95 (by kernel_rfl) (by kernel_rfl) (by kernel_rfl) (by kernel_rfl)
 have tT:=Tryd.isTypeOf
 have cT:=Tryd.isComparable
 have mR:=Tryd.isMethodComparable
 have heq:=run_eql_iface_ptr_same (P:=Tryd.prog) w a Tryd.underlying28 Tryd.underlying139 hi hcmp hj
 go_enter Tryd.func35,Tryd.ntmps35
 go_wp2
 refine wp_loop_rounds 1 ?_
 rw [rounds_succ]
 go_wp2
 go_ret
 exact ⟨rfl,rfl⟩
theorem is_other (a b:Addr) (ca cb:Array Value) (ta tb:TypeId) (w:World) (hne:a ≠ b) (ha:w.heap[a.block]? = some (.cells ca ta (0,0))) (hb:w.heap[b.block]? = some (.cells cb tb (0,0))) :
  Calls Tryd.prog 35 #[.iface 139 (.pointer (some a)),.iface 139 (.pointer (some b))] w fun e w'=>e=.returned (.bool false) ∧ w'=w:=by
 obtain ⟨i,hi,hcmp⟩:=Option.map_eq_some_iff.1 Tryd.isComp
 obtain ⟨j,hj,hjs⟩:=Option.map_eq_some_iff.1 Tryd.isSize
 have h8:=@run_callFunc_extern Tryd.prog 62 _ Extern.ReflectliteType.typeOf Tryd.func62 (by kernel_rfl) (by kernel_rfl) (by kernel_rfl) (by kernel_rfl)
 have h32:=@run_callFunc_extern Tryd.prog 95 _ cmpEntry Tryd.func95 (by kernel_rfl) (by kernel_rfl) (by kernel_rfl) (by kernel_rfl)
 have tT:=Tryd.isTypeOf
 have cT:=Tryd.isComparable
 have mR:=Tryd.isMethodComparable
 have nE:=Tryd.noIsE
 have uE:=Tryd.noUnwrapE
 have vE:=Tryd.noUnwrapsE
 have heq:=run_eql_iface_ptr_other (P:=Tryd.prog) w Tryd.underlying28 Tryd.underlying139 hi hcmp hj (by rw [hjs];decide) hne ha hb
 go_enter Tryd.func35,Tryd.ntmps35
 go_wp2
 refine wp_loop_rounds 1 ?_
 rw [rounds_succ]
 go_wp2
 go_ret
 exact ⟨rfl,rfl⟩
theorem is_fault_same (pb:Nat) (b:Addr) (w:World) (h1:w.cell? ⟨pb,1,none⟩=some (.iface 139 (.pointer (some b)))) :
  Calls Tryd.prog 35 #[.iface 77 (.pointer (some ⟨pb,0,none⟩)),.iface 139 (.pointer (some b))] w fun e w'=>e=.returned (.bool true) ∧ w'=w:=by
 obtain ⟨i,hi,hcmp⟩:=Option.map_eq_some_iff.1 Tryd.isComp
 obtain ⟨j,hj,hjs⟩:=Option.map_eq_some_iff.1 Tryd.isSize
 have h8:=@run_callFunc_extern Tryd.prog 62 _ Extern.ReflectliteType.typeOf Tryd.func62 (by kernel_rfl) (by kernel_rfl) (by kernel_rfl) (by kernel_rfl)
 have h32:=@run_callFunc_extern Tryd.prog 95 _ cmpEntry Tryd.func95 (by kernel_rfl) (by kernel_rfl) (by kernel_rfl) (by kernel_rfl)
 have tT:=Tryd.isTypeOf
 have cT:=Tryd.isComparable
 have mR:=Tryd.isMethodComparable
 have nW:=Tryd.noIsW
 have uW:=Tryd.hasUnwrapW
 have mU:=Tryd.methodUnwrap
 have heq:=run_eql_iface_ptr_same (P:=Tryd.prog) w b Tryd.underlying28 Tryd.underlying139 hi hcmp hj
 have hty:=run_eql_iface_types (P:=Tryd.prog) 77 139 (.pointer (some ⟨pb,0,none⟩)) (.pointer (some b)) Tryd.underlying28 (by decide) w
 go_enter Tryd.func35,Tryd.ntmps35
 go_wp2
 refine wp_loop_rounds 2 ?_
 rw [rounds_succ]
 go_wp2
 rw [rounds_succ]
 go_wp2
 go_ret
 exact ⟨rfl,rfl⟩
theorem is_fault_other (pb:Nat) (b a:Addr) (ca cb:Array Value) (ta tb:TypeId) (w:World) (h1:w.cell? ⟨pb,1,none⟩=some (.iface 139 (.pointer (some a)))) (hne:a ≠ b) (ha:w.heap[a.block]? = some (.cells ca ta (0,0))) (hb:w.heap[b.block]? = some (.cells cb tb (0,0))) :
  Calls Tryd.prog 35 #[.iface 77 (.pointer (some ⟨pb,0,none⟩)),.iface 139 (.pointer (some b))] w fun e w'=>e=.returned (.bool false) ∧ w'=w:=by
 obtain ⟨i,hi,hcmp⟩:=Option.map_eq_some_iff.1 Tryd.isComp
 obtain ⟨j,hj,hjs⟩:=Option.map_eq_some_iff.1 Tryd.isSize
 have h8:=@run_callFunc_extern Tryd.prog 62 _ Extern.ReflectliteType.typeOf Tryd.func62 (by kernel_rfl) (by kernel_rfl) (by kernel_rfl) (by kernel_rfl)
 have h32:=@run_callFunc_extern Tryd.prog 95 _ cmpEntry Tryd.func95 (by kernel_rfl) (by kernel_rfl) (by kernel_rfl) (by kernel_rfl)
 have tT:=Tryd.isTypeOf
 have cT:=Tryd.isComparable
 have mR:=Tryd.isMethodComparable
 have nE:=Tryd.noIsE
 have uE:=Tryd.noUnwrapE
 have vE:=Tryd.noUnwrapsE
 have nW:=Tryd.noIsW
 have uW:=Tryd.hasUnwrapW
 have mU:=Tryd.methodUnwrap
 have heq:=run_eql_iface_ptr_other (P:=Tryd.prog) w Tryd.underlying28 Tryd.underlying139 hi hcmp hj (by rw [hjs];decide) hne ha hb
 have hty:=run_eql_iface_types (P:=Tryd.prog) 77 139 (.pointer (some ⟨pb,0,none⟩)) (.pointer (some b)) Tryd.underlying28 (by decide) w
 go_enter Tryd.func35,Tryd.ntmps35
 go_wp2
 refine wp_loop_rounds 2 ?_
 rw [rounds_succ]
 go_wp2
 rw [rounds_succ]
 go_wp2
 go_ret
 exact ⟨rfl,rfl⟩
theorem Tryd.valueOfPP (t:Addr) (w:World):(ReflectliteValue.unpack (.iface 79 (.pointer (some t)))).run Tryd.prog w
  = .ok (.agg #[.pointer (some ⟨10,79,none⟩),.pointer (some ⟨w.heap.size,0,none⟩),.int .u64 150]) (w.alloc (.cells #[.pointer (some t)] 79)):=by kernel_rfl
theorem Tryd.typePP (a:Addr) (w:World):(ReflectliteValue.methodAny (ReflectliteValue.valueError "reflectlite.Value.Type" 0) (fun t _ _ _=>ReflectliteType.toType t) #[.agg #[.pointer (some ⟨10,79,none⟩),.pointer (some a),.int .u64 150]]).run Tryd.prog w
  = .ok (.iface 125 (.agg #[.pointer (some ⟨10,79,none⟩)])) w:=by kernel_rfl
theorem Tryd.methodKind (h:Value) (w:World):(Go.method 272 125 (.agg #[h]) "Kind").run Tryd.prog w=.ok (85,h) w:=by kernel_rfl
theorem Tryd.kindPP (w:World):((ReflectliteType.abiMethod fun t=>(fun a:Nat=>Value.int IntKind.u8 (a:Int)) <$> Rtype.kind t) #[.pointer (some ⟨10,79,none⟩)]).run Tryd.prog w=.ok (.int .u8 22) w:=by kernel_rfl
theorem Tryd.kindP (w:World):((ReflectliteType.abiMethod fun t=>(fun a:Nat=>Value.int IntKind.u8 (a:Int)) <$> Rtype.kind t) #[.pointer (some ⟨10,77,none⟩)]).run Tryd.prog w=.ok (.int .u8 22) w:=by kernel_rfl
theorem rlm (z:Sem Value) (f:TypeId → Addr → Nat → Nat → Sem Value) (v:Value) :
  ReflectliteValue.method z f #[v]=(do match ← ReflectliteValue.parts v with | none=>z | some (t,a,fl)=>f t a fl (fl % 32)):=rfl
theorem Tryd.partsPP (a:Addr) (w:World):(ReflectliteValue.parts (.agg #[.pointer (some ⟨10,79,none⟩),.pointer (some a),.int .u64 150])).run Tryd.prog w=.ok (some (79,a,150)) w:=by kernel_rfl
theorem Tryd.isNilPP (a p:Addr) (W:World) (ha:W.cell? a=some (.pointer (some p))) :
  (ReflectliteValue.method (ReflectliteValue.valueError "reflectlite.Value.IsNil" 0) ReflectliteValue.isNil #[.agg #[.pointer (some ⟨10,79,none⟩),.pointer (some a),.int .u64 150]]).run Tryd.prog W=.ok (.bool false) W:=by
 rw [rlm]
 simp only [Sem.run_bind,Tryd.partsPP,Result.andThen]
 simp [ReflectliteValue.isNil,loadVar,isAgg,underlying,Tryd.underlying79,ha,Result.andThen]
theorem Tryd.methodElem (h:Value) (w:World):(Go.method 272 125 (.agg #[h]) "Elem").run Tryd.prog w=.ok (96,.agg #[h]) w:=by kernel_rfl
theorem Tryd.methodImplements (h:Value) (w:World):(Go.method 272 125 (.agg #[h]) "Implements").run Tryd.prog w=.ok (97,.agg #[h]) w:=by kernel_rfl
theorem Tryd.methodAssignableTo (h:Value) (w:World):(Go.method 272 125 (.agg #[h]) "AssignableTo").run Tryd.prog w=.ok (94,.agg #[h]) w:=by kernel_rfl
theorem Tryd.elemPP (w:World):(ReflectliteType.method ReflectliteType.elem #[.agg #[.pointer (some ⟨10,79,none⟩)]]).run Tryd.prog w=.ok (.iface 125 (.agg #[.pointer (some ⟨10,77,none⟩)])) w:=by kernel_rfl
theorem Tryd.implementsP (w:World):(ReflectliteType.relation "Implements" ReflectliteType.implements_ #[.agg #[.pointer (some ⟨10,77,none⟩)],.iface 125 (.agg #[.pointer (some ⟨10,28,none⟩)])]).run Tryd.prog w=.ok (.bool true) w:=by kernel_rfl
theorem Tryd.typeOfP (v:Value) (w:World):(ReflectliteType.typeOf #[.iface 77 v]).run Tryd.prog w=.ok (.iface 125 (.agg #[.pointer (some ⟨10,77,none⟩)])) w:=by kernel_rfl
theorem Tryd.assignableP (w:World):(ReflectliteType.relation "AssignableTo" ReflectliteType.assignableTo #[.agg #[.pointer (some ⟨10,77,none⟩)],.iface 125 (.agg #[.pointer (some ⟨10,77,none⟩)])]).run Tryd.prog w=.ok (.bool true) w:=by kernel_rfl
theorem Tryd.assignableE (w:World):(ReflectliteType.relation "AssignableTo" ReflectliteType.assignableTo #[.agg #[.pointer (some ⟨10,139,none⟩)],.iface 125 (.agg #[.pointer (some ⟨10,77,none⟩)])]).run Tryd.prog w=.ok (.bool false) w:=by kernel_rfl
theorem Tryd.valueOfP (e:Addr) (w:World):(ReflectliteValue.unpack (.iface 77 (.pointer (some e)))).run Tryd.prog w
  = .ok (.agg #[.pointer (some ⟨10,77,none⟩),.pointer (some ⟨w.heap.size,0,none⟩),.int .u64 150]) (w.alloc (.cells #[.pointer (some e)] 77)):=by kernel_rfl
theorem Tryd.elemOfPP (w:World):(Rtype.elem? 79).run Tryd.prog w=.ok (some 77) w:=by kernel_rfl
theorem Tryd.mkP (p:Addr) (w:World):(ReflectliteValue.mk 77 p ReflectliteValue.flagAddr).run Tryd.prog w=.ok (.agg #[.pointer (some ⟨10,77,none⟩),.pointer (some p),.int .u64 406]) w:=by kernel_rfl
theorem Tryd.elemVPP (a p:Addr) (W:World) (ha:W.cell? a=some (.pointer (some p))) :
  (ReflectliteValue.method (ReflectliteValue.valueError "reflectlite.Value.Elem" 0) ReflectliteValue.elem #[.agg #[.pointer (some ⟨10,79,none⟩),.pointer (some a),.int .u64 150]]).run Tryd.prog W
   = .ok (.agg #[.pointer (some ⟨10,77,none⟩),.pointer (some p),.int .u64 406]) W:=by
 rw [rlm]
 simp only [Sem.run_bind,Tryd.partsPP,Result.andThen]
 simp [ReflectliteValue.elem,loadVar,isAgg,underlying,Tryd.underlying79,ha,Result.andThen,Tryd.elemOfPP,Tryd.mkP]
theorem Tryd.partsPa (a:Addr) (w:World):(ReflectliteValue.parts (.agg #[.pointer (some ⟨10,77,none⟩),.pointer (some a),.int .u64 406])).run Tryd.prog w=.ok (some (77,a,406)) w:=by kernel_rfl
theorem Tryd.partsP (a:Addr) (w:World):(ReflectliteValue.parts (.agg #[.pointer (some ⟨10,77,none⟩),.pointer (some a),.int .u64 150])).run Tryd.prog w=.ok (some (77,a,150)) w:=by kernel_rfl
theorem Tryd.directP (w:World):(Rtype.directlyAssignable 77 77).run Tryd.prog w=.ok true w:=by kernel_rfl
theorem Tryd.setP (ta b e:Addr) (old:Value) (W:World) (hb:W.cell? b=some (.pointer (some e))) (ht:W.cell? ta=some old) (hf:W.frozen? ta=false) :
  (ReflectliteValue.set #[.agg #[.pointer (some ⟨10,77,none⟩),.pointer (some ta),.int .u64 406],.agg #[.pointer (some ⟨10,77,none⟩),.pointer (some b),.int .u64 150]]).run Tryd.prog W
   = .ok (.tuple #[]) (W.setCell ta (.pointer (some e))):=by
 change Sem.run Tryd.prog (ReflectliteValue.parts (.agg #[.pointer (some ⟨10,77,none⟩),.pointer (some ta),.int .u64 406]) >>= fun _=>ReflectliteValue.parts (.agg #[.pointer (some ⟨10,77,none⟩),.pointer (some b),.int .u64 150]) >>= _) W=_
 simp only [Sem.run_bind,Tryd.partsPa,Tryd.partsP,Result.andThen]
 simp [ReflectliteValue.flagAddr,loadVar,isAgg,underlying,Tryd.underlying77,hb,Result.andThen,Tryd.directP,storeVar,Value.cells,storeCells,Addr.add]
 rw [run_store Tryd.prog W ta _ _ (by rfl)]
 simp [ht,hf]
theorem as_hit (e t:Addr) (old:Value) (w:World) (hg:w.cell? ⟨9,0,none⟩=some (.iface 125 (.agg #[.pointer (some ⟨10,28,none⟩)]))) (ht0:w.cell? t=some old) (hf0:w.frozen? t=false) :
  Calls Tryd.prog 34 #[.iface 77 (.pointer (some e)),.iface 79 (.pointer (some t))] w fun ev w'=>ev=.returned (.bool true) ∧ w'=((((w.alloc (.cells #[.pointer (some t)] 79)).alloc (.cells #[.pointer (some ⟨10,79,none⟩),.pointer (some ⟨w.heap.size,0,none⟩),.int .u64 150] 107)).alloc (.cells #[.pointer (some ⟨10,79,none⟩),.pointer (some ⟨w.heap.size,0,none⟩),.int .u64 150] 107)).alloc (.cells #[.pointer (some e)] 77)).setCell t (.pointer (some e)):=by
 have h6:=@run_callFunc_extern Tryd.prog 58 _ (fun args=>ReflectliteValue.unpack (args.getD 0 (.tuple #[]))) Tryd.func58 (by kernel_rfl) (by kernel_rfl) (by kernel_rfl) (by kernel_rfl)
 have h7:=@run_callFunc_extern Tryd.prog 59 _ (ReflectliteValue.methodAny (ReflectliteValue.valueError "reflectlite.Value.Type" 0) (fun t _ _ _=>ReflectliteType.toType t)) Tryd.func59 (by kernel_rfl) (by kernel_rfl) (by kernel_rfl) (by kernel_rfl)
 have h8:=@run_callFunc_extern Tryd.prog 60 _ (ReflectliteValue.method (ReflectliteValue.valueError "reflectlite.Value.IsNil" 0) ReflectliteValue.isNil) Tryd.func60 (by kernel_rfl) (by kernel_rfl) (by kernel_rfl) (by kernel_rfl)
 have h27:=@run_callFunc_extern Tryd.prog 85 _ (ReflectliteType.abiMethod fun t=>do pure (.int .u8 (← Rtype.kind t))) Tryd.func85 (by kernel_rfl) (by kernel_rfl) (by kernel_rfl) (by kernel_rfl)
 have h37:=@run_callFunc_extern Tryd.prog 96 _ (ReflectliteType.method ReflectliteType.elem) Tryd.func96 (by kernel_rfl) (by kernel_rfl) (by kernel_rfl) (by kernel_rfl)
 have h38:=@run_callFunc_extern Tryd.prog 97 _ (ReflectliteType.relation "Implements" ReflectliteType.implements_) Tryd.func97 (by kernel_rfl) (by kernel_rfl) (by kernel_rfl) (by kernel_rfl)
 have h10:=@run_callFunc_extern Tryd.prog 62 _ ReflectliteType.typeOf Tryd.func62 (by kernel_rfl) (by kernel_rfl) (by kernel_rfl) (by kernel_rfl)
 have h35:=@run_callFunc_extern Tryd.prog 94 _ (ReflectliteType.relation "AssignableTo" ReflectliteType.assignableTo) Tryd.func94 (by kernel_rfl) (by kernel_rfl) (by kernel_rfl) (by kernel_rfl)
 have h11:=@run_callFunc_extern Tryd.prog 69 _ (ReflectliteValue.method (ReflectliteValue.valueError "reflectlite.Value.Elem" 0) ReflectliteValue.elem) Tryd.func69 (by kernel_rfl) (by kernel_rfl) (by kernel_rfl) (by kernel_rfl)
 have h12:=@run_callFunc_extern Tryd.prog 70 _ ReflectliteValue.set Tryd.func70 (by kernel_rfl) (by kernel_rfl) (by kernel_rfl) (by kernel_rfl)
 have tO:=Tryd.typeOfP
 have mA:=Tryd.methodAssignableTo
 have a25:=Tryd.assignableP
 have v25:=Tryd.valueOfP
 have f6:=Tryd.valueOfPP
 have f7:=Tryd.typePP
 have mK:=Tryd.methodKind
 have mE:=Tryd.methodElem
 have mI:=Tryd.methodImplements
 have k27:=Tryd.kindPP
 have k25:=Tryd.kindP
 have e27:=Tryd.elemPP
 have i25:=Tryd.implementsP
 have n8:=Tryd.isNilPP ⟨w.heap.size,0,none⟩ t ((w.alloc (.cells #[.pointer (some t)] 79)).alloc (.cells #[.pointer (some ⟨10,79,none⟩),.pointer (some ⟨w.heap.size,0,none⟩),.int .u64 150] 107)) (by simp)
 have hlt:9 < w.heap.size:=by
  rcases Nat.lt_or_ge 9 w.heap.size with h | h
  · exact h
  · simp [World.cell?,Array.getElem?_eq_none h] at hg
 have hg2:((w.alloc (.cells #[.pointer (some t)] 79)).alloc (.cells #[.pointer (some ⟨10,79,none⟩),.pointer (some ⟨w.heap.size,0,none⟩),.int .u64 150] 107)).cell? ⟨9,0,none⟩=some (.iface 125 (.agg #[.pointer (some ⟨10,28,none⟩)])):=by
  rw [World.cell?_alloc_lt _ _ ⟨9,0,none⟩ (Nat.lt_of_lt_of_le hlt (by simp)),World.cell?_alloc_lt _ _ ⟨9,0,none⟩ hlt];exact hg
 have htl:t.block < w.heap.size:=by
  rcases Nat.lt_or_ge t.block w.heap.size with h | h
  · exact h
  · simp [World.cell?,Array.getElem?_eq_none h] at ht0
 have el:=Tryd.elemVPP ⟨w.heap.size,0,none⟩ t (((w.alloc (.cells #[.pointer (some t)] 79)).alloc (.cells #[.pointer (some ⟨10,79,none⟩),.pointer (some ⟨w.heap.size,0,none⟩),.int .u64 150] 107)).alloc (.cells #[.pointer (some ⟨10,79,none⟩),.pointer (some ⟨w.heap.size,0,none⟩),.int .u64 150] 107)) (by rw [World.cell?_alloc_lt _ _ ⟨w.heap.size,0,none⟩ (by simp;omega)];simp)
 have st:=Tryd.setP t ⟨w.heap.size+1+1+1,0,none⟩ e old ((((w.alloc (.cells #[.pointer (some t)] 79)).alloc (.cells #[.pointer (some ⟨10,79,none⟩),.pointer (some ⟨w.heap.size,0,none⟩),.int .u64 150] 107)).alloc (.cells #[.pointer (some ⟨10,79,none⟩),.pointer (some ⟨w.heap.size,0,none⟩),.int .u64 150] 107)).alloc (.cells #[.pointer (some e)] 77))
  (by rw [World.cell?_alloc_at _ _ _ _ (by simp)];rfl)
  (by rw [World.cell?_alloc_lt _ _ t (by simp;omega),World.cell?_alloc_lt _ _ t (by simp;omega),World.cell?_alloc_lt _ _ t (by simp;omega),World.cell?_alloc_lt _ _ t htl];exact ht0)
  (by rw [World.frozen?_alloc_old _ _ t (by simp;omega),World.frozen?_alloc_old _ _ t (by simp;omega),World.frozen?_alloc_old _ _ t (by simp;omega),World.frozen?_alloc_old _ _ t (Nat.ne_of_lt htl)];exact hf0)
 go_enter Tryd.func34,Tryd.ntmps34
 go_wp2
 refine wp_loop_rounds 1 ?_
 rw [rounds_succ]
 go_wp2
 go_ret
 exact ⟨rfl,rfl⟩
theorem as_miss (e t:Addr) (w:World) (hg:w.cell? ⟨9,0,none⟩=some (.iface 125 (.agg #[.pointer (some ⟨10,28,none⟩)]))) :
  Calls Tryd.prog 34 #[.iface 139 (.pointer (some e)),.iface 79 (.pointer (some t))] w fun ev w'=>ev=.returned (.bool false) ∧ w'=(((w.alloc (.cells #[.pointer (some t)] 79)).alloc (.cells #[.pointer (some ⟨10,79,none⟩),.pointer (some ⟨w.heap.size,0,none⟩),.int .u64 150] 107)).alloc (.cells #[.pointer (some ⟨10,79,none⟩),.pointer (some ⟨w.heap.size,0,none⟩),.int .u64 150] 107)):=by
 have h6:=@run_callFunc_extern Tryd.prog 58 _ (fun args=>ReflectliteValue.unpack (args.getD 0 (.tuple #[]))) Tryd.func58 (by kernel_rfl) (by kernel_rfl) (by kernel_rfl) (by kernel_rfl)
 have h7:=@run_callFunc_extern Tryd.prog 59 _ (ReflectliteValue.methodAny (ReflectliteValue.valueError "reflectlite.Value.Type" 0) (fun t _ _ _=>ReflectliteType.toType t)) Tryd.func59 (by kernel_rfl) (by kernel_rfl) (by kernel_rfl) (by kernel_rfl)
 have h8:=@run_callFunc_extern Tryd.prog 60 _ (ReflectliteValue.method (ReflectliteValue.valueError "reflectlite.Value.IsNil" 0) ReflectliteValue.isNil) Tryd.func60 (by kernel_rfl) (by kernel_rfl) (by kernel_rfl) (by kernel_rfl)
 have h27:=@run_callFunc_extern Tryd.prog 85 _ (ReflectliteType.abiMethod fun t=>do pure (.int .u8 (← Rtype.kind t))) Tryd.func85 (by kernel_rfl) (by kernel_rfl) (by kernel_rfl) (by kernel_rfl)
 have h37:=@run_callFunc_extern Tryd.prog 96 _ (ReflectliteType.method ReflectliteType.elem) Tryd.func96 (by kernel_rfl) (by kernel_rfl) (by kernel_rfl) (by kernel_rfl)
 have h38:=@run_callFunc_extern Tryd.prog 97 _ (ReflectliteType.relation "Implements" ReflectliteType.implements_) Tryd.func97 (by kernel_rfl) (by kernel_rfl) (by kernel_rfl) (by kernel_rfl)
 have h10:=@run_callFunc_extern Tryd.prog 62 _ ReflectliteType.typeOf Tryd.func62 (by kernel_rfl) (by kernel_rfl) (by kernel_rfl) (by kernel_rfl)
 have h35:=@run_callFunc_extern Tryd.prog 94 _ (ReflectliteType.relation "AssignableTo" ReflectliteType.assignableTo) Tryd.func94 (by kernel_rfl) (by kernel_rfl) (by kernel_rfl) (by kernel_rfl)
 have tO:=Tryd.isTypeOf
 have mA:=Tryd.methodAssignableTo
 have a25:=Tryd.assignableE
 have f6:=Tryd.valueOfPP
 have f7:=Tryd.typePP
 have mK:=Tryd.methodKind
 have mE:=Tryd.methodElem
 have mI:=Tryd.methodImplements
 have k27:=Tryd.kindPP
 have k25:=Tryd.kindP
 have e27:=Tryd.elemPP
 have i25:=Tryd.implementsP
 have nE:=Tryd.noAsE
 have uE:=Tryd.noUnwrapE
 have vE:=Tryd.noUnwrapsE
 have n8:=Tryd.isNilPP ⟨w.heap.size,0,none⟩ t ((w.alloc (.cells #[.pointer (some t)] 79)).alloc (.cells #[.pointer (some ⟨10,79,none⟩),.pointer (some ⟨w.heap.size,0,none⟩),.int .u64 150] 107)) (by simp)
 have hlt:9 < w.heap.size:=by
  rcases Nat.lt_or_ge 9 w.heap.size with h | h
  · exact h
  · simp [World.cell?,Array.getElem?_eq_none h] at hg
 have hg2:((w.alloc (.cells #[.pointer (some t)] 79)).alloc (.cells #[.pointer (some ⟨10,79,none⟩),.pointer (some ⟨w.heap.size,0,none⟩),.int .u64 150] 107)).cell? ⟨9,0,none⟩=some (.iface 125 (.agg #[.pointer (some ⟨10,28,none⟩)])):=by
  rw [World.cell?_alloc_lt _ _ ⟨9,0,none⟩ (Nat.lt_of_lt_of_le hlt (by simp)),World.cell?_alloc_lt _ _ ⟨9,0,none⟩ hlt];exact hg
 go_enter Tryd.func34,Tryd.ntmps34
 go_wp2
 refine wp_loop_rounds 1 ?_
 rw [rounds_succ]
 go_wp2
 go_ret
 exact ⟨rfl,rfl⟩
end Go.Proofs.YtbokomeejmnnoaaDoor
