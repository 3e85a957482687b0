/- Own facts, put together: no statement of its own. -/
import Derived.Test.YtipdclphpkgceaaGreatDoorChecked
import Derived.WalkKit
import Derived.WalkSpells
import Derived.WalkLawsBesides
import Derived.BigQuiet
import Derived.LaidEql
import Derived.Stop.Asserts
import Derived.RowKitTokens
import Derived.Lib.Split
import Derived.Lib.ItoaNum
import Derived.Lib.Join
import Derived.Lib.CutLaws
import Derived.Test.YtipdclphpkgceaaGreatDoorA05
import Derived.Test.YtipdclphpkgceaaGreatDoorA01
set_option maxHeartbeats 4000000

namespace Go.Proofs.YtipdclphpkgceaaGreatDoor
open Go.RowKit Go.Extern.Stop Go.Stop Go.Extern
theorem Tryz.isTypeOf (v:Value) (w:World):(Extern.ReflectliteType.typeOf #[.iface 312 v]).run Tryz.prog w=.ok (.iface 151 (.agg #[.pointer (some ⟨16,312,none⟩)])) w:=by kernel_rfl
def Jb:Array Value → Sem Value:=Extern.ReflectliteType.method fun t=>do Rtype.noPackHeld "Comparable" t;pure (.bool (← typeInfo t).comparable)
theorem Tryz.isComparable (w:World):(Jb #[.agg #[.pointer (some ⟨16,312,none⟩)]]).run Tryz.prog w=.ok (.bool true) w:=by kernel_rfl
theorem Tryz.isMethodComparable (v:Value) (w:World):(Go.method 442 151 v "Comparable").run Tryz.prog w=.ok (274,v) w:=by kernel_rfl
theorem Tryz.isComp:(Tryz.prog.info? 312).map (·.comparable)=some true:=by kernel_rfl
theorem Tryz.isSize:(Tryz.prog.info? 330).map (·.size)=some 1:=by kernel_rfl
theorem Tryz.noIsE (v:Value) (xT:TypeId) (w:World):(Instr.typeAssert (.iface 312 v) xT 162 true).run Tryz.prog w=.ok (.tuple #[.nilIface,.bool false]) w:=run_typeAssert_lacksB Tryz.underlying162 (by kernel_rfl) (by kernel_rfl) v xT w
theorem Tryz.noAsE (v:Value) (xT:TypeId) (w:World):(Instr.typeAssert (.iface 312 v) xT 155 true).run Tryz.prog w=.ok (.tuple #[.nilIface,.bool false]) w:=run_typeAssert_lacksB Tryz.underlying155 (by kernel_rfl) (by kernel_rfl) v xT w
theorem Tryz.noUnwrapE (v:Value) (xT:TypeId) (w:World):(Instr.typeAssert (.iface 312 v) xT 158 true).run Tryz.prog w=.ok (.tuple #[.nilIface,.bool false]) w:=run_typeAssert_lacksB Tryz.underlying158 (by kernel_rfl) (by kernel_rfl) v xT w
theorem Tryz.noUnwrapsE (v:Value) (xT:TypeId) (w:World):(Instr.typeAssert (.iface 312 v) xT 160 true).run Tryz.prog w=.ok (.tuple #[.nilIface,.bool false]) w:=run_typeAssert_lacksB Tryz.underlying160 (by kernel_rfl) (by kernel_rfl) v xT w
theorem Tryz.noIsW (v:Value) (xT:TypeId) (w:World):(Instr.typeAssert (.iface 75 v) xT 162 true).run Tryz.prog w=.ok (.tuple #[.nilIface,.bool false]) w:=run_typeAssert_lacksB Tryz.underlying162 (by kernel_rfl) (by kernel_rfl) v xT w
theorem Tryz.hasUnwrapW (v:Value) (xT:TypeId) (w:World):(Instr.typeAssert (.iface 75 v) xT 158 true).run Tryz.prog w=.ok (.tuple #[.iface 75 v,.bool true]) w:=run_typeAssert_hasB Tryz.underlying158 (by kernel_rfl) v xT w
theorem Tryz.methodUnwrap (v:Value) (w:World):(Go.method 442 75 v "Unwrap").run Tryz.prog w=.ok (267,v) w:=by kernel_rfl
theorem Z0 (a:Addr) (w:World) :
  Calls Tryz.prog 28 #[.iface 312 (.pointer (some a)),.iface 312 (.pointer (some a))] w fun e w'=>e=.returned (.bool true) ∧ w'=w:=by
 obtain ⟨i,hi,hcmp⟩:=Option.map_eq_some_iff.1 Tryz.isComp
 obtain ⟨j,hj,hjs⟩:=Option.map_eq_some_iff.1 Tryz.isSize
 have h8:=@run_callFunc_extern Tryz.prog 52 _ Extern.ReflectliteType.typeOf Tryz.func52 (by kernel_rfl) (by kernel_rfl) (by kernel_rfl) (by kernel_rfl)
 have h32:=@run_callFunc_extern Tryz.prog 274 _ Jb Tryz.func274 (by kernel_rfl) (by kernel_rfl) (by kernel_rfl) (by kernel_rfl)
 have tT:=Tryz.isTypeOf
 have cT:=Tryz.isComparable
 have mR:=Tryz.isMethodComparable
 have heq:=run_eql_iface_ptr_same (P:=Tryz.prog) w a Tryz.underlying25 Tryz.underlying312 hi hcmp hj
 go_enter Tryz.func28,Tryz.ntmps28
 go_wp2
 refine wp_loop_rounds 1 ?_
 rw [rounds_succ]
 go_wp2
 go_ret
 exact ⟨rfl,rfl⟩
theorem Yz (a b:Addr) (ca cb:Array Value) (ta tb:TypeId) (w:World) (hne:a ≠ b) (ha:w.heap[a.block]? = some (.cells ca ta (0,0))) (hb:w.heap[b.block]? = some (.cells cb tb (0,0))) :
  Calls Tryz.prog 28 #[.iface 312 (.pointer (some a)),.iface 312 (.pointer (some b))] w fun e w'=>e=.returned (.bool false) ∧ w'=w:=by
 obtain ⟨i,hi,hcmp⟩:=Option.map_eq_some_iff.1 Tryz.isComp
 obtain ⟨j,hj,hjs⟩:=Option.map_eq_some_iff.1 Tryz.isSize
 have h8:=@run_callFunc_extern Tryz.prog 52 _ Extern.ReflectliteType.typeOf Tryz.func52 (by kernel_rfl) (by kernel_rfl) (by kernel_rfl) (by kernel_rfl)
 have h32:=@run_callFunc_extern Tryz.prog 274 _ Jb Tryz.func274 (by kernel_rfl) (by kernel_rfl) (by kernel_rfl) (by kernel_rfl)
 have tT:=Tryz.isTypeOf
 have cT:=Tryz.isComparable
 have mR:=Tryz.isMethodComparable
 have nE:=Tryz.noIsE
 have uE:=Tryz.noUnwrapE
 have vE:=Tryz.noUnwrapsE
 have heq:=run_eql_iface_ptr_other (P:=Tryz.prog) w Tryz.underlying25 Tryz.underlying312 hi hcmp hj (by rw [hjs];decide) hne ha hb
 go_enter Tryz.func28,Tryz.ntmps28
 go_wp2
 refine wp_loop_rounds 1 ?_
 rw [rounds_succ]
 go_wp2
 go_ret
 exact ⟨rfl,rfl⟩
theorem Ow (pb:Nat) (b:Addr) (w:World) (h1:w.cell? ⟨pb,1,none⟩=some (.iface 312 (.pointer (some b)))) :
  Calls Tryz.prog 28 #[.iface 75 (.pointer (some ⟨pb,0,none⟩)),.iface 312 (.pointer (some b))] w fun e w'=>e=.returned (.bool true) ∧ w'=w:=by
 obtain ⟨i,hi,hcmp⟩:=Option.map_eq_some_iff.1 Tryz.isComp
 obtain ⟨j,hj,hjs⟩:=Option.map_eq_some_iff.1 Tryz.isSize
 have h8:=@run_callFunc_extern Tryz.prog 52 _ Extern.ReflectliteType.typeOf Tryz.func52 (by kernel_rfl) (by kernel_rfl) (by kernel_rfl) (by kernel_rfl)
 have h32:=@run_callFunc_extern Tryz.prog 274 _ Jb Tryz.func274 (by kernel_rfl) (by kernel_rfl) (by kernel_rfl) (by kernel_rfl)
 have tT:=Tryz.isTypeOf
 have cT:=Tryz.isComparable
 have mR:=Tryz.isMethodComparable
 have nW:=Tryz.noIsW
 have uW:=Tryz.hasUnwrapW
 have mU:=Tryz.methodUnwrap
 have heq:=run_eql_iface_ptr_same (P:=Tryz.prog) w b Tryz.underlying25 Tryz.underlying312 hi hcmp hj
 have hty:=run_eql_iface_types (P:=Tryz.prog) 75 312 (.pointer (some ⟨pb,0,none⟩)) (.pointer (some b)) Tryz.underlying25 (by decide) w
 go_enter Tryz.func28,Tryz.ntmps28
 go_wp2
 refine wp_loop_rounds 2 ?_
 rw [rounds_succ]
 go_wp2
 rw [rounds_succ]
 go_wp2
 go_ret
 exact ⟨rfl,rfl⟩
theorem MH (pb:Nat) (b a:Addr) (ca cb:Array Value) (ta tb:TypeId) (w:World) (h1:w.cell? ⟨pb,1,none⟩=some (.iface 312 (.pointer (some a)))) (hne:a ≠ b) (ha:w.heap[a.block]? = some (.cells ca ta (0,0))) (hb:w.heap[b.block]? = some (.cells cb tb (0,0))) :
  Calls Tryz.prog 28 #[.iface 75 (.pointer (some ⟨pb,0,none⟩)),.iface 312 (.pointer (some b))] w fun e w'=>e=.returned (.bool false) ∧ w'=w:=by
 obtain ⟨i,hi,hcmp⟩:=Option.map_eq_some_iff.1 Tryz.isComp
 obtain ⟨j,hj,hjs⟩:=Option.map_eq_some_iff.1 Tryz.isSize
 have h8:=@run_callFunc_extern Tryz.prog 52 _ Extern.ReflectliteType.typeOf Tryz.func52 (by kernel_rfl) (by kernel_rfl) (by kernel_rfl) (by kernel_rfl)
 have h32:=@run_callFunc_extern Tryz.prog 274 _ Jb Tryz.func274 (by kernel_rfl) (by kernel_rfl) (by kernel_rfl) (by kernel_rfl)
 have tT:=Tryz.isTypeOf
 have cT:=Tryz.isComparable
 have mR:=Tryz.isMethodComparable
 have nE:=Tryz.noIsE
 have uE:=Tryz.noUnwrapE
 have vE:=Tryz.noUnwrapsE
 have nW:=Tryz.noIsW
 have uW:=Tryz.hasUnwrapW
 have mU:=Tryz.methodUnwrap
 have heq:=run_eql_iface_ptr_other (P:=Tryz.prog) w Tryz.underlying25 Tryz.underlying312 hi hcmp hj (by rw [hjs];decide) hne ha hb
 have hty:=run_eql_iface_types (P:=Tryz.prog) 75 312 (.pointer (some ⟨pb,0,none⟩)) (.pointer (some b)) Tryz.underlying25 (by decide) w
 go_enter Tryz.func28,Tryz.ntmps28
 go_wp2
 refine wp_loop_rounds 2 ?_
 rw [rounds_succ]
 go_wp2
 rw [rounds_succ]
 go_wp2
 go_ret
 exact ⟨rfl,rfl⟩
theorem Tryz.valueOfPP (t:Addr) (w:World):(ReflectliteValue.unpack (.iface 77 (.pointer (some t)))).run Tryz.prog w
  = .ok (.agg #[.pointer (some ⟨16,77,none⟩),.pointer (some ⟨w.heap.size,0,none⟩),.int .u64 150]) (w.alloc (.cells #[.pointer (some t)] 77)):=by kernel_rfl
theorem Tryz.typePP (a:Addr) (w:World):(ReflectliteValue.methodAny (ReflectliteValue.valueError "reflectlite.Value.Type" 0) (fun t _ _ _=>ReflectliteType.toType t) #[.agg #[.pointer (some ⟨16,77,none⟩),.pointer (some a),.int .u64 150]]).run Tryz.prog w
  = .ok (.iface 151 (.agg #[.pointer (some ⟨16,77,none⟩)])) w:=by kernel_rfl
theorem Tryz.methodKind (h:Value) (w:World):(Go.method 442 151 (.agg #[h]) "Kind").run Tryz.prog w=.ok (263,h) w:=by kernel_rfl
theorem Tryz.kindPP (w:World):((ReflectliteType.abiMethod fun t=>(fun a:Nat=>Value.int IntKind.u8 (a:Int)) <$> Rtype.kind t) #[.pointer (some ⟨16,77,none⟩)]).run Tryz.prog w=.ok (.int .u8 22) w:=by kernel_rfl
theorem Tryz.kindP (w:World):((ReflectliteType.abiMethod fun t=>(fun a:Nat=>Value.int IntKind.u8 (a:Int)) <$> Rtype.kind t) #[.pointer (some ⟨16,75,none⟩)]).run Tryz.prog w=.ok (.int .u8 22) w:=by kernel_rfl
theorem rlm (z:Sem Value) (f:TypeId → Addr → Nat → Nat → Sem Value) (v:Value) :
  ReflectliteValue.method z f #[v]=(do match ← ReflectliteValue.parts v with | none=>z | some (t,a,fl)=>f t a fl (fl % 32)):=rfl
theorem Tryz.partsPP (a:Addr) (w:World):(ReflectliteValue.parts (.agg #[.pointer (some ⟨16,77,none⟩),.pointer (some a),.int .u64 150])).run Tryz.prog w=.ok (some (77,a,150)) w:=by kernel_rfl
theorem Tryz.isNilPP (a p:Addr) (W:World) (ha:W.cell? a=some (.pointer (some p))) :
  (ReflectliteValue.method (ReflectliteValue.valueError "reflectlite.Value.IsNil" 0) ReflectliteValue.isNil #[.agg #[.pointer (some ⟨16,77,none⟩),.pointer (some a),.int .u64 150]]).run Tryz.prog W=.ok (.bool false) W:=by
 rw [rlm]
 simp only [Sem.run_bind,Tryz.partsPP,Result.andThen]
 simp [ReflectliteValue.isNil,loadVar,isAgg,underlying,Tryz.underlying77,ha,Result.andThen]
theorem Tryz.methodElem (h:Value) (w:World):(Go.method 442 151 (.agg #[h]) "Elem").run Tryz.prog w=.ok (275,.agg #[h]) w:=by kernel_rfl
theorem Tryz.methodImplements (h:Value) (w:World):(Go.method 442 151 (.agg #[h]) "Implements").run Tryz.prog w=.ok (276,.agg #[h]) w:=by kernel_rfl
theorem Tryz.methodAssignableTo (h:Value) (w:World):(Go.method 442 151 (.agg #[h]) "AssignableTo").run Tryz.prog w=.ok (273,.agg #[h]) w:=by kernel_rfl
theorem Tryz.elemPP (w:World):(ReflectliteType.method ReflectliteType.elem #[.agg #[.pointer (some ⟨16,77,none⟩)]]).run Tryz.prog w=.ok (.iface 151 (.agg #[.pointer (some ⟨16,75,none⟩)])) w:=by kernel_rfl
theorem Tryz.implementsP (w:World):(ReflectliteType.relation "Implements" ReflectliteType.implements_ #[.agg #[.pointer (some ⟨16,75,none⟩)],.iface 151 (.agg #[.pointer (some ⟨16,25,none⟩)])]).run Tryz.prog w=.ok (.bool true) w:=by kernel_rfl
theorem Tryz.typeOfP (v:Value) (w:World):(ReflectliteType.typeOf #[.iface 75 v]).run Tryz.prog w=.ok (.iface 151 (.agg #[.pointer (some ⟨16,75,none⟩)])) w:=by kernel_rfl
theorem Tryz.assignableP (w:World):(ReflectliteType.relation "AssignableTo" ReflectliteType.assignableTo #[.agg #[.pointer (some ⟨16,75,none⟩)],.iface 151 (.agg #[.pointer (some ⟨16,75,none⟩)])]).run Tryz.prog w=.ok (.bool true) w:=by kernel_rfl
theorem Tryz.assignableE (w:World):(ReflectliteType.relation "AssignableTo" ReflectliteType.assignableTo #[.agg #[.pointer (some ⟨16,312,none⟩)],.iface 151 (.agg #[.pointer (some ⟨16,75,none⟩)])]).run Tryz.prog w=.ok (.bool false) w:=by kernel_rfl
theorem Tryz.valueOfP (e:Addr) (w:World):(ReflectliteValue.unpack (.iface 75 (.pointer (some e)))).run Tryz.prog w
  = .ok (.agg #[.pointer (some ⟨16,75,none⟩),.pointer (some ⟨w.heap.size,0,none⟩),.int .u64 150]) (w.alloc (.cells #[.pointer (some e)] 75)):=by kernel_rfl
theorem Tryz.elemOfPP (w:World):(Rtype.elem? 77).run Tryz.prog w=.ok (some 75) w:=by kernel_rfl
theorem Tryz.mkP (p:Addr) (w:World):(ReflectliteValue.mk 75 p ReflectliteValue.flagAddr).run Tryz.prog w=.ok (.agg #[.pointer (some ⟨16,75,none⟩),.pointer (some p),.int .u64 406]) w:=by kernel_rfl
theorem Tryz.elemVPP (a p:Addr) (W:World) (ha:W.cell? a=some (.pointer (some p))) :
  (ReflectliteValue.method (ReflectliteValue.valueError "reflectlite.Value.Elem" 0) ReflectliteValue.elem #[.agg #[.pointer (some ⟨16,77,none⟩),.pointer (some a),.int .u64 150]]).run Tryz.prog W
   = .ok (.agg #[.pointer (some ⟨16,75,none⟩),.pointer (some p),.int .u64 406]) W:=by
 rw [rlm]
 simp only [Sem.run_bind,Tryz.partsPP,Result.andThen]
 simp [ReflectliteValue.elem,loadVar,isAgg,underlying,Tryz.underlying77,ha,Result.andThen,Tryz.elemOfPP,Tryz.mkP]
theorem Tryz.partsPa (a:Addr) (w:World):(ReflectliteValue.parts (.agg #[.pointer (some ⟨16,75,none⟩),.pointer (some a),.int .u64 406])).run Tryz.prog w=.ok (some (75,a,406)) w:=by kernel_rfl
theorem Tryz.partsP (a:Addr) (w:World):(ReflectliteValue.parts (.agg #[.pointer (some ⟨16,75,none⟩),.pointer (some a),.int .u64 150])).run Tryz.prog w=.ok (some (75,a,150)) w:=by kernel_rfl
theorem Tryz.directP (w:World):(Rtype.directlyAssignable 75 75).run Tryz.prog w=.ok true w:=by kernel_rfl
theorem Tryz.setP (ta b e:Addr) (old:Value) (W:World) (hb:W.cell? b=some (.pointer (some e))) (ht:W.cell? ta=some old) (hf:W.frozen? ta=false) :
  (ReflectliteValue.set #[.agg #[.pointer (some ⟨16,75,none⟩),.pointer (some ta),.int .u64 406],.agg #[.pointer (some ⟨16,75,none⟩),.pointer (some b),.int .u64 150]]).run Tryz.prog W
   = .ok (.tuple #[]) (W.setCell ta (.pointer (some e))):=by
 change Sem.run Tryz.prog (ReflectliteValue.parts (.agg #[.pointer (some ⟨16,75,none⟩),.pointer (some ta),.int .u64 406]) >>= fun _=>ReflectliteValue.parts (.agg #[.pointer (some ⟨16,75,none⟩),.pointer (some b),.int .u64 150]) >>= _) W=_
 simp only [Sem.run_bind,Tryz.partsPa,Tryz.partsP,Result.andThen]
 simp [ReflectliteValue.flagAddr,loadVar,isAgg,underlying,Tryz.underlying75,hb,Result.andThen,Tryz.directP,storeVar,Value.cells,storeCells,Addr.add]
 rw [run_store Tryz.prog W ta _ _ (by rfl)]
 simp [ht,hf]
theorem YF (e t:Addr) (old:Value) (w:World) (hg:w.cell? ⟨9,0,none⟩=some (.iface 151 (.agg #[.pointer (some ⟨16,25,none⟩)]))) (ht0:w.cell? t=some old) (hf0:w.frozen? t=false) :
  Calls Tryz.prog 27 #[.iface 75 (.pointer (some e)),.iface 77 (.pointer (some t))] w fun ev w'=>ev=.returned (.bool true) ∧ w'=((((w.alloc (.cells #[.pointer (some t)] 77)).alloc (.cells #[.pointer (some ⟨16,77,none⟩),.pointer (some ⟨w.heap.size,0,none⟩),.int .u64 150] 109)).alloc (.cells #[.pointer (some ⟨16,77,none⟩),.pointer (some ⟨w.heap.size,0,none⟩),.int .u64 150] 109)).alloc (.cells #[.pointer (some e)] 75)).setCell t (.pointer (some e)):=by
 have h6:=@run_callFunc_extern Tryz.prog 48 _ (fun args=>ReflectliteValue.unpack (args.getD 0 (.tuple #[]))) Tryz.func48 (by kernel_rfl) (by kernel_rfl) (by kernel_rfl) (by kernel_rfl)
 have h7:=@run_callFunc_extern Tryz.prog 49 _ (ReflectliteValue.methodAny (ReflectliteValue.valueError "reflectlite.Value.Type" 0) (fun t _ _ _=>ReflectliteType.toType t)) Tryz.func49 (by kernel_rfl) (by kernel_rfl) (by kernel_rfl) (by kernel_rfl)
 have h8:=@run_callFunc_extern Tryz.prog 50 _ (ReflectliteValue.method (ReflectliteValue.valueError "reflectlite.Value.IsNil" 0) ReflectliteValue.isNil) Tryz.func50 (by kernel_rfl) (by kernel_rfl) (by kernel_rfl) (by kernel_rfl)
 have h27:=@run_callFunc_extern Tryz.prog 263 _ (ReflectliteType.abiMethod fun t=>do pure (.int .u8 (← Rtype.kind t))) Tryz.func263 (by kernel_rfl) (by kernel_rfl) (by kernel_rfl) (by kernel_rfl)
 have h37:=@run_callFunc_extern Tryz.prog 275 _ (ReflectliteType.method ReflectliteType.elem) Tryz.func275 (by kernel_rfl) (by kernel_rfl) (by kernel_rfl) (by kernel_rfl)
 have h38:=@run_callFunc_extern Tryz.prog 276 _ (ReflectliteType.relation "Implements" ReflectliteType.implements_) Tryz.func276 (by kernel_rfl) (by kernel_rfl) (by kernel_rfl) (by kernel_rfl)
 have h10:=@run_callFunc_extern Tryz.prog 52 _ ReflectliteType.typeOf Tryz.func52 (by kernel_rfl) (by kernel_rfl) (by kernel_rfl) (by kernel_rfl)
 have h35:=@run_callFunc_extern Tryz.prog 273 _ (ReflectliteType.relation "AssignableTo" ReflectliteType.assignableTo) Tryz.func273 (by kernel_rfl) (by kernel_rfl) (by kernel_rfl) (by kernel_rfl)
 have h11:=@run_callFunc_extern Tryz.prog 86 _ (ReflectliteValue.method (ReflectliteValue.valueError "reflectlite.Value.Elem" 0) ReflectliteValue.elem) Tryz.func86 (by kernel_rfl) (by kernel_rfl) (by kernel_rfl) (by kernel_rfl)
 have h12:=@run_callFunc_extern Tryz.prog 87 _ ReflectliteValue.set Tryz.func87 (by kernel_rfl) (by kernel_rfl) (by kernel_rfl) (by kernel_rfl)
 have tO:=Tryz.typeOfP
 have mA:=Tryz.methodAssignableTo
 have a25:=Tryz.assignableP
 have v25:=Tryz.valueOfP
 have f6:=Tryz.valueOfPP
 have f7:=Tryz.typePP
 have mK:=Tryz.methodKind
 have mE:=Tryz.methodElem
 have mI:=Tryz.methodImplements
 have k27:=Tryz.kindPP
 have k25:=Tryz.kindP
 have e27:=Tryz.elemPP
 have i25:=Tryz.implementsP
 have n8:=Tryz.isNilPP ⟨w.heap.size,0,none⟩ t ((w.alloc (.cells #[.pointer (some t)] 77)).alloc (.cells #[.pointer (some ⟨16,77,none⟩),.pointer (some ⟨w.heap.size,0,none⟩),.int .u64 150] 109)) (by simp)
 have hlt:9 < w.heap.size:=by
  rcases Nat.lt_or_ge 9 w.heap.size with h | h
  · exact h
  · simp [World.cell?,Array.getElem?_eq_none h] at hg
 have hg2:((w.alloc (.cells #[.pointer (some t)] 77)).alloc (.cells #[.pointer (some ⟨16,77,none⟩),.pointer (some ⟨w.heap.size,0,none⟩),.int .u64 150] 109)).cell? ⟨9,0,none⟩=some (.iface 151 (.agg #[.pointer (some ⟨16,25,none⟩)])):=by
  rw [World.cell?_alloc_lt _ _ ⟨9,0,none⟩ (Nat.lt_of_lt_of_le hlt (by simp)),World.cell?_alloc_lt _ _ ⟨9,0,none⟩ hlt];exact hg
 have htl:t.block < w.heap.size:=by
  rcases Nat.lt_or_ge t.block w.heap.size with h | h
  · exact h
  · simp [World.cell?,Array.getElem?_eq_none h] at ht0
 have el:=Tryz.elemVPP ⟨w.heap.size,0,none⟩ t (((w.alloc (.cells #[.pointer (some t)] 77)).alloc (.cells #[.pointer (some ⟨16,77,none⟩),.pointer (some ⟨w.heap.size,0,none⟩),.int .u64 150] 109)).alloc (.cells #[.pointer (some ⟨16,77,none⟩),.pointer (some ⟨w.heap.size,0,none⟩),.int .u64 150] 109)) (by rw [World.cell?_alloc_lt _ _ ⟨w.heap.size,0,none⟩ (by simp;omega)];simp)
 have st:=Tryz.setP t ⟨w.heap.size+1+1+1,0,none⟩ e old ((((w.alloc (.cells #[.pointer (some t)] 77)).alloc (.cells #[.pointer (some ⟨16,77,none⟩),.pointer (some ⟨w.heap.size,0,none⟩),.int .u64 150] 109)).alloc (.cells #[.pointer (some ⟨16,77,none⟩),.pointer (some ⟨w.heap.size,0,none⟩),.int .u64 150] 109)).alloc (.cells #[.pointer (some e)] 75))
  (by rw [World.cell?_alloc_at _ _ _ _ (by simp)];rfl)
  (by rw [World.cell?_alloc_lt _ _ t (by simp;omega),World.cell?_alloc_lt _ _ t (by simp;omega),World.cell?_alloc_lt _ _ t (by simp;omega),World.cell?_alloc_lt _ _ t htl];exact ht0)
  (by rw [World.frozen?_alloc_old _ _ t (by simp;omega),World.frozen?_alloc_old _ _ t (by simp;omega),World.frozen?_alloc_old _ _ t (by simp;omega),World.frozen?_alloc_old _ _ t (Nat.ne_of_lt htl)];exact hf0)
 go_enter Tryz.func27,Tryz.ntmps27
 go_wp2
 refine wp_loop_rounds 1 ?_
 rw [rounds_succ]
 go_wp2
 go_ret
 exact ⟨rfl,rfl⟩
theorem Z4 (e t:Addr) (w:World) (hg:w.cell? ⟨9,0,none⟩=some (.iface 151 (.agg #[.pointer (some ⟨16,25,none⟩)]))) :
  Calls Tryz.prog 27 #[.iface 312 (.pointer (some e)),.iface 77 (.pointer (some t))] w fun ev w'=>ev=.returned (.bool false) ∧ w'=(((w.alloc (.cells #[.pointer (some t)] 77)).alloc (.cells #[.pointer (some ⟨16,77,none⟩),.pointer (some ⟨w.heap.size,0,none⟩),.int .u64 150] 109)).alloc (.cells #[.pointer (some ⟨16,77,none⟩),.pointer (some ⟨w.heap.size,0,none⟩),.int .u64 150] 109)):=by
 have h6:=@run_callFunc_extern Tryz.prog 48 _ (fun args=>ReflectliteValue.unpack (args.getD 0 (.tuple #[]))) Tryz.func48 (by kernel_rfl) (by kernel_rfl) (by kernel_rfl) (by kernel_rfl)
 have h7:=@run_callFunc_extern Tryz.prog 49 _ (ReflectliteValue.methodAny (ReflectliteValue.valueError "reflectlite.Value.Type" 0) (fun t _ _ _=>ReflectliteType.toType t)) Tryz.func49 (by kernel_rfl) (by kernel_rfl) (by kernel_rfl) (by kernel_rfl)
 have h8:=@run_callFunc_extern Tryz.prog 50 _ (ReflectliteValue.method (ReflectliteValue.valueError "reflectlite.Value.IsNil" 0) ReflectliteValue.isNil) Tryz.func50 (by kernel_rfl) (by kernel_rfl) (by kernel_rfl) (by kernel_rfl)
 have h27:=@run_callFunc_extern Tryz.prog 263 _ (ReflectliteType.abiMethod fun t=>do pure (.int .u8 (← Rtype.kind t))) Tryz.func263 (by kernel_rfl) (by kernel_rfl) (by kernel_rfl) (by kernel_rfl)
 have h37:=@run_callFunc_extern Tryz.prog 275 _ (ReflectliteType.method ReflectliteType.elem) Tryz.func275 (by kernel_rfl) (by kernel_rfl) (by kernel_rfl) (by kernel_rfl)
 have h38:=@run_callFunc_extern Tryz.prog 276 _ (ReflectliteType.relation "Implements" ReflectliteType.implements_) Tryz.func276 (by kernel_rfl) (by kernel_rfl) (by kernel_rfl) (by kernel_rfl)
 have h10:=@run_callFunc_extern Tryz.prog 52 _ ReflectliteType.typeOf Tryz.func52 (by kernel_rfl) (by kernel_rfl) (by kernel_rfl) (by kernel_rfl)
 have h35:=@run_callFunc_extern Tryz.prog 273 _ (ReflectliteType.relation "AssignableTo" ReflectliteType.assignableTo) Tryz.func273 (by kernel_rfl) (by kernel_rfl) (by kernel_rfl) (by kernel_rfl)
 have tO:=Tryz.isTypeOf
 have mA:=Tryz.methodAssignableTo
 have a25:=Tryz.assignableE
 have f6:=Tryz.valueOfPP
 have f7:=Tryz.typePP
 have mK:=Tryz.methodKind
 have mE:=Tryz.methodElem
 have mI:=Tryz.methodImplements
 have k27:=Tryz.kindPP
 have k25:=Tryz.kindP
 have e27:=Tryz.elemPP
 have i25:=Tryz.implementsP
 have nE:=Tryz.noAsE
 have uE:=Tryz.noUnwrapE
 have vE:=Tryz.noUnwrapsE
 have n8:=Tryz.isNilPP ⟨w.heap.size,0,none⟩ t ((w.alloc (.cells #[.pointer (some t)] 77)).alloc (.cells #[.pointer (some ⟨16,77,none⟩),.pointer (some ⟨w.heap.size,0,none⟩),.int .u64 150] 109)) (by simp)
 have hlt:9 < w.heap.size:=by
  rcases Nat.lt_or_ge 9 w.heap.size with h | h
  · exact h
  · simp [World.cell?,Array.getElem?_eq_none h] at hg
 have hg2:((w.alloc (.cells #[.pointer (some t)] 77)).alloc (.cells #[.pointer (some ⟨16,77,none⟩),.pointer (some ⟨w.heap.size,0,none⟩),.int .u64 150] 109)).cell? ⟨9,0,none⟩=some (.iface 151 (.agg #[.pointer (some ⟨16,25,none⟩)])):=by
  rw [World.cell?_alloc_lt _ _ ⟨9,0,none⟩ (Nat.lt_of_lt_of_le hlt (by simp)),World.cell?_alloc_lt _ _ ⟨9,0,none⟩ hlt];exact hg
 go_enter Tryz.func27,Tryz.ntmps27
 go_wp2
 refine wp_loop_rounds 1 ?_
 rw [rounds_succ]
 go_wp2
 go_ret
 exact ⟨rfl,rfl⟩
end Go.Proofs.YtipdclphpkgceaaGreatDoor

namespace Go.Proofs.YtipdclphpkgceaaGreatDoor
def BX:List UInt8 → Int → Option Int
 | [],n=>some n
 | b :: l,n=>if b.toNat < 48 ∨ 57 < b.toNat then none else BX l (10 * n+((b.toNat:Int) - 48))
def Ev (l:List UInt8):Option Int:=
 if l.length < 1 ∨ 7 < l.length then none else if l.head? = some 48 ∧ 1 < l.length then none else BX l 0
theorem IX:∀ (l:List UInt8) (n m:Int),0 ≤ n → BX l n=some m → 0 ≤ m ∧ m < 10 ^ l.length * (n+1)
 | [],n,m,h,e=>by
  simp only [BX,Option.some.injEq] at e
  subst e
  exact ⟨h,by simp;omega⟩
 | b :: l,n,m,h,e=>by
  unfold BX at e
  split at e
  · cases e
  ·
   rename_i hb
   obtain ⟨h1,h2⟩:=IX l _ m (by omega) e
   refine ⟨h1,Int.lt_of_lt_of_le h2 ?_⟩
   rw [List.length_cons,Int.pow_succ,Int.mul_assoc]
   exact Int.mul_le_mul_of_nonneg_left (by omega) (Int.pow_nonneg (by decide))
theorem Nc {l:List UInt8} {m:Int} (h:Ev l=some m):0 ≤ m ∧ m ≤ 9999999:=by
 unfold Ev at h
 split at h
 · cases h
 ·
  rename_i hl
  split at h
  · cases h
  ·
   obtain ⟨h1,h2⟩:=IX l 0 m (Int.le_refl _) h
   refine ⟨h1,?_⟩
   obtain ⟨k,hk⟩:∃ k,l.length=k:=⟨_,rfl⟩
   rw [hk] at h2 hl
   rcases (show k=1 ∨ k=2 ∨ k=3 ∨ k=4 ∨ k=5 ∨ k=6 ∨ k=7 by omega) with rfl | rfl | rfl | rfl | rfl | rfl | rfl <;> simp at h2 <;> omega
def Du:List (List UInt8) → Option (List Int)
 | []=>some []
 | x :: l=>(Ev x).bind fun n=>(Du l).map fun ns=>n :: ns
theorem DI:∀ {ws:List (List UInt8)} {ns:List Int},Du ws=some ns → ns.length=ws.length
 | [],ns,h=>by simp only [Du,Option.some.injEq] at h;subst h;rfl
 | x :: l,ns,h=>by
  simp only [Du,Option.bind_eq_some_iff,Option.map_eq_some_iff] at h
  obtain ⟨n,-,ms,h2,rfl⟩:=h
  simp [DI h2]
theorem TF {ws:List (List UInt8)} {ns:List Int} (hl:ns.length=ws.length) (h:∀ (i:Nat) x n,ws[i]? = some x → ns[i]? = some n → Ev x=some n):Du ws=some ns:=by
 induction ws generalizing ns with
 | nil=>
  cases ns with
  | nil=>rfl
  | cons=>simp at hl
 | cons x l ih=>
  cases ns with
  | nil=>simp at hl
  | cons n ms=>
   simp only [Du,h 0 x n rfl rfl,Option.bind_some,ih (ns:=ms) (by simpa using hl) fun i y k h1 h2=>h (i+1) y k (by simpa using h1) (by simpa using h2),Option.map_some]
theorem UB {ws:List (List UInt8)} {i:Nat} {x:List UInt8} (h:ws[i]? = some x) (hn:Ev x=none):Du ws=none:=by
 induction ws generalizing i with
 | nil=>simp at h
 | cons y l ih=>
  cases i with
  | zero=>
   simp only [List.getElem?_cons_zero,Option.some.injEq] at h
   subst h
   simp [Du,hn]
  | succ i=>
   simp only [List.getElem?_cons_succ] at h
   simp [Du,ih h]
def FE (l:List UInt8):Option Int:=if l.length ≠ 1 then none else Ev l
def DN (l:List UInt8):Option Int:=(FE l).bind fun n=>if 0 ≤ n ∧ n < 8 then some n else none
def Jf:List Int → List (Int × Int)
 | a :: b :: l=>(a,b) :: Jf l
 | _=>[]
def DV (ws:List (List UInt8)):Option (List (Int × Int)):=if ws.length % 2 ≠ 0 then none else (Du ws).map Jf
theorem Gv:∀ (ns:List Int),(Jf ns).length=ns.length / 2
 | []=>rfl
 | [_]=>by simp [Jf]
 | a :: b :: l=>by simp only [Jf,List.length_cons,Gv l];omega
theorem MQ:∀ (ns:List Int) (i:Nat) (a b:Int),ns[2 * i]? = some a → ns[2 * i+1]? = some b → (Jf ns)[i]? = some (a,b)
 | [],i,a,b,h,_=>by simp at h
 | [_],i,a,b,_,h=>by simp at h
 | x :: y :: l,0,a,b,h1,h2=>by
  simp only [Nat.mul_zero,List.getElem?_cons_zero,Option.some.injEq,Nat.zero_add,List.getElem?_cons_succ] at h1 h2
  subst h1;subst h2;rfl
 | x :: y :: l,i+1,a,b,h1,h2=>by
  simp only [Jf,List.getElem?_cons_succ]
  refine MQ l i a b ?_ ?_
  · rw [show 2 * (i+1)=2 * i+1+1 by omega,List.getElem?_cons_succ,List.getElem?_cons_succ] at h1;exact h1
  · rw [show 2 * (i+1)+1=2 * i+1+1+1 by omega,List.getElem?_cons_succ,List.getElem?_cons_succ] at h2;exact h2
def ZI (c:Int):List UInt8:=
 if c=1 then [116,101,120,116] else if c=2 then [98,111,117,110,100] else if c=3 then [115,104,97,112,101] else if c=4 then [110,111,110,101] else if c=5 then [111,108,100] else if c=6 then [111,118,101,114] else if c=7 then [105,100,108,101] else if c=8 then [116,117,114,110] else [107,105,110,100]
def Di (c:Int):List UInt8:=[102,108,111,111,100,103,97,116,101,58,32] ++ ZI c
def AU:List UInt8:=[111,107]
def LB:List UInt8:=[110,111,116,104,105,110,103]
def Dl (k f t:Int):List UInt8:=Go.Lib.itoa k ++ [58] ++ Go.Lib.itoa f ++ [45] ++ Go.Lib.itoa t
end Go.Proofs.YtipdclphpkgceaaGreatDoor

namespace Go.Proofs.YtipdclphpkgceaaGreatDoor
open Go.RowKit Go.Extern.Stop Go.Stop Go.Extern
def six (i:Nat):Prop:=i < 5 ∨ i=8
structure AP (w:World) (ad:Nat → Addr):Prop where
 typ:w.cell? ⟨9,0,none⟩=some (.iface 151 (.agg #[.pointer (some ⟨16,25,none⟩)]))
 c0:w.cell? ⟨1,0,none⟩=some (.iface 312 (.pointer (some (ad 0))))
 c1:w.cell? ⟨0,0,none⟩=some (.iface 312 (.pointer (some (ad 1))))
 c2:w.cell? ⟨2,0,none⟩=some (.iface 312 (.pointer (some (ad 2))))
 c3:w.cell? ⟨3,0,none⟩=some (.iface 312 (.pointer (some (ad 3))))
 c4:w.cell? ⟨4,0,none⟩=some (.iface 312 (.pointer (some (ad 4))))
 c8:w.cell? ⟨8,0,none⟩=some (.iface 312 (.pointer (some (ad 8))))
 ne:∀ i j,six i → six j → i ≠ j → ad i ≠ ad j
 blk:∀ i,six i → ∃ c t,w.heap[(ad i).block]? = some (.cells c t (0,0))
 txt:∀ i,six i → ∃ s:ByteArray,w.cell? (ad i)=some (.string s) ∧ s.data.toList=Di ((i:Int)+1)
theorem RI {w w':World} {b:Nat} {o:Obj} (hb:Below w.heap.size w w') (h:w.heap[b]? = some o):w'.heap[b]? = some o:=by
 rw [hb.block b ?_];exact h
 rcases Nat.lt_or_ge b w.heap.size with h' | h'
 · exact h'
 · simp [Array.getElem?_eq_none h'] at h
theorem AP.below {w w':World} {ad:Nat → Addr} (h:AP w ad) (hb:Below w.heap.size w w'):AP w' ad:=
 ⟨cell_later hb h.typ,cell_later hb h.c0,cell_later hb h.c1,cell_later hb h.c2,cell_later hb h.c3,cell_later hb h.c4,cell_later hb h.c8,h.ne,fun i hi=>by
  obtain ⟨c,t,e⟩:=h.blk i hi;exact ⟨c,t,RI hb e⟩,fun i hi=>by
  obtain ⟨s,e,h2⟩:=h.txt i hi;exact ⟨s,cell_later hb e,h2⟩⟩
theorem AP.one {w:World} {ad ad':Nat → Addr} (h:AP w ad) (h':AP w ad') (k:Nat) (hk:six k):ad k=ad' k:=by
 have same:∀ {a:Addr} {x y:Addr},w.cell? a=some (.iface 312 (.pointer (some x))) → w.cell? a=some (.iface 312 (.pointer (some y))) → x=y:=fun h1 h2=>by
  rw [h1] at h2
  injection h2 with h2
  injection h2 with _ h2
  injection h2 with h2
  injection h2
 rcases hk with hk | rfl
 ·
  match k,hk with
  | 0,_=>exact same h.c0 h'.c0
  | 1,_=>exact same h.c1 h'.c1
  | 2,_=>exact same h.c2 h'.c2
  | 3,_=>exact same h.c3 h'.c3
  | 4,_=>exact same h.c4 h'.c4
 · exact same h.c8 h'.c8
theorem Y1 (w:World) (o1 o2 o3 o4:Obj) (v:Value):(((((w.alloc (.cells #[.pointer none] 75)).alloc o1).alloc o2).alloc o3).alloc o4 |>.setCell ⟨w.heap.size,0,none⟩ v).cell? ⟨w.heap.size,0,none⟩=some v:=
 World.cell?_setCell_same _ _ _ (u:=.pointer none) (by
  rw [World.cell?_alloc_lt _ _ ⟨w.heap.size,0,none⟩ (by simp;omega),World.cell?_alloc_lt _ _ ⟨w.heap.size,0,none⟩ (by simp;omega),World.cell?_alloc_lt _ _ ⟨w.heap.size,0,none⟩ (by simp;omega),World.cell?_alloc_lt _ _ ⟨w.heap.size,0,none⟩ (by simp),World.cell?_alloc_at _ _ _ _ rfl];rfl)
end Go.Proofs.YtipdclphpkgceaaGreatDoor

namespace Go.Proofs.YtipdclphpkgceaaGreatDoor
open Go.RowKit
def JY (w:World) (E:Value) (c a:Int):Prop:=(E=.nilIface ∧ c=0 ∧ a = -1) ∨ ∃ ad,AP w ad ∧ ∃ k:Nat,k < 9 ∧ c=(k:Int)+1 ∧
 ((E=.iface 312 (.pointer (some (ad k))) ∧ a = -1) ∨ ∃ pb,E=.iface 75 (.pointer (some ⟨pb,0,none⟩)) ∧ w.cell? ⟨pb,0,none⟩=some (.int .i64 a) ∧ w.cell? ⟨pb,1,none⟩=some (.iface 312 (.pointer (some (ad k)))))
theorem JY.below {w w':World} {E:Value} {c a:Int} (h:JY w E c a) (hb:Below w.heap.size w w'):JY w' E c a:=by
 rcases h with h | ⟨ad,he,k,hk,hc,h | ⟨pb,h1,h2,h3⟩⟩
 · exact .inl h
 · exact .inr ⟨ad,he.below hb,k,hk,hc,.inl h⟩
 · exact .inr ⟨ad,he.below hb,k,hk,hc,.inr ⟨pb,h1,cell_later hb h2,cell_later hb h3⟩⟩
theorem TJ (w:World):JY w .nilIface 0 (-1):=.inl ⟨rfl,rfl,rfl⟩
theorem SE {w:World} {ad:Nat → Addr} (he:AP w ad) (k:Nat) (hk:k < 9):JY w (.iface 312 (.pointer (some (ad k)))) (k+1) (-1):=.inr ⟨ad,he,k,hk,rfl,.inl ⟨rfl,rfl⟩⟩
theorem FN {w:World} {ad:Nat → Addr} (he:AP w ad) (k:Nat) (hk:k < 9) (n:Int) (pb:Nat) (h0:w.cell? ⟨pb,0,none⟩=some (.int .i64 n)) (h1:w.cell? ⟨pb,1,none⟩=some (.iface 312 (.pointer (some (ad k))))) :
  JY w (.iface 75 (.pointer (some ⟨pb,0,none⟩))) (k+1) n:=.inr ⟨ad,he,k,hk,rfl,.inr ⟨pb,rfl,h0,h1⟩⟩
structure AR (w:World) (E:Value) (c p:Int):Prop where
 code:JY w E c p
 none_:c=0 → E=.nilIface
 some_:c ≠ 0 → ∃ ty v,E=.iface ty v
theorem AR.below {w w':World} {E:Value} {c p:Int} (h:AR w E c p) (hb:Below w.heap.size w w'):AR w' E c p:=⟨h.code.below hb,h.none_,h.some_⟩
theorem CG (w:World):AR w .nilIface 0 (-1):=⟨TJ w,fun _=>rfl,fun h=>absurd rfl h⟩
theorem AY {w:World} {ad:Nat → Addr} (he:AP w ad) (k:Nat) (hk:k < 9):AR w (.iface 312 (.pointer (some (ad k)))) (k+1) (-1):=⟨SE he k hk,fun h=>by omega,fun _=>⟨_,_,rfl⟩⟩
def CW (ls:List (Int × Int)) (c a:Int):Prop:=
 ((ls.length < 1 ∨ 6 < ls.length) ∧ c=3 ∧ a = -1) ∨
 (1 ≤ ls.length ∧ ls.length ≤ 6 ∧ ∃ j:Nat,j < ls.length ∧ (∀ i x y,i < j → ls[i]? = some (x,y) → BF x y=true) ∧ (∀ x y,ls[j]? = some (x,y) → BF x y=false) ∧ c=2 ∧ a=j) ∨
 (Ag ls ∧ c=0 ∧ a = -1)
theorem Nf (ls:List (Int × Int)):∃ c a,CW ls c a:=by
 by_cases hs:ls.length < 1 ∨ 6 < ls.length
 · exact ⟨3,-1,.inl ⟨hs,rfl,rfl⟩⟩
 ·
  rcases Tn ls with h | ⟨j,hj,h1,h2⟩
  · exact ⟨0,-1,.inr (.inr ⟨⟨by omega,by omega,h⟩,rfl,rfl⟩)⟩
  · exact ⟨2,j,.inr (.inl ⟨by omega,by omega,j,hj,h1,h2,rfl,rfl⟩)⟩
theorem CW.ok {ls:List (Int × Int)} {a:Int} (h:CW ls 0 a):Ag ls ∧ a = -1:=by
 rcases h with ⟨_,h,_⟩ | ⟨_,_,_,_,_,_,h,_⟩ | ⟨h,_,h'⟩
 · omega
 · omega
 · exact ⟨h,h'⟩
theorem CW.num {ls:List (Int × Int)} {c a:Int} (h:CW ls c a):c=0 ∨ c=2 ∨ c=3:=by
 rcases h with ⟨_,h,_⟩ | ⟨_,_,_,_,_,_,h,_⟩ | ⟨_,h,_⟩ <;> omega
theorem JV (n:Int) (w:World):Calls Tryz.prog 154 #[.int .i64 n] w fun e w'=>e=.returned (.bool (decide (1 ≤ n ∧ n ≤ 1500))) ∧ w'=w:=by
 by_cases h1:1 ≤ n
 ·
  by_cases h2:n ≤ 1500
  ·
   rw [show decide (1 ≤ n ∧ n ≤ 1500)=true by simp [h1,h2]]
   go_enter Tryz.func154,Tryz.ntmps154
   go_wp2
   go_ret
   exact ⟨rfl,rfl⟩
  ·
   rw [show decide (1 ≤ n ∧ n ≤ 1500)=false by simp [h2]]
   go_enter Tryz.func154,Tryz.ntmps154
   go_wp2
   go_ret
   exact ⟨rfl,rfl⟩
 ·
  rw [show decide (1 ≤ n ∧ n ≤ 1500)=false by simp [h1]]
  go_enter Tryz.func154,Tryz.ntmps154
  go_wp2
  go_ret
  exact ⟨rfl,rfl⟩
theorem JO (t:Int) (w:World):Calls Tryz.prog 155 #[.int .i64 t] w fun e w'=>e=.returned (.bool (decide (0 ≤ t ∧ t ≤ 1099511627776))) ∧ w'=w:=by
 by_cases h1:0 ≤ t
 ·
  by_cases h2:t ≤ 1099511627776
  ·
   rw [show decide (0 ≤ t ∧ t ≤ 1099511627776)=true by simp [h1,h2]]
   go_enter Tryz.func155,Tryz.ntmps155
   go_wp2
   go_ret
   exact ⟨rfl,rfl⟩
  ·
   rw [show decide (0 ≤ t ∧ t ≤ 1099511627776)=false by simp [h2]]
   go_enter Tryz.func155,Tryz.ntmps155
   go_wp2
   go_ret
   exact ⟨rfl,rfl⟩
 ·
  rw [show decide (0 ≤ t ∧ t ≤ 1099511627776)=false by simp [h1]]
  go_enter Tryz.func155,Tryz.ntmps155
  go_wp2
  go_ret
  exact ⟨rfl,rfl⟩
theorem Om (x y z:Int) (s t:Bool) (w:World) (HS:Hid (∀ w',Calls Tryz.prog 154 #[.int .i64 y] w' fun e w''=>e=.returned (.bool s) ∧ w''=w')) (HT:Hid (∀ w',Calls Tryz.prog 155 #[.int .i64 z] w' fun e w''=>e=.returned (.bool t) ∧ w''=w')) :
  Calls Tryz.prog 130 #[.agg #[.int .i64 x,.int .i64 y,.int .i64 z]] w fun e w'=>e=.returned (.bool (decide (0 ≤ x) && decide (x < 8) && s && t)) ∧ w'=w.alloc (.cells #[.int .i64 x,.int .i64 y,.int .i64 z] 58):=by
 by_cases h1:0 ≤ x
 ·
  by_cases h2:x < 8
  ·
   rw [show (decide (0 ≤ x) && decide (x < 8) && s && t)=(s && t) by simp [h1,h2]]
   cases s with
   | false=>
    go_enter Tryz.func130,Tryz.ntmps130
    go_wp2_with (first
     | (go_at_call 154;refine (HS.out _).mono ?_;rintro e w1 ⟨rfl,rfl⟩)
     | (go_at_call 155;refine (HT.out _).mono ?_;rintro e w1 ⟨rfl,rfl⟩))
    go_ret
    exact ⟨rfl,rfl⟩
   | true=>
    cases t with
    | false=>
     go_enter Tryz.func130,Tryz.ntmps130
     go_wp2_with (first
      | (go_at_call 154;refine (HS.out _).mono ?_;rintro e w1 ⟨rfl,rfl⟩)
      | (go_at_call 155;refine (HT.out _).mono ?_;rintro e w1 ⟨rfl,rfl⟩))
     go_ret
     exact ⟨rfl,rfl⟩
    | true=>
     go_enter Tryz.func130,Tryz.ntmps130
     go_wp2_with (first
      | (go_at_call 154;refine (HS.out _).mono ?_;rintro e w1 ⟨rfl,rfl⟩)
      | (go_at_call 155;refine (HT.out _).mono ?_;rintro e w1 ⟨rfl,rfl⟩))
     go_ret
     exact ⟨rfl,rfl⟩
  ·
   rw [show (decide (0 ≤ x) && decide (x < 8) && s && t)=false by simp [h2]]
   go_enter Tryz.func130,Tryz.ntmps130
   go_wp2
   go_ret
   exact ⟨rfl,rfl⟩
 ·
  rw [show (decide (0 ≤ x) && decide (x < 8) && s && t)=false by simp [h1]]
  go_enter Tryz.func130,Tryz.ntmps130
  go_wp2
  go_ret
  exact ⟨rfl,rfl⟩
theorem FL (p:Pk) (w:World) :
  Calls Tryz.prog 130 #[.agg #[.int .i64 p.flow,.int .i64 p.size,.int .i64 p.tick]] w fun e w'=>e=.returned (.bool (Jr p)) ∧ w'=w.alloc (.cells #[.int .i64 p.flow,.int .i64 p.size,.int .i64 p.tick] 58):=by
 have h:=Om p.flow p.size p.tick _ _ w (fun w'=>JV p.size w') (fun w'=>JO p.tick w')
 rw [show (decide (0 ≤ p.flow) && decide (p.flow < 8) && decide (1 ≤ p.size ∧ p.size ≤ 1500) && decide (0 ≤ p.tick ∧ p.tick ≤ 1099511627776))=Jr p by
  unfold Jr
  simp only [Bool.decide_and,Bool.and_assoc]] at h
 exact h
def Lb (ps:List Pk) (j:Nat):Prop:=∀ (i:Nat) q,i < j → ps[i]? = some q → Jr q=true ∧ ahead ps i ≤ q.tick
theorem NQ {ps:List Pk} {k:Nat} {p:Pk} (h:ps[k]? = some p):ahead ps (k+1)=p.tick:=by simp only [ahead];rw [h]
theorem RF (a:Option Addr) (n cap:Nat) (w:World) (ad:Nat → Addr) (he:Ii w ad) (hm:n ≤ maxLen) (h:300 < n) :
  Calls Tryz.prog 105 #[.slice a n cap] w fun e w'=>e=.returned (.iface 312 (.pointer (some (ad 1)))) ∧ w'=w:=by
 unfold maxLen at hm
 have e1:=he.c1
 go_enter Tryz.func105,Tryz.ntmps105
 go_wp2
 go_ret
 exact ⟨rfl,rfl⟩
theorem He (a:Option Addr) (cap:Nat) (ps:List Pk) (w:World) (hl:AO w a ps) (h:Aj ps) :
  Calls Tryz.prog 105 #[.slice a ps.length cap] w fun e w'=>e=.returned .nilIface ∧ Below w.heap.size w w':=by
 by_cases h0:ps=[]
 ·
  subst h0
  show Calls Tryz.prog 105 #[.slice a 0 cap] w _
  clear hl
  go_enter Tryz.func105,Tryz.ntmps105
  go_wp2
  refine wp_loop_rounds 1 ?_
  rw [rounds_succ]
  go_wp2
  go_ret
  exact ⟨rfl,Below.refl _ _⟩
 ·
  obtain ⟨b,off,rfl,hlt,hc⟩:=hl.place (by cases ps with | nil=>exact absurd rfl h0 | cons p r=>simp)
  have HC:Hid (∀ (i:Nat) p,ps[i]? = some p → w.cell? ⟨b,off+i * 3,none⟩=some (.int .i64 p.flow) ∧ w.cell? ⟨b,off+i * 3+1,none⟩=some (.int .i64 p.size) ∧ w.cell? ⟨b,off+i * 3+2,none⟩=some (.int .i64 p.tick)):=hc
  have HO:Hid (Aj ps):=h
  have hn300:ps.length ≤ 300:=h.few
  clear hl h hc h0
  generalize hn:ps.length=n at *
  have Hn:=(show Hid (ps.length=n) from hn)
  clear hn
  go_enter Tryz.func105,Tryz.ntmps105
  go_wp2
  go_loopw [3,12] (fun l i wr=>∃ k:Nat,k ≤ n ∧ i=.int .i64 k ∧ l=.int .i64 (ahead ps k) ∧ Below w.heap.size w wr) (fun _ i _=>n - (intOf i).toNat)
  case atStart=>exact ⟨0,Nat.zero_le _,rfl,rfl,Below.refl _ _⟩
  case round=>
   obtain ⟨k,hk,rfl,rfl,hb⟩:=hrel
   have HB:Hid (Below w.heap.size w wr):=hb
   by_cases hkn:k < n
   ·
    obtain ⟨p,hp,-⟩:=Ai ps k (by rw [Hn.out];exact hkn)
    obtain ⟨d1,d2,d3⟩:=HC.out k p hp
    have hc1:wr.cell? ⟨b,off+k * 3,none⟩=some (.int .i64 p.flow):=by rw [hb.cell (p:=⟨b,off+k * 3,none⟩) hlt];exact d1
    have hc2:wr.cell? ⟨b,off+k * 3+1,none⟩=some (.int .i64 p.size):=by rw [hb.cell (p:=⟨b,off+k * 3+1,none⟩) hlt];exact d2
    have hc3:wr.cell? ⟨b,off+k * 3+2,none⟩=some (.int .i64 p.tick):=by rw [hb.cell (p:=⟨b,off+k * 3+2,none⟩) hlt];exact d3
    obtain ⟨o1,o2⟩:=HO.out.each k p hp
    have HA:Hid (ahead ps (k+1)=p.tick):=NQ hp
    have HP:Hid (∀ w',Calls Tryz.prog 130 #[.agg #[.int .i64 p.flow,.int .i64 p.size,.int .i64 p.tick]] w' fun e w''=>e=.returned (.bool true) ∧ w''=w'.alloc (.cells #[.int .i64 p.flow,.int .i64 p.size,.int .i64 p.tick] 58)):=fun w'=>by
     have:=FL p w'
     rwa [o1] at this
    clear d1 d2 d3 hp o1 hb
    have o2':¬ p.tick < ahead ps k:=by omega
    generalize ahead ps k=L at *
    generalize p.flow=x at *
    generalize p.size=y at *
    generalize p.tick=z at *
    go_wp2_with (go_at_call 130;refine (HP.out _).mono ?_;rintro e w' ⟨rfl,rfl⟩)
    have hs:=HB.out.size
    go_roundw
    case rel=>exact ⟨k+1,by omega,by go_num,by rw [HA.out],(HB.out.alloc hs _).alloc (by simp;omega) _⟩
    case measure=>simp [intOf];omega
   ·
    go_wp2
    go_ret
    exact ⟨rfl,HB.out⟩
end Go.Proofs.YtipdclphpkgceaaGreatDoor
