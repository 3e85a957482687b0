/- Own facts, put together: no statement of its own. -/
import Derived.Test.YtepnfioldbhffabDoorChecked
import Derived.WalkKit
import Derived.WalkSpells
import Derived.WalkLawsBesides
import Derived.BigQuiet
import Derived.LaidEql
import Derived.Stop.Asserts
import Derived.RowKitTokens

/- errors.Is, errors.As by their contracts, at the errors that package api makes: after the guide's worked texts for errors.Is and errors.As. -/
namespace Go.Proofs.YtepnfioldbhffabDoor
open Go.RowKit Go.Extern.Stop Go.Stop Go.Extern

theorem Tryd.isTypeOf (v : Value) (w : World) : (Extern.ReflectliteType.typeOf #[.iface 157 v]).run Tryd.prog w = .ok (.iface 143 (.agg #[.pointer (some ⟨10, 157, none⟩)])) w := by kernel_rfl
/-- The model's entry for (rtype).Comparable, under a name. -/
def cmpEntry : Array Value → Sem Value := Extern.ReflectliteType.method fun t => do Rtype.noPackHeld "Comparable" t; pure (.bool (← typeInfo t).comparable)
theorem Tryd.isComparable (w : World) : (cmpEntry #[.agg #[.pointer (some ⟨10, 157, none⟩)]]).run Tryd.prog w = .ok (.bool true) w := by kernel_rfl
theorem Tryd.isMethodComparable (v : Value) (w : World) : (Go.method 290 143 v "Comparable").run Tryd.prog w = .ok (137, v) w := by kernel_rfl
theorem Tryd.isComp : (Tryd.prog.info? 157).map (·.comparable) = some true := by kernel_rfl
theorem Tryd.isSize : (Tryd.prog.info? 178).map (·.size) = some 1 := by kernel_rfl
theorem Tryd.noIsE (v : Value) (xT : TypeId) (w : World) : (Instr.typeAssert (.iface 157 v) xT 154 true).run Tryd.prog w = .ok (.tuple #[.nilIface, .bool false]) w := run_typeAssert_lacksB Tryd.underlying154 (by kernel_rfl) (by kernel_rfl) v xT w
theorem Tryd.noAsE (v : Value) (xT : TypeId) (w : World) : (Instr.typeAssert (.iface 157 v) xT 147 true).run Tryd.prog w = .ok (.tuple #[.nilIface, .bool false]) w := run_typeAssert_lacksB Tryd.underlying147 (by kernel_rfl) (by kernel_rfl) v xT w
theorem Tryd.noUnwrapE (v : Value) (xT : TypeId) (w : World) : (Instr.typeAssert (.iface 157 v) xT 150 true).run Tryd.prog w = .ok (.tuple #[.nilIface, .bool false]) w := run_typeAssert_lacksB Tryd.underlying150 (by kernel_rfl) (by kernel_rfl) v xT w
theorem Tryd.noUnwrapsE (v : Value) (xT : TypeId) (w : World) : (Instr.typeAssert (.iface 157 v) xT 152 true).run Tryd.prog w = .ok (.tuple #[.nilIface, .bool false]) w := run_typeAssert_lacksB Tryd.underlying152 (by kernel_rfl) (by kernel_rfl) v xT w
theorem Tryd.noIsW (v : Value) (xT : TypeId) (w : World) : (Instr.typeAssert (.iface 74 v) xT 154 true).run Tryd.prog w = .ok (.tuple #[.nilIface, .bool false]) w := run_typeAssert_lacksB Tryd.underlying154 (by kernel_rfl) (by kernel_rfl) v xT w
theorem Tryd.hasUnwrapW (v : Value) (xT : TypeId) (w : World) : (Instr.typeAssert (.iface 74 v) xT 150 true).run Tryd.prog w = .ok (.tuple #[.iface 74 v, .bool true]) w := run_typeAssert_hasB Tryd.underlying150 (by kernel_rfl) v xT w
theorem Tryd.methodUnwrap (v : Value) (w : World) : (Go.method 290 74 v "Unwrap").run Tryd.prog w = .ok (128, v) w := by kernel_rfl

/-- errors.Is(x, x), x of errors.New's make. -/
theorem is_same (a : Addr) (w : World) :
    Calls Tryd.prog 76 #[.iface 157 (.pointer (some a)), .iface 157 (.pointer (some a))] w fun e w' => e = .returned (.bool true) ∧ w' = w := by
  obtain ⟨i, hi, hcmp⟩ := Option.map_eq_some_iff.1 Tryd.isComp
  obtain ⟨j, hj, hjs⟩ := Option.map_eq_some_iff.1 Tryd.isSize
  have h8 := @run_callFunc_extern Tryd.prog 99 _ Extern.ReflectliteType.typeOf Tryd.func99 (by kernel_rfl) (by kernel_rfl) (by kernel_rfl) (by kernel_rfl)
  have h32 := @run_callFunc_extern Tryd.prog 137 _ cmpEntry Tryd.func137 (by kernel_rfl) (by kernel_rfl) (by kernel_rfl) (by kernel_rfl)
  have tT := Tryd.isTypeOf
  have cT := Tryd.isComparable
  have mR := Tryd.isMethodComparable
  have heq := run_eql_iface_ptr_same (P := Tryd.prog) w a Tryd.underlying34 Tryd.underlying157 hi hcmp hj
  go_enter Tryd.func76, Tryd.ntmps76
  go_wp2
  refine wp_loop_rounds 1 ?_
  rw [rounds_succ]
  go_wp2
  go_ret
  exact ⟨rfl, rfl⟩

/-- errors.Is(x, y), two of errors.New's make. -/
theorem is_other (a b : Addr) (ca cb : Array Value) (ta tb : TypeId) (w : World) (hne : a ≠ b) (ha : w.heap[a.block]? = some (.cells ca ta (0, 0))) (hb : w.heap[b.block]? = some (.cells cb tb (0, 0))) :
    Calls Tryd.prog 76 #[.iface 157 (.pointer (some a)), .iface 157 (.pointer (some b))] w fun e w' => e = .returned (.bool false) ∧ w' = w := by
  obtain ⟨i, hi, hcmp⟩ := Option.map_eq_some_iff.1 Tryd.isComp
  obtain ⟨j, hj, hjs⟩ := Option.map_eq_some_iff.1 Tryd.isSize
  have h8 := @run_callFunc_extern Tryd.prog 99 _ Extern.ReflectliteType.typeOf Tryd.func99 (by kernel_rfl) (by kernel_rfl) (by kernel_rfl) (by kernel_rfl)
  have h32 := @run_callFunc_extern Tryd.prog 137 _ cmpEntry Tryd.func137 (by kernel_rfl) (by kernel_rfl) (by kernel_rfl) (by kernel_rfl)
  have tT := Tryd.isTypeOf
  have cT := Tryd.isComparable
  have mR := Tryd.isMethodComparable
  have nE := Tryd.noIsE
  have uE := Tryd.noUnwrapE
  have vE := Tryd.noUnwrapsE
  have heq := run_eql_iface_ptr_other (P := Tryd.prog) w Tryd.underlying34 Tryd.underlying157 hi hcmp hj (by rw [hjs]; decide) hne ha hb
  go_enter Tryd.func76, Tryd.ntmps76
  go_wp2
  refine wp_loop_rounds 1 ?_
  rw [rounds_succ]
  go_wp2
  go_ret
  exact ⟨rfl, rfl⟩

/-- errors.Is(e, x), e an api.Fault over x itself. -/
theorem is_fault_same (pb : Nat) (b : Addr) (w : World) (h1 : w.cell? ⟨pb, 1, none⟩ = some (.iface 157 (.pointer (some b)))) :
    Calls Tryd.prog 76 #[.iface 74 (.pointer (some ⟨pb, 0, none⟩)), .iface 157 (.pointer (some b))] w fun e w' => e = .returned (.bool true) ∧ w' = w := by
  obtain ⟨i, hi, hcmp⟩ := Option.map_eq_some_iff.1 Tryd.isComp
  obtain ⟨j, hj, hjs⟩ := Option.map_eq_some_iff.1 Tryd.isSize
  have h8 := @run_callFunc_extern Tryd.prog 99 _ Extern.ReflectliteType.typeOf Tryd.func99 (by kernel_rfl) (by kernel_rfl) (by kernel_rfl) (by kernel_rfl)
  have h32 := @run_callFunc_extern Tryd.prog 137 _ cmpEntry Tryd.func137 (by kernel_rfl) (by kernel_rfl) (by kernel_rfl) (by kernel_rfl)
  have tT := Tryd.isTypeOf
  have cT := Tryd.isComparable
  have mR := Tryd.isMethodComparable
  have nW := Tryd.noIsW
  have uW := Tryd.hasUnwrapW
  have mU := Tryd.methodUnwrap
  have heq := run_eql_iface_ptr_same (P := Tryd.prog) w b Tryd.underlying34 Tryd.underlying157 hi hcmp hj
  have hty := run_eql_iface_types (P := Tryd.prog) 74 157 (.pointer (some ⟨pb, 0, none⟩)) (.pointer (some b)) Tryd.underlying34 (by decide) w
  go_enter Tryd.func76, Tryd.ntmps76
  go_wp2
  refine wp_loop_rounds 2 ?_
  rw [rounds_succ]
  go_wp2
  rw [rounds_succ]
  go_wp2
  go_ret
  exact ⟨rfl, rfl⟩

/-- errors.Is(e, x), e an api.Fault over another one. -/
theorem is_fault_other (pb : Nat) (b a : Addr) (ca cb : Array Value) (ta tb : TypeId) (w : World) (h1 : w.cell? ⟨pb, 1, none⟩ = some (.iface 157 (.pointer (some a)))) (hne : a ≠ b) (ha : w.heap[a.block]? = some (.cells ca ta (0, 0))) (hb : w.heap[b.block]? = some (.cells cb tb (0, 0))) :
    Calls Tryd.prog 76 #[.iface 74 (.pointer (some ⟨pb, 0, none⟩)), .iface 157 (.pointer (some b))] w fun e w' => e = .returned (.bool false) ∧ w' = w := by
  obtain ⟨i, hi, hcmp⟩ := Option.map_eq_some_iff.1 Tryd.isComp
  obtain ⟨j, hj, hjs⟩ := Option.map_eq_some_iff.1 Tryd.isSize
  have h8 := @run_callFunc_extern Tryd.prog 99 _ Extern.ReflectliteType.typeOf Tryd.func99 (by kernel_rfl) (by kernel_rfl) (by kernel_rfl) (by kernel_rfl)
  have h32 := @run_callFunc_extern Tryd.prog 137 _ cmpEntry Tryd.func137 (by kernel_rfl) (by kernel_rfl) (by kernel_rfl) (by kernel_rfl)
  have tT := Tryd.isTypeOf
  have cT := Tryd.isComparable
  have mR := Tryd.isMethodComparable
  have nE := Tryd.noIsE
  have uE := Tryd.noUnwrapE
  have vE := Tryd.noUnwrapsE
  have nW := Tryd.noIsW
  have uW := Tryd.hasUnwrapW
  have mU := Tryd.methodUnwrap
  have heq := run_eql_iface_ptr_other (P := Tryd.prog) w Tryd.underlying34 Tryd.underlying157 hi hcmp hj (by rw [hjs]; decide) hne ha hb
  have hty := run_eql_iface_types (P := Tryd.prog) 74 157 (.pointer (some ⟨pb, 0, none⟩)) (.pointer (some b)) Tryd.underlying34 (by decide) w
  go_enter Tryd.func76, Tryd.ntmps76
  go_wp2
  refine wp_loop_rounds 2 ?_
  rw [rounds_succ]
  go_wp2
  rw [rounds_succ]
  go_wp2
  go_ret
  exact ⟨rfl, rfl⟩
end Go.Proofs.YtepnfioldbhffabDoor

/- errors.As at a target of type **api.Fault, by its contracts: after the guide's worked text for errors.As. -/
namespace Go.Proofs.YtepnfioldbhffabDoor
open Go.RowKit Go.Extern.Stop Go.Stop Go.Extern

theorem Tryd.valueOfPP (t : Addr) (w : World) : (ReflectliteValue.unpack (.iface 112 (.pointer (some t)))).run Tryd.prog w
    = .ok (.agg #[.pointer (some ⟨10, 112, none⟩), .pointer (some ⟨w.heap.size, 0, none⟩), .int .u64 150]) (w.alloc (.cells #[.pointer (some t)] 112)) := by kernel_rfl
theorem Tryd.typePP (a : Addr) (w : World) : (ReflectliteValue.methodAny (ReflectliteValue.valueError "reflectlite.Value.Type" 0) (fun t _ _ _ => ReflectliteType.toType t) #[.agg #[.pointer (some ⟨10, 112, none⟩), .pointer (some a), .int .u64 150]]).run Tryd.prog w
    = .ok (.iface 143 (.agg #[.pointer (some ⟨10, 112, none⟩)])) w := by kernel_rfl
theorem Tryd.methodKind (h : Value) (w : World) : (Go.method 290 143 (.agg #[h]) "Kind").run Tryd.prog w = .ok (124, h) w := by kernel_rfl
theorem Tryd.kindPP (w : World) : ((ReflectliteType.abiMethod fun t => (fun a : Nat => Value.int IntKind.u8 (a : Int)) <$> Rtype.kind t) #[.pointer (some ⟨10, 112, none⟩)]).run Tryd.prog w = .ok (.int .u8 22) w := by kernel_rfl
theorem Tryd.kindP (w : World) : ((ReflectliteType.abiMethod fun t => (fun a : Nat => Value.int IntKind.u8 (a : Int)) <$> Rtype.kind t) #[.pointer (some ⟨10, 74, none⟩)]).run Tryd.prog w = .ok (.int .u8 22) w := by kernel_rfl
theorem rlm (z : Sem Value) (f : TypeId → Addr → Nat → Nat → Sem Value) (v : Value) :
    ReflectliteValue.method z f #[v] = (do match ← ReflectliteValue.parts v with | none => z | some (t, a, fl) => f t a fl (fl % 32)) := rfl
theorem Tryd.partsPP (a : Addr) (w : World) : (ReflectliteValue.parts (.agg #[.pointer (some ⟨10, 112, none⟩), .pointer (some a), .int .u64 150])).run Tryd.prog w = .ok (some (112, a, 150)) w := by kernel_rfl
theorem Tryd.isNilPP (a p : Addr) (W : World) (ha : W.cell? a = some (.pointer (some p))) :
    (ReflectliteValue.method (ReflectliteValue.valueError "reflectlite.Value.IsNil" 0) ReflectliteValue.isNil #[.agg #[.pointer (some ⟨10, 112, none⟩), .pointer (some a), .int .u64 150]]).run Tryd.prog W = .ok (.bool false) W := by
  rw [rlm]
  simp only [Sem.run_bind, Tryd.partsPP, Result.andThen]
  simp [ReflectliteValue.isNil, loadVar, isAgg, underlying, Tryd.underlying112, ha, Result.andThen]
theorem Tryd.methodElem (h : Value) (w : World) : (Go.method 290 143 (.agg #[h]) "Elem").run Tryd.prog w = .ok (138, .agg #[h]) w := by kernel_rfl
theorem Tryd.methodImplements (h : Value) (w : World) : (Go.method 290 143 (.agg #[h]) "Implements").run Tryd.prog w = .ok (139, .agg #[h]) w := by kernel_rfl
theorem Tryd.methodAssignableTo (h : Value) (w : World) : (Go.method 290 143 (.agg #[h]) "AssignableTo").run Tryd.prog w = .ok (136, .agg #[h]) w := by kernel_rfl
theorem Tryd.elemPP (w : World) : (ReflectliteType.method ReflectliteType.elem #[.agg #[.pointer (some ⟨10, 112, none⟩)]]).run Tryd.prog w = .ok (.iface 143 (.agg #[.pointer (some ⟨10, 74, none⟩)])) w := by kernel_rfl
theorem Tryd.implementsP (w : World) : (ReflectliteType.relation "Implements" ReflectliteType.implements_ #[.agg #[.pointer (some ⟨10, 74, none⟩)], .iface 143 (.agg #[.pointer (some ⟨10, 34, none⟩)])]).run Tryd.prog w = .ok (.bool true) w := by kernel_rfl
theorem Tryd.typeOfP (v : Value) (w : World) : (ReflectliteType.typeOf #[.iface 74 v]).run Tryd.prog w = .ok (.iface 143 (.agg #[.pointer (some ⟨10, 74, none⟩)])) w := by kernel_rfl
theorem Tryd.assignableP (w : World) : (ReflectliteType.relation "AssignableTo" ReflectliteType.assignableTo #[.agg #[.pointer (some ⟨10, 74, none⟩)], .iface 143 (.agg #[.pointer (some ⟨10, 74, none⟩)])]).run Tryd.prog w = .ok (.bool true) w := by kernel_rfl
theorem Tryd.assignableE (w : World) : (ReflectliteType.relation "AssignableTo" ReflectliteType.assignableTo #[.agg #[.pointer (some ⟨10, 157, none⟩)], .iface 143 (.agg #[.pointer (some ⟨10, 74, none⟩)])]).run Tryd.prog w = .ok (.bool false) w := by kernel_rfl
theorem Tryd.valueOfP (e : Addr) (w : World) : (ReflectliteValue.unpack (.iface 74 (.pointer (some e)))).run Tryd.prog w
    = .ok (.agg #[.pointer (some ⟨10, 74, none⟩), .pointer (some ⟨w.heap.size, 0, none⟩), .int .u64 150]) (w.alloc (.cells #[.pointer (some e)] 74)) := by kernel_rfl
theorem Tryd.elemOfPP (w : World) : (Rtype.elem? 112).run Tryd.prog w = .ok (some 74) w := by kernel_rfl
theorem Tryd.mkP (p : Addr) (w : World) : (ReflectliteValue.mk 74 p ReflectliteValue.flagAddr).run Tryd.prog w = .ok (.agg #[.pointer (some ⟨10, 74, none⟩), .pointer (some p), .int .u64 406]) w := by kernel_rfl
theorem Tryd.elemVPP (a p : Addr) (W : World) (ha : W.cell? a = some (.pointer (some p))) :
    (ReflectliteValue.method (ReflectliteValue.valueError "reflectlite.Value.Elem" 0) ReflectliteValue.elem #[.agg #[.pointer (some ⟨10, 112, none⟩), .pointer (some a), .int .u64 150]]).run Tryd.prog W
      = .ok (.agg #[.pointer (some ⟨10, 74, none⟩), .pointer (some p), .int .u64 406]) W := by
  rw [rlm]
  simp only [Sem.run_bind, Tryd.partsPP, Result.andThen]
  simp [ReflectliteValue.elem, loadVar, isAgg, underlying, Tryd.underlying112, ha, Result.andThen, Tryd.elemOfPP, Tryd.mkP]
theorem Tryd.partsPa (a : Addr) (w : World) : (ReflectliteValue.parts (.agg #[.pointer (some ⟨10, 74, none⟩), .pointer (some a), .int .u64 406])).run Tryd.prog w = .ok (some (74, a, 406)) w := by kernel_rfl
theorem Tryd.partsP (a : Addr) (w : World) : (ReflectliteValue.parts (.agg #[.pointer (some ⟨10, 74, none⟩), .pointer (some a), .int .u64 150])).run Tryd.prog w = .ok (some (74, a, 150)) w := by kernel_rfl
theorem Tryd.directP (w : World) : (Rtype.directlyAssignable 74 74).run Tryd.prog w = .ok true w := by kernel_rfl
/-- (Value).Set: the variable at ta gets what the own variable b of the Value holds. -/
theorem Tryd.setP (ta b e : Addr) (old : Value) (W : World) (hb : W.cell? b = some (.pointer (some e))) (ht : W.cell? ta = some old) (hf : W.frozen? ta = false) :
    (ReflectliteValue.set #[.agg #[.pointer (some ⟨10, 74, none⟩), .pointer (some ta), .int .u64 406], .agg #[.pointer (some ⟨10, 74, none⟩), .pointer (some b), .int .u64 150]]).run Tryd.prog W
      = .ok (.tuple #[]) (W.setCell ta (.pointer (some e))) := by
  change Sem.run Tryd.prog (ReflectliteValue.parts (.agg #[.pointer (some ⟨10, 74, none⟩), .pointer (some ta), .int .u64 406]) >>= fun _ => ReflectliteValue.parts (.agg #[.pointer (some ⟨10, 74, none⟩), .pointer (some b), .int .u64 150]) >>= _) W = _
  simp only [Sem.run_bind, Tryd.partsPa, Tryd.partsP, Result.andThen]
  simp [ReflectliteValue.flagAddr, loadVar, isAgg, underlying, Tryd.underlying74, hb, Result.andThen, Tryd.directP, storeVar, Value.cells, storeCells, Addr.add]
  rw [run_store Tryd.prog W ta _ _ (by rfl)]
  simp [ht, hf]

set_option maxHeartbeats 4000000 in
/-- errors.As(e, &f), e an api.Fault: true, f is e. -/
theorem as_hit (e t : Addr) (old : Value) (w : World) (hg : w.cell? ⟨9, 0, none⟩ = some (.iface 143 (.agg #[.pointer (some ⟨10, 34, none⟩)]))) (ht0 : w.cell? t = some old) (hf0 : w.frozen? t = false) :
    Calls Tryd.prog 75 #[.iface 74 (.pointer (some e)), .iface 112 (.pointer (some t))] w fun ev w' => ev = .returned (.bool true) ∧ w' = ((((w.alloc (.cells #[.pointer (some t)] 112)).alloc (.cells #[.pointer (some ⟨10, 112, none⟩), .pointer (some ⟨w.heap.size, 0, none⟩), .int .u64 150] 130)).alloc (.cells #[.pointer (some ⟨10, 112, none⟩), .pointer (some ⟨w.heap.size, 0, none⟩), .int .u64 150] 130)).alloc (.cells #[.pointer (some e)] 74)).setCell t (.pointer (some e)) := by
  have h6 := @run_callFunc_extern Tryd.prog 95 _ (fun args => ReflectliteValue.unpack (args.getD 0 (.tuple #[]))) Tryd.func95 (by kernel_rfl) (by kernel_rfl) (by kernel_rfl) (by kernel_rfl)
  have h7 := @run_callFunc_extern Tryd.prog 96 _ (ReflectliteValue.methodAny (ReflectliteValue.valueError "reflectlite.Value.Type" 0) (fun t _ _ _ => ReflectliteType.toType t)) Tryd.func96 (by kernel_rfl) (by kernel_rfl) (by kernel_rfl) (by kernel_rfl)
  have h8 := @run_callFunc_extern Tryd.prog 97 _ (ReflectliteValue.method (ReflectliteValue.valueError "reflectlite.Value.IsNil" 0) ReflectliteValue.isNil) Tryd.func97 (by kernel_rfl) (by kernel_rfl) (by kernel_rfl) (by kernel_rfl)
  have h27 := @run_callFunc_extern Tryd.prog 124 _ (ReflectliteType.abiMethod fun t => do pure (.int .u8 (← Rtype.kind t))) Tryd.func124 (by kernel_rfl) (by kernel_rfl) (by kernel_rfl) (by kernel_rfl)
  have h37 := @run_callFunc_extern Tryd.prog 138 _ (ReflectliteType.method ReflectliteType.elem) Tryd.func138 (by kernel_rfl) (by kernel_rfl) (by kernel_rfl) (by kernel_rfl)
  have h38 := @run_callFunc_extern Tryd.prog 139 _ (ReflectliteType.relation "Implements" ReflectliteType.implements_) Tryd.func139 (by kernel_rfl) (by kernel_rfl) (by kernel_rfl) (by kernel_rfl)
  have h10 := @run_callFunc_extern Tryd.prog 99 _ ReflectliteType.typeOf Tryd.func99 (by kernel_rfl) (by kernel_rfl) (by kernel_rfl) (by kernel_rfl)
  have h35 := @run_callFunc_extern Tryd.prog 136 _ (ReflectliteType.relation "AssignableTo" ReflectliteType.assignableTo) Tryd.func136 (by kernel_rfl) (by kernel_rfl) (by kernel_rfl) (by kernel_rfl)
  have h11 := @run_callFunc_extern Tryd.prog 108 _ (ReflectliteValue.method (ReflectliteValue.valueError "reflectlite.Value.Elem" 0) ReflectliteValue.elem) Tryd.func108 (by kernel_rfl) (by kernel_rfl) (by kernel_rfl) (by kernel_rfl)
  have h12 := @run_callFunc_extern Tryd.prog 109 _ ReflectliteValue.set Tryd.func109 (by kernel_rfl) (by kernel_rfl) (by kernel_rfl) (by kernel_rfl)
  have tO := Tryd.typeOfP
  have mA := Tryd.methodAssignableTo
  have a25 := Tryd.assignableP
  have v25 := Tryd.valueOfP
  have f6 := Tryd.valueOfPP
  have f7 := Tryd.typePP
  have mK := Tryd.methodKind
  have mE := Tryd.methodElem
  have mI := Tryd.methodImplements
  have k27 := Tryd.kindPP
  have k25 := Tryd.kindP
  have e27 := Tryd.elemPP
  have i25 := Tryd.implementsP
  have n8 := Tryd.isNilPP ⟨w.heap.size, 0, none⟩ t ((w.alloc (.cells #[.pointer (some t)] 112)).alloc (.cells #[.pointer (some ⟨10, 112, none⟩), .pointer (some ⟨w.heap.size, 0, none⟩), .int .u64 150] 130)) (by simp)
  have hlt : 9 < w.heap.size := by
    rcases Nat.lt_or_ge 9 w.heap.size with h | h
    · exact h
    · simp [World.cell?, Array.getElem?_eq_none h] at hg
  have hg2 : ((w.alloc (.cells #[.pointer (some t)] 112)).alloc (.cells #[.pointer (some ⟨10, 112, none⟩), .pointer (some ⟨w.heap.size, 0, none⟩), .int .u64 150] 130)).cell? ⟨9, 0, none⟩ = some (.iface 143 (.agg #[.pointer (some ⟨10, 34, none⟩)])) := by
    rw [World.cell?_alloc_lt _ _ ⟨9, 0, none⟩ (Nat.lt_of_lt_of_le hlt (by simp)), World.cell?_alloc_lt _ _ ⟨9, 0, none⟩ hlt]; exact hg
  have htl : t.block < w.heap.size := by
    rcases Nat.lt_or_ge t.block w.heap.size with h | h
    · exact h
    · simp [World.cell?, Array.getElem?_eq_none h] at ht0
  have el := Tryd.elemVPP ⟨w.heap.size, 0, none⟩ t (((w.alloc (.cells #[.pointer (some t)] 112)).alloc (.cells #[.pointer (some ⟨10, 112, none⟩), .pointer (some ⟨w.heap.size, 0, none⟩), .int .u64 150] 130)).alloc (.cells #[.pointer (some ⟨10, 112, none⟩), .pointer (some ⟨w.heap.size, 0, none⟩), .int .u64 150] 130)) (by rw [World.cell?_alloc_lt _ _ ⟨w.heap.size, 0, none⟩ (by simp; omega)]; simp)
  have st := Tryd.setP t ⟨w.heap.size + 1 + 1 + 1, 0, none⟩ e old ((((w.alloc (.cells #[.pointer (some t)] 112)).alloc (.cells #[.pointer (some ⟨10, 112, none⟩), .pointer (some ⟨w.heap.size, 0, none⟩), .int .u64 150] 130)).alloc (.cells #[.pointer (some ⟨10, 112, none⟩), .pointer (some ⟨w.heap.size, 0, none⟩), .int .u64 150] 130)).alloc (.cells #[.pointer (some e)] 74))
    (by rw [World.cell?_alloc_at _ _ _ _ (by simp)]; rfl)
    (by rw [World.cell?_alloc_lt _ _ t (by simp; omega), World.cell?_alloc_lt _ _ t (by simp; omega), World.cell?_alloc_lt _ _ t (by simp; omega), World.cell?_alloc_lt _ _ t htl]; exact ht0)
    (by rw [World.frozen?_alloc_old _ _ t (by simp; omega), World.frozen?_alloc_old _ _ t (by simp; omega), World.frozen?_alloc_old _ _ t (by simp; omega), World.frozen?_alloc_old _ _ t (Nat.ne_of_lt htl)]; exact hf0)
  go_enter Tryd.func75, Tryd.ntmps75
  go_wp2
  refine wp_loop_rounds 1 ?_
  rw [rounds_succ]
  go_wp2
  go_ret
  exact ⟨rfl, rfl⟩

set_option maxHeartbeats 4000000 in
/-- errors.As(e, &f), e of errors.New's make: false. -/
theorem as_miss (e t : Addr) (w : World) (hg : w.cell? ⟨9, 0, none⟩ = some (.iface 143 (.agg #[.pointer (some ⟨10, 34, none⟩)]))) :
    Calls Tryd.prog 75 #[.iface 157 (.pointer (some e)), .iface 112 (.pointer (some t))] w fun ev w' => ev = .returned (.bool false) ∧ w' = (((w.alloc (.cells #[.pointer (some t)] 112)).alloc (.cells #[.pointer (some ⟨10, 112, none⟩), .pointer (some ⟨w.heap.size, 0, none⟩), .int .u64 150] 130)).alloc (.cells #[.pointer (some ⟨10, 112, none⟩), .pointer (some ⟨w.heap.size, 0, none⟩), .int .u64 150] 130)) := by
  have h6 := @run_callFunc_extern Tryd.prog 95 _ (fun args => ReflectliteValue.unpack (args.getD 0 (.tuple #[]))) Tryd.func95 (by kernel_rfl) (by kernel_rfl) (by kernel_rfl) (by kernel_rfl)
  have h7 := @run_callFunc_extern Tryd.prog 96 _ (ReflectliteValue.methodAny (ReflectliteValue.valueError "reflectlite.Value.Type" 0) (fun t _ _ _ => ReflectliteType.toType t)) Tryd.func96 (by kernel_rfl) (by kernel_rfl) (by kernel_rfl) (by kernel_rfl)
  have h8 := @run_callFunc_extern Tryd.prog 97 _ (ReflectliteValue.method (ReflectliteValue.valueError "reflectlite.Value.IsNil" 0) ReflectliteValue.isNil) Tryd.func97 (by kernel_rfl) (by kernel_rfl) (by kernel_rfl) (by kernel_rfl)
  have h27 := @run_callFunc_extern Tryd.prog 124 _ (ReflectliteType.abiMethod fun t => do pure (.int .u8 (← Rtype.kind t))) Tryd.func124 (by kernel_rfl) (by kernel_rfl) (by kernel_rfl) (by kernel_rfl)
  have h37 := @run_callFunc_extern Tryd.prog 138 _ (ReflectliteType.method ReflectliteType.elem) Tryd.func138 (by kernel_rfl) (by kernel_rfl) (by kernel_rfl) (by kernel_rfl)
  have h38 := @run_callFunc_extern Tryd.prog 139 _ (ReflectliteType.relation "Implements" ReflectliteType.implements_) Tryd.func139 (by kernel_rfl) (by kernel_rfl) (by kernel_rfl) (by kernel_rfl)
  have h10 := @run_callFunc_extern Tryd.prog 99 _ ReflectliteType.typeOf Tryd.func99 (by kernel_rfl) (by kernel_rfl) (by kernel_rfl) (by kernel_rfl)
  have h35 := @run_callFunc_extern Tryd.prog 136 _ (ReflectliteType.relation "AssignableTo" ReflectliteType.assignableTo) Tryd.func136 (by kernel_rfl) (by kernel_rfl) (by kernel_rfl) (by kernel_rfl)
  have tO := Tryd.isTypeOf
  have mA := Tryd.methodAssignableTo
  have a25 := Tryd.assignableE
  have f6 := Tryd.valueOfPP
  have f7 := Tryd.typePP
  have mK := Tryd.methodKind
  have mE := Tryd.methodElem
  have mI := Tryd.methodImplements
  have k27 := Tryd.kindPP
  have k25 := Tryd.kindP
  have e27 := Tryd.elemPP
  have i25 := Tryd.implementsP
  have nE := Tryd.noAsE
  have uE := Tryd.noUnwrapE
  have vE := Tryd.noUnwrapsE
  have n8 := Tryd.isNilPP ⟨w.heap.size, 0, none⟩ t ((w.alloc (.cells #[.pointer (some t)] 112)).alloc (.cells #[.pointer (some ⟨10, 112, none⟩), .pointer (some ⟨w.heap.size, 0, none⟩), .int .u64 150] 130)) (by simp)
  have hlt : 9 < w.heap.size := by
    rcases Nat.lt_or_ge 9 w.heap.size with h | h
    · exact h
    · simp [World.cell?, Array.getElem?_eq_none h] at hg
  have hg2 : ((w.alloc (.cells #[.pointer (some t)] 112)).alloc (.cells #[.pointer (some ⟨10, 112, none⟩), .pointer (some ⟨w.heap.size, 0, none⟩), .int .u64 150] 130)).cell? ⟨9, 0, none⟩ = some (.iface 143 (.agg #[.pointer (some ⟨10, 34, none⟩)])) := by
    rw [World.cell?_alloc_lt _ _ ⟨9, 0, none⟩ (Nat.lt_of_lt_of_le hlt (by simp)), World.cell?_alloc_lt _ _ ⟨9, 0, none⟩ hlt]; exact hg
  go_enter Tryd.func75, Tryd.ntmps75
  go_wp2
  refine wp_loop_rounds 1 ?_
  rw [rounds_succ]
  go_wp2
  go_ret
  exact ⟨rfl, rfl⟩
end Go.Proofs.YtepnfioldbhffabDoor

/- package plain's Code, by its contracts. -/
namespace Go.Proofs.YtepnfioldbhffabDoor
open Go.RowKit Go.Extern.Stop Go.Stop Go.Extern

/-- The nine errors of package api, and package errors' own type. -/
structure Errs9 (w : World) (ad : Nat → Addr) : Prop where
  typ : w.cell? ⟨9, 0, none⟩ = some (.iface 143 (.agg #[.pointer (some ⟨10, 34, none⟩)]))
  c0 : w.cell? ⟨1, 0, none⟩ = some (.iface 157 (.pointer (some (ad 0))))
  c1 : w.cell? ⟨2, 0, none⟩ = some (.iface 157 (.pointer (some (ad 1))))
  c2 : w.cell? ⟨3, 0, none⟩ = some (.iface 157 (.pointer (some (ad 2))))
  c3 : w.cell? ⟨0, 0, none⟩ = some (.iface 157 (.pointer (some (ad 3))))
  c4 : w.cell? ⟨4, 0, none⟩ = some (.iface 157 (.pointer (some (ad 4))))
  c5 : w.cell? ⟨5, 0, none⟩ = some (.iface 157 (.pointer (some (ad 5))))
  c6 : w.cell? ⟨6, 0, none⟩ = some (.iface 157 (.pointer (some (ad 6))))
  c7 : w.cell? ⟨7, 0, none⟩ = some (.iface 157 (.pointer (some (ad 7))))
  c8 : w.cell? ⟨8, 0, none⟩ = some (.iface 157 (.pointer (some (ad 8))))
  ne : ∀ i j, i < 9 → j < 9 → i ≠ j → ad i ≠ ad j
  blk : ∀ i, i < 9 → ∃ c t, w.heap[(ad i).block]? = some (.cells c t (0, 0))

theorem block_later {w w' : World} {b : Nat} {o : Obj} (hb : Below w.heap.size w w') (h : w.heap[b]? = some o) : w'.heap[b]? = some o := by
  rw [hb.block b ?_]; exact h
  rcases Nat.lt_or_ge b w.heap.size with h' | h'
  · exact h'
  · simp [Array.getElem?_eq_none h'] at h
theorem Errs9.below {w w' : World} {ad : Nat → Addr} (h : Errs9 w ad) (hb : Below w.heap.size w w') : Errs9 w' ad :=
  ⟨cell_later hb h.typ, cell_later hb h.c0, cell_later hb h.c1, cell_later hb h.c2, cell_later hb h.c3, cell_later hb h.c4, cell_later hb h.c5, cell_later hb h.c6, cell_later hb h.c7, cell_later hb h.c8, h.ne, fun i hi => by
    obtain ⟨c, t, e⟩ := h.blk i hi; exact ⟨c, t, block_later hb e⟩⟩

/-- The row that Code makes of the nine. -/
abbrev nine (ad : Nat → Addr) : Array Value := #[.iface 157 (.pointer (some (ad 0))), .iface 157 (.pointer (some (ad 1))), .iface 157 (.pointer (some (ad 2))), .iface 157 (.pointer (some (ad 3))), .iface 157 (.pointer (some (ad 4))), .iface 157 (.pointer (some (ad 5))), .iface 157 (.pointer (some (ad 6))), .iface 157 (.pointer (some (ad 7))), .iface 157 (.pointer (some (ad 8)))]
theorem nine_at (ad : Nat → Addr) (w : World) (k : Nat) (hk : k < 9) : (w.alloc (.cells (nine ad) 34)).cell? ⟨w.heap.size, k, none⟩ = some (.iface 157 (.pointer (some (ad k)))) := by
  rw [World.cell?_alloc_at _ _ _ _ rfl]
  match k, hk with
  | 0, _ => rfl
  | 1, _ => rfl
  | 2, _ => rfl
  | 3, _ => rfl
  | 4, _ => rfl
  | 5, _ => rfl
  | 6, _ => rfl
  | 7, _ => rfl
  | 8, _ => rfl
  | k + 9, h => omega

theorem set_at (w : World) (o1 o2 o3 o4 : Obj) (v : Value) : (((((w.alloc (.cells #[.pointer none] 74)).alloc o1).alloc o2).alloc o3).alloc o4 |>.setCell ⟨w.heap.size, 0, none⟩ v).cell? ⟨w.heap.size, 0, none⟩ = some v :=
  World.cell?_setCell_same _ _ _ (u := .pointer none) (by
    rw [World.cell?_alloc_lt _ _ ⟨w.heap.size, 0, none⟩ (by simp; omega), World.cell?_alloc_lt _ _ ⟨w.heap.size, 0, none⟩ (by simp; omega), World.cell?_alloc_lt _ _ ⟨w.heap.size, 0, none⟩ (by simp; omega), World.cell?_alloc_lt _ _ ⟨w.heap.size, 0, none⟩ (by simp), World.cell?_alloc_at _ _ _ _ rfl]; rfl)
theorem code_nil (w : World) : Calls Tryd.prog 51 #[.nilIface] w fun e w' => e = .returned (.tuple #[.int .i64 0, .int .i64 (-1)]) ∧ w' = w := by
  go_enter Tryd.func51, Tryd.ntmps51
  go_wp2
  go_ret2
  exact ⟨rfl, rfl⟩

set_option maxHeartbeats 1000000 in
theorem code_sent (ad : Nat → Addr) (k : Nat) (hk : k < 9) (w : World) (he : Errs9 w ad) :
    Calls Tryd.prog 51 #[.iface 157 (.pointer (some (ad k)))] w fun e w' => e = .returned (.tuple #[.int .i64 (k + 1), .int .i64 (-1)]) ∧ Below w.heap.size w w' := by
  have hb0 : Below w.heap.size w (w.alloc (.cells #[.pointer none] 74)) := (Below.refl _ _).alloc (Nat.le_refl _) _
  have HE : Hid (Errs9 w ad) := he
  have HB0 : Hid (Below w.heap.size w (w.alloc (.cells #[.pointer none] 74))) := hb0
  clear he hb0
  go_enter Tryd.func51, Tryd.ntmps51
  go_wp2_with fail
  refine (as_miss (ad k) _ _ (HE.out.below HB0.out).typ).mono ?_
  rintro e w1 ⟨rfl, hw1⟩
  have hb1 : Below w.heap.size w w1 := by
    rw [hw1]
    exact ((HB0.out.alloc (by simp) _).alloc (by simp; omega) _).alloc (by simp; omega) _
  have HB1 : Hid (Below w.heap.size w w1) := hb1
  have he1 := HE.out.below hb1
  have h0 := he1.c0
  have h1 := he1.c1
  have h2 := he1.c2
  have h3 := he1.c3
  have h4 := he1.c4
  have h5 := he1.c5
  have h6 := he1.c6
  have h7 := he1.c7
  have h8 := he1.c8
  have HE1 : Hid (Errs9 w1 ad) := he1
  clear hw1 hb1 he1
  go_wp2_with fail
  clear h0 h1 h2 h3 h4 h5 h6 h7 h8
  have hcell := nine_at ad w1
  have hb2 : Below w.heap.size w (w1.alloc (.cells (nine ad) 34)) := HB1.out.alloc HB1.out.size _
  have he2 : Errs9 (w1.alloc (.cells (nine ad) 34)) ad := HE1.out.below ((Below.refl _ _).alloc (Nat.le_refl _) _)
  generalize w1.alloc (.cells (nine ad) 34) = W2 at *
  have HC : Hid (∀ j, j < 9 → W2.cell? ⟨w1.heap.size, j, none⟩ = some (.iface 157 (.pointer (some (ad j))))) := hcell
  have HB2 : Hid (Below w.heap.size w W2) := hb2
  have HE2 : Hid (Errs9 W2 ad) := he2
  clear hcell hb2 he2
  go_loop [3, 27] (fun s i => s = .int .i64 (-1) ∧ ∃ j : Nat, j ≤ k ∧ i = .int .i64 j) (fun _ i => 9 - (intOf i).toNat)
  case atStart => exact ⟨rfl, 0, Nat.zero_le _, rfl⟩
  case round =>
    obtain ⟨rfl, j, hj, rfl⟩ := hrel
    have hc := HC.out j (by omega)
    by_cases hjk : j < k
    · obtain ⟨ca, ta, ba⟩ := HE2.out.blk k hk
      obtain ⟨cb, tb, bb⟩ := HE2.out.blk j (by omega)
      have HI : Hid (Calls Tryd.prog 76 #[.iface 157 (.pointer (some (ad k))), .iface 157 (.pointer (some (ad j)))] W2 fun e w' => e = .returned (.bool false) ∧ w' = W2) := is_other (ad k) (ad j) ca cb ta tb W2 (HE2.out.ne k j hk (by omega) (by omega)) ba bb
      clear ba bb
      go_wp2_with (go_at_call 76; refine HI.out.mono ?_; rintro e w' ⟨rfl, rfl⟩)
      go_round
      case rel => exact ⟨rfl, j + 1, by omega, by go_num⟩
      case measure => simp [intOf]; omega
    · obtain rfl : j = k := by omega
      go_wp2_with (go_at_call 76; refine (is_same (ad j) _).mono ?_; rintro e w' ⟨rfl, rfl⟩)
      go_ret2
      exact ⟨rfl, HB2.out⟩

set_option maxHeartbeats 1000000 in
theorem code_fault (ad : Nat → Addr) (k : Nat) (hk : k < 9) (n : Int) (pb : Nat) (w : World) (he : Errs9 w ad) (hp0 : w.cell? ⟨pb, 0, none⟩ = some (.int .i64 n)) (hp1 : w.cell? ⟨pb, 1, none⟩ = some (.iface 157 (.pointer (some (ad k))))) :
    Calls Tryd.prog 51 #[.iface 74 (.pointer (some ⟨pb, 0, none⟩))] w fun e w' => e = .returned (.tuple #[.int .i64 (k + 1), .int .i64 n]) ∧ Below w.heap.size w w' := by
  have hb0 : Below w.heap.size w (w.alloc (.cells #[.pointer none] 74)) := (Below.refl _ _).alloc (Nat.le_refl _) _
  have HE : Hid (Errs9 w ad) := he
  have HB0 : Hid (Below w.heap.size w (w.alloc (.cells #[.pointer none] 74))) := hb0
  have HP0 : Hid (w.cell? ⟨pb, 0, none⟩ = some (.int .i64 n)) := hp0
  have HP1 : Hid (w.cell? ⟨pb, 1, none⟩ = some (.iface 157 (.pointer (some (ad k))))) := hp1
  clear he hb0 hp0 hp1
  go_enter Tryd.func51, Tryd.ntmps51
  go_wp2_with fail
  refine (as_hit ⟨pb, 0, none⟩ ⟨w.heap.size, 0, none⟩ (.pointer none) _ (HE.out.below HB0.out).typ (by simp) (by simp)).mono ?_
  rintro e w1 ⟨rfl, hw1⟩
  have hb1 : Below w.heap.size w w1 := by
    rw [hw1]
    exact ((((HB0.out.alloc (by simp) _).alloc (by simp; omega) _).alloc (by simp; omega) _).alloc (by simp; omega) _).setCell (Nat.le_refl _) _
  have ht1 : w1.cell? ⟨w.heap.size, 0, none⟩ = some (.pointer (some ⟨pb, 0, none⟩)) := by
    rw [hw1]
    exact set_at w _ _ _ _ _
  have HB1 : Hid (Below w.heap.size w w1) := hb1
  have he1 := HE.out.below hb1
  have hq0 : w1.cell? ⟨pb, 0, none⟩ = some (.int .i64 n) := cell_later hb1 HP0.out
  have h0 := he1.c0
  have h1 := he1.c1
  have h2 := he1.c2
  have h3 := he1.c3
  have h4 := he1.c4
  have h5 := he1.c5
  have h6 := he1.c6
  have h7 := he1.c7
  have h8 := he1.c8
  have HE1 : Hid (Errs9 w1 ad) := he1
  clear hw1 hb1 he1
  go_wp2_with fail
  clear ht1 hq0 h0 h1 h2 h3 h4 h5 h6 h7 h8
  have hcell := nine_at ad w1
  have hb2 : Below w.heap.size w (w1.alloc (.cells (nine ad) 34)) := HB1.out.alloc HB1.out.size _
  have he2 : Errs9 (w1.alloc (.cells (nine ad) 34)) ad := HE1.out.below ((Below.refl _ _).alloc (Nat.le_refl _) _)
  generalize w1.alloc (.cells (nine ad) 34) = W2 at *
  have HC : Hid (∀ j, j < 9 → W2.cell? ⟨w1.heap.size, j, none⟩ = some (.iface 157 (.pointer (some (ad j))))) := hcell
  have HB2 : Hid (Below w.heap.size w W2) := hb2
  have HP2 : Hid (W2.cell? ⟨pb, 1, none⟩ = some (.iface 157 (.pointer (some (ad k))))) := cell_later hb2 HP1.out
  have HE2 : Hid (Errs9 W2 ad) := he2
  clear hcell hb2 he2
  go_loop [3, 27] (fun s i => s = .int .i64 n ∧ ∃ j : Nat, j ≤ k ∧ i = .int .i64 j) (fun _ i => 9 - (intOf i).toNat)
  case atStart => exact ⟨rfl, 0, Nat.zero_le _, rfl⟩
  case round =>
    obtain ⟨rfl, j, hj, rfl⟩ := hrel
    have hc := HC.out j (by omega)
    by_cases hjk : j < k
    · obtain ⟨ca, ta, ba⟩ := HE2.out.blk k hk
      obtain ⟨cb, tb, bb⟩ := HE2.out.blk j (by omega)
      have HI : Hid (Calls Tryd.prog 76 #[.iface 74 (.pointer (some ⟨pb, 0, none⟩)), .iface 157 (.pointer (some (ad j)))] W2 fun e w' => e = .returned (.bool false) ∧ w' = W2) := is_fault_other pb (ad j) (ad k) ca cb ta tb W2 HP2.out (HE2.out.ne k j hk (by omega) (by omega)) ba bb
      clear ba bb
      go_wp2_with (go_at_call 76; refine HI.out.mono ?_; rintro e w' ⟨rfl, rfl⟩)
      go_round
      case rel => exact ⟨rfl, j + 1, by omega, by go_num⟩
      case measure => simp [intOf]; omega
    · obtain rfl : j = k := by omega
      go_wp2_with (go_at_call 76; refine (is_fault_same pb (ad j) _ HP2.out).mono ?_; rintro e w' ⟨rfl, rfl⟩)
      go_ret2
      exact ⟨rfl, HB2.out⟩

set_option maxHeartbeats 1000000 in
/-- An error of errors.New's make that is none of the nine. -/
theorem code_other (ad : Nat → Addr) (a : Addr) (w : World) (he : Errs9 w ad) (hne : ∀ j, j < 9 → a ≠ ad j) (hba : ∃ c t, w.heap[a.block]? = some (.cells c t (0, 0))) :
    Calls Tryd.prog 51 #[.iface 157 (.pointer (some a))] w fun e w' => e = .returned (.tuple #[.int .i64 (-1), .int .i64 (-1)]) ∧ Below w.heap.size w w' := by
  have hb0 : Below w.heap.size w (w.alloc (.cells #[.pointer none] 74)) := (Below.refl _ _).alloc (Nat.le_refl _) _
  have HE : Hid (Errs9 w ad) := he
  have HB0 : Hid (Below w.heap.size w (w.alloc (.cells #[.pointer none] 74))) := hb0
  have HN : Hid (∀ j, j < 9 → a ≠ ad j) := hne
  have HA : Hid (∃ c t, w.heap[a.block]? = some (.cells c t (0, 0))) := hba
  clear he hb0 hne hba
  go_enter Tryd.func51, Tryd.ntmps51
  go_wp2_with fail
  refine (as_miss a _ _ (HE.out.below HB0.out).typ).mono ?_
  rintro e w1 ⟨rfl, hw1⟩
  have hb1 : Below w.heap.size w w1 := by
    rw [hw1]
    exact ((HB0.out.alloc (by simp) _).alloc (by simp; omega) _).alloc (by simp; omega) _
  have HB1 : Hid (Below w.heap.size w w1) := hb1
  have he1 := HE.out.below hb1
  have h0 := he1.c0
  have h1 := he1.c1
  have h2 := he1.c2
  have h3 := he1.c3
  have h4 := he1.c4
  have h5 := he1.c5
  have h6 := he1.c6
  have h7 := he1.c7
  have h8 := he1.c8
  have HE1 : Hid (Errs9 w1 ad) := he1
  clear hw1 hb1 he1
  go_wp2_with fail
  clear h0 h1 h2 h3 h4 h5 h6 h7 h8
  have hcell := nine_at ad w1
  have hb2 : Below w.heap.size w (w1.alloc (.cells (nine ad) 34)) := HB1.out.alloc HB1.out.size _
  have he2 : Errs9 (w1.alloc (.cells (nine ad) 34)) ad := HE1.out.below ((Below.refl _ _).alloc (Nat.le_refl _) _)
  generalize w1.alloc (.cells (nine ad) 34) = W2 at *
  have HC : Hid (∀ j, j < 9 → W2.cell? ⟨w1.heap.size, j, none⟩ = some (.iface 157 (.pointer (some (ad j))))) := hcell
  have HB2 : Hid (Below w.heap.size w W2) := hb2
  have HA2 : Hid (∃ c t, W2.heap[a.block]? = some (.cells c t (0, 0))) := by obtain ⟨c, t, h⟩ := HA.out; exact ⟨c, t, block_later hb2 h⟩
  have HE2 : Hid (Errs9 W2 ad) := he2
  clear hcell hb2 he2
  go_loop [3, 27] (fun s i => s = .int .i64 (-1) ∧ ∃ j : Nat, j ≤ 9 ∧ i = .int .i64 j) (fun _ i => 9 - (intOf i).toNat)
  case atStart => exact ⟨rfl, 0, Nat.zero_le _, rfl⟩
  case round =>
    obtain ⟨rfl, j, hj, rfl⟩ := hrel
    by_cases hjk : j < 9
    · have hc := HC.out j (by omega)
      obtain ⟨ca, ta, ba⟩ := HA2.out
      obtain ⟨cb, tb, bb⟩ := HE2.out.blk j (by omega)
      have HI : Hid (Calls Tryd.prog 76 #[.iface 157 (.pointer (some a)), .iface 157 (.pointer (some (ad j)))] W2 fun e w' => e = .returned (.bool false) ∧ w' = W2) := is_other a (ad j) ca cb ta tb W2 (HN.out j hjk) ba bb
      clear ba bb
      go_wp2_with (go_at_call 76; refine HI.out.mono ?_; rintro e w' ⟨rfl, rfl⟩)
      go_round
      case rel => exact ⟨rfl, j + 1, by omega, by go_num⟩
      case measure => simp [intOf]; omega
    · go_wp2_with fail
      go_ret2
      exact ⟨rfl, HB2.out⟩
end Go.Proofs.YtepnfioldbhffabDoor

/- What plain.Code tells of an error. -/
namespace Go.Proofs.YtepnfioldbhffabDoor
open Go.RowKit

/-- From world w0 on, Code gives the number c and the place a of the error E. -/
def CodeIs (w0 : World) (E : Value) (c a : Int) : Prop :=
  ∀ w, Below w0.heap.size w0 w → Calls Tryd.prog 51 #[E] w fun e w' => e = .returned (.tuple #[.int .i64 c, .int .i64 a]) ∧ Below w.heap.size w w'
theorem CodeIs.below {w w' : World} {E : Value} {c a : Int} (h : CodeIs w E c a) (hb : Below w.heap.size w w') : CodeIs w' E c a :=
  fun _ hb' => h _ (hb.trans (hb'.mono hb.size))
theorem codeIs_nil (w : World) : CodeIs w .nilIface 0 (-1) := fun w _ => (code_nil w).mono fun _ _ h => ⟨h.1, by rw [h.2]; exact Below.refl _ _⟩
theorem codeIs_sent {w : World} {ad : Nat → Addr} (he : Errs9 w ad) (k : Nat) (hk : k < 9) : CodeIs w (.iface 157 (.pointer (some (ad k)))) (k + 1) (-1) :=
  fun w' hb => code_sent ad k hk w' (he.below hb)
theorem codeIs_fault {w : World} {ad : Nat → Addr} (he : Errs9 w ad) (k : Nat) (hk : k < 9) (n : Int) (pb : Nat) (h0 : w.cell? ⟨pb, 0, none⟩ = some (.int .i64 n)) (h1 : w.cell? ⟨pb, 1, none⟩ = some (.iface 157 (.pointer (some (ad k))))) :
    CodeIs w (.iface 74 (.pointer (some ⟨pb, 0, none⟩))) (k + 1) n :=
  fun w' hb => code_fault ad k hk n pb w' (he.below hb) (cell_later hb h0) (cell_later hb h1)
theorem codeIs_other {w : World} {ad : Nat → Addr} (he : Errs9 w ad) (a : Addr) (hne : ∀ j, j < 9 → a ≠ ad j) (hba : ∃ c t, w.heap[a.block]? = some (.cells c t (0, 0))) : CodeIs w (.iface 157 (.pointer (some a))) (-1) (-1) :=
  fun w' hb => code_other ad a w' (he.below hb) hne (by obtain ⟨c, t, h⟩ := hba; exact ⟨c, t, block_later hb h⟩)

/-- An error as it is handed back: nil, or of a known number and place. -/
structure ErrIs (w : World) (E : Value) (c p : Int) : Prop where
  code : CodeIs w E c p
  none_ : c = 0 → E = .nilIface
  some_ : c ≠ 0 → ∃ ty v, E = .iface ty v
theorem ErrIs.below {w w' : World} {E : Value} {c p : Int} (h : ErrIs w E c p) (hb : Below w.heap.size w w') : ErrIs w' E c p := ⟨h.code.below hb, h.none_, h.some_⟩
theorem errIs_nil (w : World) : ErrIs w .nilIface 0 (-1) := ⟨codeIs_nil w, fun _ => rfl, fun h => absurd rfl h⟩
theorem errIs_sent {w : World} {ad : Nat → Addr} (he : Errs9 w ad) (k : Nat) (hk : k < 9) : ErrIs w (.iface 157 (.pointer (some (ad k)))) (k + 1) (-1) := ⟨codeIs_sent he k hk, fun h => by omega, fun _ => ⟨_, _, rfl⟩⟩
end Go.Proofs.YtepnfioldbhffabDoor
