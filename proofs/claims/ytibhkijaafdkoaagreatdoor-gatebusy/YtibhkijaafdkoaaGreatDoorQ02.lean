/- Own facts, put together: no statement of its own. -/
import Derived.Test.YtibhkijaafdkoaaGreatDoorQ01
namespace Go.Proofs.YtibhkijaafdkoaaGreatDoor
open Go.RowKit Go.Extern.Stop Go.Stop Go.Extern
theorem Tryz.valueOfPP (t : Addr) (w : World) : (ReflectliteValue.unpack (.iface 135 (.pointer (some t)))).run Tryz.prog w
  = .ok (.agg #[.pointer (some ⟨10, 135, none⟩), .pointer (some ⟨w.heap.size, 0, none⟩), .int .u64 150]) (w.alloc (.cells #[.pointer (some t)] 135)) := by kernel_rfl
theorem Tryz.typePP (a : Addr) (w : World) : (ReflectliteValue.methodAny (ReflectliteValue.valueError "reflectlite.Value.Type" 0) (fun t _ _ _ => ReflectliteType.toType t) #[.agg #[.pointer (some ⟨10, 135, none⟩), .pointer (some a), .int .u64 150]]).run Tryz.prog w
  = .ok (.iface 207 (.agg #[.pointer (some ⟨10, 135, none⟩)])) w := by kernel_rfl
theorem Tryz.methodKind (h : Value) (w : World) : (Go.method 403 207 (.agg #[h]) "Kind").run Tryz.prog w = .ok (213, h) w := by kernel_rfl
theorem Tryz.kindPP (w : World) : ((ReflectliteType.abiMethod fun t => (fun a : Nat => Value.int IntKind.u8 (a : Int)) <$> Rtype.kind t) #[.pointer (some ⟨10, 135, none⟩)]).run Tryz.prog w = .ok (.int .u8 22) w := by kernel_rfl
theorem Tryz.kindP (w : World) : ((ReflectliteType.abiMethod fun t => (fun a : Nat => Value.int IntKind.u8 (a : Int)) <$> Rtype.kind t) #[.pointer (some ⟨10, 110, none⟩)]).run Tryz.prog w = .ok (.int .u8 22) w := by kernel_rfl
theorem rlm (z : Sem Value) (f : TypeId → Addr → Nat → Nat → Sem Value) (v : Value) :
  ReflectliteValue.method z f #[v] = (do match ← ReflectliteValue.parts v with | none => z | some (t, a, fl) => f t a fl (fl % 32)) := rfl
theorem Tryz.partsPP (a : Addr) (w : World) : (ReflectliteValue.parts (.agg #[.pointer (some ⟨10, 135, none⟩), .pointer (some a), .int .u64 150])).run Tryz.prog w = .ok (some (135, a, 150)) w := by kernel_rfl
theorem Tryz.isNilPP (a p : Addr) (W : World) (ha : W.cell? a = some (.pointer (some p))) :
  (ReflectliteValue.method (ReflectliteValue.valueError "reflectlite.Value.IsNil" 0) ReflectliteValue.isNil #[.agg #[.pointer (some ⟨10, 135, none⟩), .pointer (some a), .int .u64 150]]).run Tryz.prog W = .ok (.bool false) W := by
 rw [rlm]
 simp only [Sem.run_bind, Tryz.partsPP, Result.andThen]
 simp [ReflectliteValue.isNil, loadVar, isAgg, underlying, Tryz.underlying135, ha, Result.andThen]
theorem Tryz.methodElem (h : Value) (w : World) : (Go.method 403 207 (.agg #[h]) "Elem").run Tryz.prog w = .ok (228, .agg #[h]) w := by kernel_rfl
theorem Tryz.methodImplements (h : Value) (w : World) : (Go.method 403 207 (.agg #[h]) "Implements").run Tryz.prog w = .ok (229, .agg #[h]) w := by kernel_rfl
theorem Tryz.methodAssignableTo (h : Value) (w : World) : (Go.method 403 207 (.agg #[h]) "AssignableTo").run Tryz.prog w = .ok (226, .agg #[h]) w := by kernel_rfl
theorem Tryz.elemPP (w : World) : (ReflectliteType.method ReflectliteType.elem #[.agg #[.pointer (some ⟨10, 135, none⟩)]]).run Tryz.prog w = .ok (.iface 207 (.agg #[.pointer (some ⟨10, 110, none⟩)])) w := by kernel_rfl
theorem Tryz.implementsP (w : World) : (ReflectliteType.relation "Implements" ReflectliteType.implements_ #[.agg #[.pointer (some ⟨10, 110, none⟩)], .iface 207 (.agg #[.pointer (some ⟨10, 29, none⟩)])]).run Tryz.prog w = .ok (.bool true) w := by kernel_rfl
theorem Tryz.typeOfP (v : Value) (w : World) : (ReflectliteType.typeOf #[.iface 110 v]).run Tryz.prog w = .ok (.iface 207 (.agg #[.pointer (some ⟨10, 110, none⟩)])) w := by kernel_rfl
theorem Tryz.assignableP (w : World) : (ReflectliteType.relation "AssignableTo" ReflectliteType.assignableTo #[.agg #[.pointer (some ⟨10, 110, none⟩)], .iface 207 (.agg #[.pointer (some ⟨10, 110, none⟩)])]).run Tryz.prog w = .ok (.bool true) w := by kernel_rfl
theorem Tryz.assignableE (w : World) : (ReflectliteType.relation "AssignableTo" ReflectliteType.assignableTo #[.agg #[.pointer (some ⟨10, 271, none⟩)], .iface 207 (.agg #[.pointer (some ⟨10, 110, none⟩)])]).run Tryz.prog w = .ok (.bool false) w := by kernel_rfl
theorem Tryz.valueOfP (e : Addr) (w : World) : (ReflectliteValue.unpack (.iface 110 (.pointer (some e)))).run Tryz.prog w
  = .ok (.agg #[.pointer (some ⟨10, 110, none⟩), .pointer (some ⟨w.heap.size, 0, none⟩), .int .u64 150]) (w.alloc (.cells #[.pointer (some e)] 110)) := by kernel_rfl
theorem Tryz.elemOfPP (w : World) : (Rtype.elem? 135).run Tryz.prog w = .ok (some 110) w := by kernel_rfl
theorem Tryz.mkP (p : Addr) (w : World) : (ReflectliteValue.mk 110 p ReflectliteValue.flagAddr).run Tryz.prog w = .ok (.agg #[.pointer (some ⟨10, 110, none⟩), .pointer (some p), .int .u64 406]) w := by kernel_rfl
theorem Tryz.elemVPP (a p : Addr) (W : World) (ha : W.cell? a = some (.pointer (some p))) :
  (ReflectliteValue.method (ReflectliteValue.valueError "reflectlite.Value.Elem" 0) ReflectliteValue.elem #[.agg #[.pointer (some ⟨10, 135, none⟩), .pointer (some a), .int .u64 150]]).run Tryz.prog W
   = .ok (.agg #[.pointer (some ⟨10, 110, none⟩), .pointer (some p), .int .u64 406]) W := by
 rw [rlm]
 simp only [Sem.run_bind, Tryz.partsPP, Result.andThen]
 simp [ReflectliteValue.elem, loadVar, isAgg, underlying, Tryz.underlying135, ha, Result.andThen, Tryz.elemOfPP, Tryz.mkP]
theorem Tryz.partsPa (a : Addr) (w : World) : (ReflectliteValue.parts (.agg #[.pointer (some ⟨10, 110, none⟩), .pointer (some a), .int .u64 406])).run Tryz.prog w = .ok (some (110, a, 406)) w := by kernel_rfl
theorem Tryz.partsP (a : Addr) (w : World) : (ReflectliteValue.parts (.agg #[.pointer (some ⟨10, 110, none⟩), .pointer (some a), .int .u64 150])).run Tryz.prog w = .ok (some (110, a, 150)) w := by kernel_rfl
theorem Tryz.directP (w : World) : (Rtype.directlyAssignable 110 110).run Tryz.prog w = .ok true w := by kernel_rfl
theorem Tryz.setP (ta b e : Addr) (old : Value) (W : World) (hb : W.cell? b = some (.pointer (some e))) (ht : W.cell? ta = some old) (hf : W.frozen? ta = false) :
  (ReflectliteValue.set #[.agg #[.pointer (some ⟨10, 110, none⟩), .pointer (some ta), .int .u64 406], .agg #[.pointer (some ⟨10, 110, none⟩), .pointer (some b), .int .u64 150]]).run Tryz.prog W
   = .ok (.tuple #[]) (W.setCell ta (.pointer (some e))) := by
 change Sem.run Tryz.prog (ReflectliteValue.parts (.agg #[.pointer (some ⟨10, 110, none⟩), .pointer (some ta), .int .u64 406]) >>= fun _ => ReflectliteValue.parts (.agg #[.pointer (some ⟨10, 110, none⟩), .pointer (some b), .int .u64 150]) >>= _) W = _
 simp only [Sem.run_bind, Tryz.partsPa, Tryz.partsP, Result.andThen]
 simp [ReflectliteValue.flagAddr, loadVar, isAgg, underlying, Tryz.underlying110, hb, Result.andThen, Tryz.directP, storeVar, Value.cells, storeCells, Addr.add]
 rw [run_store Tryz.prog W ta _ _ (by rfl)]
 simp [ht, hf]
set_option maxHeartbeats 4000000 in
theorem as_hit (e t : Addr) (old : Value) (w : World) (hg : w.cell? ⟨9, 0, none⟩ = some (.iface 207 (.agg #[.pointer (some ⟨10, 29, none⟩)]))) (ht0 : w.cell? t = some old) (hf0 : w.frozen? t = false) :
  Calls Tryz.prog 70 #[.iface 110 (.pointer (some e)), .iface 135 (.pointer (some t))] w fun ev w' => ev = .returned (.bool true) ∧ w' = ((((w.alloc (.cells #[.pointer (some t)] 135)).alloc (.cells #[.pointer (some ⟨10, 135, none⟩), .pointer (some ⟨w.heap.size, 0, none⟩), .int .u64 150] 181)).alloc (.cells #[.pointer (some ⟨10, 135, none⟩), .pointer (some ⟨w.heap.size, 0, none⟩), .int .u64 150] 181)).alloc (.cells #[.pointer (some e)] 110)).setCell t (.pointer (some e)) := by
 have h6 := @run_callFunc_extern Tryz.prog 114 _ (fun args => ReflectliteValue.unpack (args.getD 0 (.tuple #[]))) Tryz.func114 (by kernel_rfl) (by kernel_rfl) (by kernel_rfl) (by kernel_rfl)
 have h7 := @run_callFunc_extern Tryz.prog 115 _ (ReflectliteValue.methodAny (ReflectliteValue.valueError "reflectlite.Value.Type" 0) (fun t _ _ _ => ReflectliteType.toType t)) Tryz.func115 (by kernel_rfl) (by kernel_rfl) (by kernel_rfl) (by kernel_rfl)
 have h8 := @run_callFunc_extern Tryz.prog 116 _ (ReflectliteValue.method (ReflectliteValue.valueError "reflectlite.Value.IsNil" 0) ReflectliteValue.isNil) Tryz.func116 (by kernel_rfl) (by kernel_rfl) (by kernel_rfl) (by kernel_rfl)
 have h27 := @run_callFunc_extern Tryz.prog 213 _ (ReflectliteType.abiMethod fun t => do pure (.int .u8 (← Rtype.kind t))) Tryz.func213 (by kernel_rfl) (by kernel_rfl) (by kernel_rfl) (by kernel_rfl)
 have h37 := @run_callFunc_extern Tryz.prog 228 _ (ReflectliteType.method ReflectliteType.elem) Tryz.func228 (by kernel_rfl) (by kernel_rfl) (by kernel_rfl) (by kernel_rfl)
 have h38 := @run_callFunc_extern Tryz.prog 229 _ (ReflectliteType.relation "Implements" ReflectliteType.implements_) Tryz.func229 (by kernel_rfl) (by kernel_rfl) (by kernel_rfl) (by kernel_rfl)
 have h10 := @run_callFunc_extern Tryz.prog 118 _ ReflectliteType.typeOf Tryz.func118 (by kernel_rfl) (by kernel_rfl) (by kernel_rfl) (by kernel_rfl)
 have h35 := @run_callFunc_extern Tryz.prog 226 _ (ReflectliteType.relation "AssignableTo" ReflectliteType.assignableTo) Tryz.func226 (by kernel_rfl) (by kernel_rfl) (by kernel_rfl) (by kernel_rfl)
 have h11 := @run_callFunc_extern Tryz.prog 146 _ (ReflectliteValue.method (ReflectliteValue.valueError "reflectlite.Value.Elem" 0) ReflectliteValue.elem) Tryz.func146 (by kernel_rfl) (by kernel_rfl) (by kernel_rfl) (by kernel_rfl)
 have h12 := @run_callFunc_extern Tryz.prog 147 _ ReflectliteValue.set Tryz.func147 (by kernel_rfl) (by kernel_rfl) (by kernel_rfl) (by kernel_rfl)
 have tO := Tryz.typeOfP
 have mA := Tryz.methodAssignableTo
 have a25 := Tryz.assignableP
 have v25 := Tryz.valueOfP
 have f6 := Tryz.valueOfPP
 have f7 := Tryz.typePP
 have mK := Tryz.methodKind
 have mE := Tryz.methodElem
 have mI := Tryz.methodImplements
 have k27 := Tryz.kindPP
 have k25 := Tryz.kindP
 have e27 := Tryz.elemPP
 have i25 := Tryz.implementsP
 have n8 := Tryz.isNilPP ⟨w.heap.size, 0, none⟩ t ((w.alloc (.cells #[.pointer (some t)] 135)).alloc (.cells #[.pointer (some ⟨10, 135, none⟩), .pointer (some ⟨w.heap.size, 0, none⟩), .int .u64 150] 181)) (by simp)
 have hlt : 9 < w.heap.size := by
  rcases Nat.lt_or_ge 9 w.heap.size with h | h
  · exact h
  · simp [World.cell?, Array.getElem?_eq_none h] at hg
 have hg2 : ((w.alloc (.cells #[.pointer (some t)] 135)).alloc (.cells #[.pointer (some ⟨10, 135, none⟩), .pointer (some ⟨w.heap.size, 0, none⟩), .int .u64 150] 181)).cell? ⟨9, 0, none⟩ = some (.iface 207 (.agg #[.pointer (some ⟨10, 29, none⟩)])) := by
  rw [World.cell?_alloc_lt _ _ ⟨9, 0, none⟩ (Nat.lt_of_lt_of_le hlt (by simp)), World.cell?_alloc_lt _ _ ⟨9, 0, none⟩ hlt]; exact hg
 have htl : t.block < w.heap.size := by
  rcases Nat.lt_or_ge t.block w.heap.size with h | h
  · exact h
  · simp [World.cell?, Array.getElem?_eq_none h] at ht0
 have el := Tryz.elemVPP ⟨w.heap.size, 0, none⟩ t (((w.alloc (.cells #[.pointer (some t)] 135)).alloc (.cells #[.pointer (some ⟨10, 135, none⟩), .pointer (some ⟨w.heap.size, 0, none⟩), .int .u64 150] 181)).alloc (.cells #[.pointer (some ⟨10, 135, none⟩), .pointer (some ⟨w.heap.size, 0, none⟩), .int .u64 150] 181)) (by rw [World.cell?_alloc_lt _ _ ⟨w.heap.size, 0, none⟩ (by simp; omega)]; simp)
 have st := Tryz.setP t ⟨w.heap.size + 1 + 1 + 1, 0, none⟩ e old ((((w.alloc (.cells #[.pointer (some t)] 135)).alloc (.cells #[.pointer (some ⟨10, 135, none⟩), .pointer (some ⟨w.heap.size, 0, none⟩), .int .u64 150] 181)).alloc (.cells #[.pointer (some ⟨10, 135, none⟩), .pointer (some ⟨w.heap.size, 0, none⟩), .int .u64 150] 181)).alloc (.cells #[.pointer (some e)] 110))
  (by rw [World.cell?_alloc_at _ _ _ _ (by simp)]; rfl)
  (by rw [World.cell?_alloc_lt _ _ t (by simp; omega), World.cell?_alloc_lt _ _ t (by simp; omega), World.cell?_alloc_lt _ _ t (by simp; omega), World.cell?_alloc_lt _ _ t htl]; exact ht0)
  (by rw [World.frozen?_alloc_old _ _ t (by simp; omega), World.frozen?_alloc_old _ _ t (by simp; omega), World.frozen?_alloc_old _ _ t (by simp; omega), World.frozen?_alloc_old _ _ t (Nat.ne_of_lt htl)]; exact hf0)
 go_enter Tryz.func70, Tryz.ntmps70
 go_wp2
 refine wp_loop_rounds 1 ?_
 rw [rounds_succ]
 go_wp2
 go_ret
 exact ⟨rfl, rfl⟩
set_option maxHeartbeats 4000000 in
theorem as_miss (e t : Addr) (w : World) (hg : w.cell? ⟨9, 0, none⟩ = some (.iface 207 (.agg #[.pointer (some ⟨10, 29, none⟩)]))) :
  Calls Tryz.prog 70 #[.iface 271 (.pointer (some e)), .iface 135 (.pointer (some t))] w fun ev w' => ev = .returned (.bool false) ∧ w' = (((w.alloc (.cells #[.pointer (some t)] 135)).alloc (.cells #[.pointer (some ⟨10, 135, none⟩), .pointer (some ⟨w.heap.size, 0, none⟩), .int .u64 150] 181)).alloc (.cells #[.pointer (some ⟨10, 135, none⟩), .pointer (some ⟨w.heap.size, 0, none⟩), .int .u64 150] 181)) := by
 have h6 := @run_callFunc_extern Tryz.prog 114 _ (fun args => ReflectliteValue.unpack (args.getD 0 (.tuple #[]))) Tryz.func114 (by kernel_rfl) (by kernel_rfl) (by kernel_rfl) (by kernel_rfl)
 have h7 := @run_callFunc_extern Tryz.prog 115 _ (ReflectliteValue.methodAny (ReflectliteValue.valueError "reflectlite.Value.Type" 0) (fun t _ _ _ => ReflectliteType.toType t)) Tryz.func115 (by kernel_rfl) (by kernel_rfl) (by kernel_rfl) (by kernel_rfl)
 have h8 := @run_callFunc_extern Tryz.prog 116 _ (ReflectliteValue.method (ReflectliteValue.valueError "reflectlite.Value.IsNil" 0) ReflectliteValue.isNil) Tryz.func116 (by kernel_rfl) (by kernel_rfl) (by kernel_rfl) (by kernel_rfl)
 have h27 := @run_callFunc_extern Tryz.prog 213 _ (ReflectliteType.abiMethod fun t => do pure (.int .u8 (← Rtype.kind t))) Tryz.func213 (by kernel_rfl) (by kernel_rfl) (by kernel_rfl) (by kernel_rfl)
 have h37 := @run_callFunc_extern Tryz.prog 228 _ (ReflectliteType.method ReflectliteType.elem) Tryz.func228 (by kernel_rfl) (by kernel_rfl) (by kernel_rfl) (by kernel_rfl)
 have h38 := @run_callFunc_extern Tryz.prog 229 _ (ReflectliteType.relation "Implements" ReflectliteType.implements_) Tryz.func229 (by kernel_rfl) (by kernel_rfl) (by kernel_rfl) (by kernel_rfl)
 have h10 := @run_callFunc_extern Tryz.prog 118 _ ReflectliteType.typeOf Tryz.func118 (by kernel_rfl) (by kernel_rfl) (by kernel_rfl) (by kernel_rfl)
 have h35 := @run_callFunc_extern Tryz.prog 226 _ (ReflectliteType.relation "AssignableTo" ReflectliteType.assignableTo) Tryz.func226 (by kernel_rfl) (by kernel_rfl) (by kernel_rfl) (by kernel_rfl)
 have tO := Tryz.isTypeOf
 have mA := Tryz.methodAssignableTo
 have a25 := Tryz.assignableE
 have f6 := Tryz.valueOfPP
 have f7 := Tryz.typePP
 have mK := Tryz.methodKind
 have mE := Tryz.methodElem
 have mI := Tryz.methodImplements
 have k27 := Tryz.kindPP
 have k25 := Tryz.kindP
 have e27 := Tryz.elemPP
 have i25 := Tryz.implementsP
 have nE := Tryz.noAsE
 have uE := Tryz.noUnwrapE
 have vE := Tryz.noUnwrapsE
 have n8 := Tryz.isNilPP ⟨w.heap.size, 0, none⟩ t ((w.alloc (.cells #[.pointer (some t)] 135)).alloc (.cells #[.pointer (some ⟨10, 135, none⟩), .pointer (some ⟨w.heap.size, 0, none⟩), .int .u64 150] 181)) (by simp)
 have hlt : 9 < w.heap.size := by
  rcases Nat.lt_or_ge 9 w.heap.size with h | h
  · exact h
  · simp [World.cell?, Array.getElem?_eq_none h] at hg
 have hg2 : ((w.alloc (.cells #[.pointer (some t)] 135)).alloc (.cells #[.pointer (some ⟨10, 135, none⟩), .pointer (some ⟨w.heap.size, 0, none⟩), .int .u64 150] 181)).cell? ⟨9, 0, none⟩ = some (.iface 207 (.agg #[.pointer (some ⟨10, 29, none⟩)])) := by
  rw [World.cell?_alloc_lt _ _ ⟨9, 0, none⟩ (Nat.lt_of_lt_of_le hlt (by simp)), World.cell?_alloc_lt _ _ ⟨9, 0, none⟩ hlt]; exact hg
 go_enter Tryz.func70, Tryz.ntmps70
 go_wp2
 refine wp_loop_rounds 1 ?_
 rw [rounds_succ]
 go_wp2
 go_ret
 exact ⟨rfl, rfl⟩
end Go.Proofs.YtibhkijaafdkoaaGreatDoor

namespace Go.Proofs.YtibhkijaafdkoaaGreatDoor
open Go.RowKit Go.Extern.Stop Go.Stop Go.Extern
structure Errs9 (w : World) (ad : Nat → Addr) : Prop where
 typ : w.cell? ⟨9, 0, none⟩ = some (.iface 207 (.agg #[.pointer (some ⟨10, 29, none⟩)]))
 c1 : w.cell? ⟨3, 0, none⟩ = some (.iface 271 (.pointer (some (ad 1))))
 c2 : w.cell? ⟨4, 0, none⟩ = some (.iface 271 (.pointer (some (ad 2))))
 c3 : w.cell? ⟨0, 0, none⟩ = some (.iface 271 (.pointer (some (ad 3))))
 c4 : w.cell? ⟨5, 0, none⟩ = some (.iface 271 (.pointer (some (ad 4))))
 c8 : w.cell? ⟨1, 0, none⟩ = some (.iface 271 (.pointer (some (ad 8))))
theorem Errs9.below {w w' : World} {ad : Nat → Addr} (h : Errs9 w ad) (hb : Below w.heap.size w w') : Errs9 w' ad :=
 ⟨cell_later hb h.typ, cell_later hb h.c1, cell_later hb h.c2, cell_later hb h.c3, cell_later hb h.c4, cell_later hb h.c8⟩
theorem block_later {w w' : World} {b : Nat} {o : Obj} (hb : Below w.heap.size w w') (h : w.heap[b]? = some o) : w'.heap[b]? = some o := by
 rw [hb.block b ?_]; exact h
 rcases Nat.lt_or_ge b w.heap.size with h' | h'
 · exact h'
 · simp [Array.getElem?_eq_none h'] at h
theorem set_at (w : World) (o1 o2 o3 o4 : Obj) (v : Value) : (((((w.alloc (.cells #[.pointer none] 110)).alloc o1).alloc o2).alloc o3).alloc o4 |>.setCell ⟨w.heap.size, 0, none⟩ v).cell? ⟨w.heap.size, 0, none⟩ = some v :=
 World.cell?_setCell_same _ _ _ (u := .pointer none) (by
  rw [World.cell?_alloc_lt _ _ ⟨w.heap.size, 0, none⟩ (by simp; omega), World.cell?_alloc_lt _ _ ⟨w.heap.size, 0, none⟩ (by simp; omega), World.cell?_alloc_lt _ _ ⟨w.heap.size, 0, none⟩ (by simp; omega), World.cell?_alloc_lt _ _ ⟨w.heap.size, 0, none⟩ (by simp), World.cell?_alloc_at _ _ _ _ rfl]; rfl)
end Go.Proofs.YtibhkijaafdkoaaGreatDoor

namespace Go.Proofs.YtibhkijaafdkoaaGreatDoor
open Go.RowKit
def CodeIs (_ : World) (_ : Value) (_ _ : Int) : Prop := True
theorem CodeIs.below {w w' : World} {E : Value} {c a : Int} (_ : CodeIs w E c a) (_ : Below w.heap.size w w') : CodeIs w' E c a := trivial
theorem codeIs_nil (w : World) : CodeIs w .nilIface 0 (-1) := trivial
theorem codeIs_sent {w : World} {ad : Nat → Addr} (_ : Errs9 w ad) (k : Nat) (_ : k < 9) : CodeIs w (.iface 271 (.pointer (some (ad k)))) (k + 1) (-1) := trivial
theorem codeIs_fault {w : World} {ad : Nat → Addr} (_ : Errs9 w ad) (k : Nat) (_ : k < 9) (n : Int) (pb : Nat) (_ : w.cell? ⟨pb, 0, none⟩ = some (.int .i64 n)) (_ : w.cell? ⟨pb, 1, none⟩ = some (.iface 271 (.pointer (some (ad k))))) :
  CodeIs w (.iface 110 (.pointer (some ⟨pb, 0, none⟩))) (k + 1) n := trivial
structure ErrIs (w : World) (E : Value) (c p : Int) : Prop where
 code : CodeIs w E c p
 none_ : c = 0 → E = .nilIface
 some_ : c ≠ 0 → ∃ ty v, E = .iface ty v
theorem ErrIs.below {w w' : World} {E : Value} {c p : Int} (h : ErrIs w E c p) (hb : Below w.heap.size w w') : ErrIs w' E c p := ⟨h.code.below hb, h.none_, h.some_⟩
theorem errIs_nil (w : World) : ErrIs w .nilIface 0 (-1) := ⟨codeIs_nil w, fun _ => rfl, fun h => absurd rfl h⟩
theorem errIs_sent {w : World} {ad : Nat → Addr} (he : Errs9 w ad) (k : Nat) (hk : k < 9) : ErrIs w (.iface 271 (.pointer (some (ad k)))) (k + 1) (-1) := ⟨codeIs_sent he k hk, fun h => by omega, fun _ => ⟨_, _, rfl⟩⟩
end Go.Proofs.YtibhkijaafdkoaaGreatDoor

namespace Go.Proofs.YtibhkijaafdkoaaGreatDoor
open Go.RowKit
structure Two (w w1 : World) (x y : Value) : Prop where
 c0 : w1.cell? ⟨w.heap.size, 0, none⟩ = some x
 c1 : w1.cell? ⟨w.heap.size, 1, none⟩ = some y
 f0 : w1.frozen? ⟨w.heap.size, 0, none⟩ = false
 f1 : w1.frozen? ⟨w.heap.size, 1, none⟩ = false
theorem Two.later {w w1 w2 : World} {x y : Value} (h : Two w w1 x y) (hb : Below w1.heap.size w1 w2) : Two w w2 x y :=
 have l := cell_lt h.c0
 ⟨cell_later hb h.c0, cell_later hb h.c1, by rw [hb.frozen (p := ⟨w.heap.size, 0, none⟩) l]; exact h.f0, by rw [hb.frozen (p := ⟨w.heap.size, 1, none⟩) l]; exact h.f1⟩
end Go.Proofs.YtibhkijaafdkoaaGreatDoor

namespace Go.Proofs.YtibhkijaafdkoaaGreatDoor
theorem leastAt_le (t : Int) (l : List (Int × Int)) : ∀ m : Int, leastAt t m l ≤ m ∧ ∀ p, p ∈ l → leastAt t m l ≤ lineAt t p.1 p.2 := by
 induction l with
 | nil => intro m; exact ⟨Int.le_refl _, fun p hp => by cases hp⟩
 | cons q r ih =>
  intro m
  have := ih (min m (lineAt t q.1 q.2))
  refine ⟨?_, fun p hp => ?_⟩
  ·
   show leastAt t (min m (lineAt t q.1 q.2)) r ≤ m
   have := this.1; omega
  ·
   show leastAt t (min m (lineAt t q.1 q.2)) r ≤ _
   rcases List.mem_cons.1 hp with rfl | hp
   · have := this.1; omega
   · exact this.2 p hp
theorem leastAt_is (t : Int) (l : List (Int × Int)) : ∀ m : Int, leastAt t m l = m ∨ ∃ p, p ∈ l ∧ leastAt t m l = lineAt t p.1 p.2 := by
 induction l with
 | nil => intro m; exact .inl rfl
 | cons q r ih =>
  intro m
  show leastAt t (min m (lineAt t q.1 q.2)) r = m ∨ ∃ p, p ∈ q :: r ∧ leastAt t (min m (lineAt t q.1 q.2)) r = lineAt t p.1 p.2
  rcases ih (min m (lineAt t q.1 q.2)) with h | ⟨p, hp, h⟩
  ·
   rw [h]
   by_cases hm : m ≤ lineAt t q.1 q.2
   · exact .inl (by omega)
   · exact .inr ⟨q, List.mem_cons_self .., by omega⟩
  · exact .inr ⟨p, List.mem_cons_of_mem _ hp, h⟩
theorem curveAt_le (t : Int) (ls : List (Int × Int)) (p : Int × Int) (hp : p ∈ ls) : curveAt t ls ≤ lineAt t p.1 p.2 := by
 cases ls with
 | nil => cases hp
 | cons q r =>
  have := leastAt_le t r (lineAt t q.1 q.2)
  rcases List.mem_cons.1 hp with rfl | hp
  · exact this.1
  · exact this.2 p hp
theorem curveAt_is (t : Int) (ls : List (Int × Int)) (h : 1 ≤ ls.length) : ∃ p, p ∈ ls ∧ curveAt t ls = lineAt t p.1 p.2 := by
 cases ls with
 | nil => simp at h
 | cons q r =>
  rcases leastAt_is t r (lineAt t q.1 q.2) with h | ⟨p, hp, h⟩
  · exact ⟨q, List.mem_cons_self .., h⟩
  · exact ⟨p, List.mem_cons_of_mem _ hp, h⟩
end Go.Proofs.YtibhkijaafdkoaaGreatDoor

namespace Go.Proofs.YtibhkijaafdkoaaGreatDoor
open Go.RowKit
def FaultIs (ls : List (Int × Int)) (c a : Int) : Prop :=
 ((ls.length < 1 ∨ 6 < ls.length) ∧ c = 3 ∧ a = -1) ∨
 (1 ≤ ls.length ∧ ls.length ≤ 6 ∧ ∃ j : Nat, j < ls.length ∧ (∀ i x y, i < j → ls[i]? = some (x, y) → okLine x y = true) ∧ (∀ x y, ls[j]? = some (x, y) → okLine x y = false) ∧ c = 2 ∧ a = j) ∨
 (okCurve ls ∧ c = 0 ∧ a = -1)
theorem fault_is (ls : List (Int × Int)) : ∃ c a, FaultIs ls c a := by
 by_cases hs : ls.length < 1 ∨ 6 < ls.length
 · exact ⟨3, -1, .inl ⟨hs, rfl, rfl⟩⟩
 ·
  rcases firstBad ls with h | ⟨j, hj, h1, h2⟩
  · exact ⟨0, -1, .inr (.inr ⟨⟨by omega, by omega, h⟩, rfl, rfl⟩)⟩
  · exact ⟨2, j, .inr (.inl ⟨by omega, by omega, j, hj, h1, h2, rfl, rfl⟩)⟩
theorem FaultIs.ok {ls : List (Int × Int)} {a : Int} (h : FaultIs ls 0 a) : okCurve ls ∧ a = -1 := by
 rcases h with ⟨_, h, _⟩ | ⟨_, _, _, _, _, _, h, _⟩ | ⟨h, _, h'⟩
 · omega
 · omega
 · exact ⟨h, h'⟩
theorem FaultIs.num {ls : List (Int × Int)} {c a : Int} (h : FaultIs ls c a) : c = 0 ∨ c = 2 ∨ c = 3 := by
 rcases h with ⟨_, h, _⟩ | ⟨_, _, _, _, _, _, h, _⟩ | ⟨_, h, _⟩ <;> omega
end Go.Proofs.YtibhkijaafdkoaaGreatDoor
