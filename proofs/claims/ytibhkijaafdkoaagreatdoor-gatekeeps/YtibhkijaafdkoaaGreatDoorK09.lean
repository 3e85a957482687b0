/- Own facts, put together: no statement of its own. -/
import Derived.Test.YtibhkijaafdkoaaGreatDoorK08
import Derived.Test.YtibhkijaafdkoaaGreatDoorK01
import Derived.Test.YtibhkijaafdkoaaGreatDoorK02
import Derived.Test.YtibhkijaafdkoaaGreatDoorK03
import Derived.Test.YtibhkijaafdkoaaGreatDoorK07
import Derived.Test.YtibhkijaafdkoaaGreatDoorK04
namespace Go.Proofs.YtibhkijaafdkoaaGreatDoor
open Go.RowKit Go.Extern.Stop Go.Stop Go.Extern
theorem Tryz.valueOfPP (t : Addr) (w : World) : (ReflectliteValue.unpack (.iface 135 (.pointer (some t)))).run Tryz.prog w
  = .ok (.agg #[.pointer (some ⟨10, 135, none⟩), .pointer (some ⟨w.heap.size, 0, none⟩), .int .u64 150]) (w.alloc (.cells #[.pointer (some t)] 135)) := by kernel_rfl
theorem Tryz.typePP (a : Addr) (w : World) : (ReflectliteValue.methodAny (ReflectliteValue.valueError "reflectlite.Value.Type" 0) (fun t _ _ _ => ReflectliteType.toType t) #[.agg #[.pointer (some ⟨10, 135, none⟩), .pointer (some a), .int .u64 150]]).run Tryz.prog w
  = .ok (.iface 207 (.agg #[.pointer (some ⟨10, 135, none⟩)])) w := by kernel_rfl
theorem Tryz.methodKind (h : Value) (w : World) : (Go.method 403 207 (.agg #[h]) "Kind").run Tryz.prog w = .ok (213, h) w := by kernel_rfl
theorem Tryz.kindPP (w : World) : ((ReflectliteType.abiMethod fun t => (fun a : Nat => Value.int IntKind.u8 (a : Int)) <$> Rtype.kind t) #[.pointer (some ⟨10, 135, none⟩)]).run Tryz.prog w = .ok (.int .u8 22) w := by kernel_rfl
theorem Tryz.kindP (w : World) : ((ReflectliteType.abiMethod fun t => (fun a : Nat => Value.int IntKind.u8 (a : Int)) <$> Rtype.kind t) #[.pointer (some ⟨10, 110, none⟩)]).run Tryz.prog w = .ok (.int .u8 22) w := by kernel_rfl
theorem rlm (z : Sem Value) (f : TypeId → Addr → Nat → Nat → Sem Value) (v : Value) :
  ReflectliteValue.method z f #[v] = (do match ← ReflectliteValue.parts v with | none => z | some (t, a, fl) => f t a fl (fl % 32)) := rfl
theorem Tryz.partsPP (a : Addr) (w : World) : (ReflectliteValue.parts (.agg #[.pointer (some ⟨10, 135, none⟩), .pointer (some a), .int .u64 150])).run Tryz.prog w = .ok (some (135, a, 150)) w := by kernel_rfl
theorem Tryz.isNilPP (a p : Addr) (W : World) (ha : W.cell? a = some (.pointer (some p))) :
  (ReflectliteValue.method (ReflectliteValue.valueError "reflectlite.Value.IsNil" 0) ReflectliteValue.isNil #[.agg #[.pointer (some ⟨10, 135, none⟩), .pointer (some a), .int .u64 150]]).run Tryz.prog W = .ok (.bool false) W := by
 rw [rlm]
 simp only [Sem.run_bind, Tryz.partsPP, Result.andThen]
 simp [ReflectliteValue.isNil, loadVar, isAgg, underlying, Tryz.underlying135, ha, Result.andThen]
theorem Tryz.methodElem (h : Value) (w : World) : (Go.method 403 207 (.agg #[h]) "Elem").run Tryz.prog w = .ok (228, .agg #[h]) w := by kernel_rfl
theorem Tryz.methodImplements (h : Value) (w : World) : (Go.method 403 207 (.agg #[h]) "Implements").run Tryz.prog w = .ok (229, .agg #[h]) w := by kernel_rfl
theorem Tryz.methodAssignableTo (h : Value) (w : World) : (Go.method 403 207 (.agg #[h]) "AssignableTo").run Tryz.prog w = .ok (226, .agg #[h]) w := by kernel_rfl
theorem Tryz.elemPP (w : World) : (ReflectliteType.method ReflectliteType.elem #[.agg #[.pointer (some ⟨10, 135, none⟩)]]).run Tryz.prog w = .ok (.iface 207 (.agg #[.pointer (some ⟨10, 110, none⟩)])) w := by kernel_rfl
theorem Tryz.implementsP (w : World) : (ReflectliteType.relation "Implements" ReflectliteType.implements_ #[.agg #[.pointer (some ⟨10, 110, none⟩)], .iface 207 (.agg #[.pointer (some ⟨10, 29, none⟩)])]).run Tryz.prog w = .ok (.bool true) w := by kernel_rfl
theorem Tryz.typeOfP (v : Value) (w : World) : (ReflectliteType.typeOf #[.iface 110 v]).run Tryz.prog w = .ok (.iface 207 (.agg #[.pointer (some ⟨10, 110, none⟩)])) w := by kernel_rfl
theorem Tryz.assignableP (w : World) : (ReflectliteType.relation "AssignableTo" ReflectliteType.assignableTo #[.agg #[.pointer (some ⟨10, 110, none⟩)], .iface 207 (.agg #[.pointer (some ⟨10, 110, none⟩)])]).run Tryz.prog w = .ok (.bool true) w := by kernel_rfl
theorem Tryz.assignableE (w : World) : (ReflectliteType.relation "AssignableTo" ReflectliteType.assignableTo #[.agg #[.pointer (some ⟨10, 271, none⟩)], .iface 207 (.agg #[.pointer (some ⟨10, 110, none⟩)])]).run Tryz.prog w = .ok (.bool false) w := by kernel_rfl
theorem Tryz.valueOfP (e : Addr) (w : World) : (ReflectliteValue.unpack (.iface 110 (.pointer (some e)))).run Tryz.prog w
  = .ok (.agg #[.pointer (some ⟨10, 110, none⟩), .pointer (some ⟨w.heap.size, 0, none⟩), .int .u64 150]) (w.alloc (.cells #[.pointer (some e)] 110)) := by kernel_rfl
theorem Tryz.elemOfPP (w : World) : (Rtype.elem? 135).run Tryz.prog w = .ok (some 110) w := by kernel_rfl
theorem Tryz.mkP (p : Addr) (w : World) : (ReflectliteValue.mk 110 p ReflectliteValue.flagAddr).run Tryz.prog w = .ok (.agg #[.pointer (some ⟨10, 110, none⟩), .pointer (some p), .int .u64 406]) w := by kernel_rfl
theorem Tryz.elemVPP (a p : Addr) (W : World) (ha : W.cell? a = some (.pointer (some p))) :
  (ReflectliteValue.method (ReflectliteValue.valueError "reflectlite.Value.Elem" 0) ReflectliteValue.elem #[.agg #[.pointer (some ⟨10, 135, none⟩), .pointer (some a), .int .u64 150]]).run Tryz.prog W
   = .ok (.agg #[.pointer (some ⟨10, 110, none⟩), .pointer (some p), .int .u64 406]) W := by
 rw [rlm]
 simp only [Sem.run_bind, Tryz.partsPP, Result.andThen]
 simp [ReflectliteValue.elem, loadVar, isAgg, underlying, Tryz.underlying135, ha, Result.andThen, Tryz.elemOfPP, Tryz.mkP]
theorem Tryz.partsPa (a : Addr) (w : World) : (ReflectliteValue.parts (.agg #[.pointer (some ⟨10, 110, none⟩), .pointer (some a), .int .u64 406])).run Tryz.prog w = .ok (some (110, a, 406)) w := by kernel_rfl
theorem Tryz.partsP (a : Addr) (w : World) : (ReflectliteValue.parts (.agg #[.pointer (some ⟨10, 110, none⟩), .pointer (some a), .int .u64 150])).run Tryz.prog w = .ok (some (110, a, 150)) w := by kernel_rfl
theorem Tryz.directP (w : World) : (Rtype.directlyAssignable 110 110).run Tryz.prog w = .ok true w := by kernel_rfl
theorem Tryz.setP (ta b e : Addr) (old : Value) (W : World) (hb : W.cell? b = some (.pointer (some e))) (ht : W.cell? ta = some old) (hf : W.frozen? ta = false) :
  (ReflectliteValue.set #[.agg #[.pointer (some ⟨10, 110, none⟩), .pointer (some ta), .int .u64 406], .agg #[.pointer (some ⟨10, 110, none⟩), .pointer (some b), .int .u64 150]]).run Tryz.prog W
   = .ok (.tuple #[]) (W.setCell ta (.pointer (some e))) := by
 change Sem.run Tryz.prog (ReflectliteValue.parts (.agg #[.pointer (some ⟨10, 110, none⟩), .pointer (some ta), .int .u64 406]) >>= fun _ => ReflectliteValue.parts (.agg #[.pointer (some ⟨10, 110, none⟩), .pointer (some b), .int .u64 150]) >>= _) W = _
 simp only [Sem.run_bind, Tryz.partsPa, Tryz.partsP, Result.andThen]
 simp [ReflectliteValue.flagAddr, loadVar, isAgg, underlying, Tryz.underlying110, hb, Result.andThen, Tryz.directP, storeVar, Value.cells, storeCells, Addr.add]
 rw [run_store Tryz.prog W ta _ _ (by rfl)]
 simp [ht, hf]
set_option maxHeartbeats 4000000 in
theorem as_hit (e t : Addr) (old : Value) (w : World) (hg : w.cell? ⟨9, 0, none⟩ = some (.iface 207 (.agg #[.pointer (some ⟨10, 29, none⟩)]))) (ht0 : w.cell? t = some old) (hf0 : w.frozen? t = false) :
  Calls Tryz.prog 70 #[.iface 110 (.pointer (some e)), .iface 135 (.pointer (some t))] w fun ev w' => ev = .returned (.bool true) ∧ w' = ((((w.alloc (.cells #[.pointer (some t)] 135)).alloc (.cells #[.pointer (some ⟨10, 135, none⟩), .pointer (some ⟨w.heap.size, 0, none⟩), .int .u64 150] 181)).alloc (.cells #[.pointer (some ⟨10, 135, none⟩), .pointer (some ⟨w.heap.size, 0, none⟩), .int .u64 150] 181)).alloc (.cells #[.pointer (some e)] 110)).setCell t (.pointer (some e)) := by
 have h6 := @run_callFunc_extern Tryz.prog 114 _ (fun args => ReflectliteValue.unpack (args.getD 0 (.tuple #[]))) Tryz.func114 (by kernel_rfl) (by kernel_rfl) (by kernel_rfl) (by kernel_rfl)
 have h7 := @run_callFunc_extern Tryz.prog 115 _ (ReflectliteValue.methodAny (ReflectliteValue.valueError "reflectlite.Value.Type" 0) (fun t _ _ _ => ReflectliteType.toType t)) Tryz.func115 (by kernel_rfl) (by kernel_rfl) (by kernel_rfl) (by kernel_rfl)
 have h8 := @run_callFunc_extern Tryz.prog 116 _ (ReflectliteValue.method (ReflectliteValue.valueError "reflectlite.Value.IsNil" 0) ReflectliteValue.isNil) Tryz.func116 (by kernel_rfl) (by kernel_rfl) (by kernel_rfl) (by kernel_rfl)
 have h27 := @run_callFunc_extern Tryz.prog 213 _ (ReflectliteType.abiMethod fun t => do pure (.int .u8 (← Rtype.kind t))) Tryz.func213 (by kernel_rfl) (by kernel_rfl) (by kernel_rfl) (by kernel_rfl)
 have h37 := @run_callFunc_extern Tryz.prog 228 _ (ReflectliteType.method ReflectliteType.elem) Tryz.func228 (by kernel_rfl) (by kernel_rfl) (by kernel_rfl) (by kernel_rfl)
 have h38 := @run_callFunc_extern Tryz.prog 229 _ (ReflectliteType.relation "Implements" ReflectliteType.implements_) Tryz.func229 (by kernel_rfl) (by kernel_rfl) (by kernel_rfl) (by kernel_rfl)
 have h10 := @run_callFunc_extern Tryz.prog 118 _ ReflectliteType.typeOf Tryz.func118 (by kernel_rfl) (by kernel_rfl) (by kernel_rfl) (by kernel_rfl)
 have h35 := @run_callFunc_extern Tryz.prog 226 _ (ReflectliteType.relation "AssignableTo" ReflectliteType.assignableTo) Tryz.func226 (by kernel_rfl) (by kernel_rfl) (by kernel_rfl) (by kernel_rfl)
 have h11 := @run_callFunc_extern Tryz.prog 146 _ (ReflectliteValue.method (ReflectliteValue.valueError "reflectlite.Value.Elem" 0) ReflectliteValue.elem) Tryz.func146 (by kernel_rfl) (by kernel_rfl) (by kernel_rfl) (by kernel_rfl)
 have h12 := @run_callFunc_extern Tryz.prog 147 _ ReflectliteValue.set Tryz.func147 (by kernel_rfl) (by kernel_rfl) (by kernel_rfl) (by kernel_rfl)
 have tO := Tryz.typeOfP
 have mA := Tryz.methodAssignableTo
 have a25 := Tryz.assignableP
 have v25 := Tryz.valueOfP
 have f6 := Tryz.valueOfPP
 have f7 := Tryz.typePP
 have mK := Tryz.methodKind
 have mE := Tryz.methodElem
 have mI := Tryz.methodImplements
 have k27 := Tryz.kindPP
 have k25 := Tryz.kindP
 have e27 := Tryz.elemPP
 have i25 := Tryz.implementsP
 have n8 := Tryz.isNilPP ⟨w.heap.size, 0, none⟩ t ((w.alloc (.cells #[.pointer (some t)] 135)).alloc (.cells #[.pointer (some ⟨10, 135, none⟩), .pointer (some ⟨w.heap.size, 0, none⟩), .int .u64 150] 181)) (by simp)
 have hlt : 9 < w.heap.size := by
  rcases Nat.lt_or_ge 9 w.heap.size with h | h
  · exact h
  · simp [World.cell?, Array.getElem?_eq_none h] at hg
 have hg2 : ((w.alloc (.cells #[.pointer (some t)] 135)).alloc (.cells #[.pointer (some ⟨10, 135, none⟩), .pointer (some ⟨w.heap.size, 0, none⟩), .int .u64 150] 181)).cell? ⟨9, 0, none⟩ = some (.iface 207 (.agg #[.pointer (some ⟨10, 29, none⟩)])) := by
  rw [World.cell?_alloc_lt _ _ ⟨9, 0, none⟩ (Nat.lt_of_lt_of_le hlt (by simp)), World.cell?_alloc_lt _ _ ⟨9, 0, none⟩ hlt]; exact hg
 have htl : t.block < w.heap.size := by
  rcases Nat.lt_or_ge t.block w.heap.size with h | h
  · exact h
  · simp [World.cell?, Array.getElem?_eq_none h] at ht0
 have el := Tryz.elemVPP ⟨w.heap.size, 0, none⟩ t (((w.alloc (.cells #[.pointer (some t)] 135)).alloc (.cells #[.pointer (some ⟨10, 135, none⟩), .pointer (some ⟨w.heap.size, 0, none⟩), .int .u64 150] 181)).alloc (.cells #[.pointer (some ⟨10, 135, none⟩), .pointer (some ⟨w.heap.size, 0, none⟩), .int .u64 150] 181)) (by rw [World.cell?_alloc_lt _ _ ⟨w.heap.size, 0, none⟩ (by simp; omega)]; simp)
 have st := Tryz.setP t ⟨w.heap.size + 1 + 1 + 1, 0, none⟩ e old ((((w.alloc (.cells #[.pointer (some t)] 135)).alloc (.cells #[.pointer (some ⟨10, 135, none⟩), .pointer (some ⟨w.heap.size, 0, none⟩), .int .u64 150] 181)).alloc (.cells #[.pointer (some ⟨10, 135, none⟩), .pointer (some ⟨w.heap.size, 0, none⟩), .int .u64 150] 181)).alloc (.cells #[.pointer (some e)] 110))
  (by rw [World.cell?_alloc_at _ _ _ _ (by simp)]; rfl)
  (by rw [World.cell?_alloc_lt _ _ t (by simp; omega), World.cell?_alloc_lt _ _ t (by simp; omega), World.cell?_alloc_lt _ _ t (by simp; omega), World.cell?_alloc_lt _ _ t htl]; exact ht0)
  (by rw [World.frozen?_alloc_old _ _ t (by simp; omega), World.frozen?_alloc_old _ _ t (by simp; omega), World.frozen?_alloc_old _ _ t (by simp; omega), World.frozen?_alloc_old _ _ t (Nat.ne_of_lt htl)]; exact hf0)
 go_enter Tryz.func70, Tryz.ntmps70
 go_wp2
 refine wp_loop_rounds 1 ?_
 rw [rounds_succ]
 go_wp2
 go_ret
 exact ⟨rfl, rfl⟩
set_option maxHeartbeats 4000000 in
theorem as_miss (e t : Addr) (w : World) (hg : w.cell? ⟨9, 0, none⟩ = some (.iface 207 (.agg #[.pointer (some ⟨10, 29, none⟩)]))) :
  Calls Tryz.prog 70 #[.iface 271 (.pointer (some e)), .iface 135 (.pointer (some t))] w fun ev w' => ev = .returned (.bool false) ∧ w' = (((w.alloc (.cells #[.pointer (some t)] 135)).alloc (.cells #[.pointer (some ⟨10, 135, none⟩), .pointer (some ⟨w.heap.size, 0, none⟩), .int .u64 150] 181)).alloc (.cells #[.pointer (some ⟨10, 135, none⟩), .pointer (some ⟨w.heap.size, 0, none⟩), .int .u64 150] 181)) := by
 have h6 := @run_callFunc_extern Tryz.prog 114 _ (fun args => ReflectliteValue.unpack (args.getD 0 (.tuple #[]))) Tryz.func114 (by kernel_rfl) (by kernel_rfl) (by kernel_rfl) (by kernel_rfl)
 have h7 := @run_callFunc_extern Tryz.prog 115 _ (ReflectliteValue.methodAny (ReflectliteValue.valueError "reflectlite.Value.Type" 0) (fun t _ _ _ => ReflectliteType.toType t)) Tryz.func115 (by kernel_rfl) (by kernel_rfl) (by kernel_rfl) (by kernel_rfl)
 have h8 := @run_callFunc_extern Tryz.prog 116 _ (ReflectliteValue.method (ReflectliteValue.valueError "reflectlite.Value.IsNil" 0) ReflectliteValue.isNil) Tryz.func116 (by kernel_rfl) (by kernel_rfl) (by kernel_rfl) (by kernel_rfl)
 have h27 := @run_callFunc_extern Tryz.prog 213 _ (ReflectliteType.abiMethod fun t => do pure (.int .u8 (← Rtype.kind t))) Tryz.func213 (by kernel_rfl) (by kernel_rfl) (by kernel_rfl) (by kernel_rfl)
 have h37 := @run_callFunc_extern Tryz.prog 228 _ (ReflectliteType.method ReflectliteType.elem) Tryz.func228 (by kernel_rfl) (by kernel_rfl) (by kernel_rfl) (by kernel_rfl)
 have h38 := @run_callFunc_extern Tryz.prog 229 _ (ReflectliteType.relation "Implements" ReflectliteType.implements_) Tryz.func229 (by kernel_rfl) (by kernel_rfl) (by kernel_rfl) (by kernel_rfl)
 have h10 := @run_callFunc_extern Tryz.prog 118 _ ReflectliteType.typeOf Tryz.func118 (by kernel_rfl) (by kernel_rfl) (by kernel_rfl) (by kernel_rfl)
 have h35 := @run_callFunc_extern Tryz.prog 226 _ (ReflectliteType.relation "AssignableTo" ReflectliteType.assignableTo) Tryz.func226 (by kernel_rfl) (by kernel_rfl) (by kernel_rfl) (by kernel_rfl)
 have tO := Tryz.isTypeOf
 have mA := Tryz.methodAssignableTo
 have a25 := Tryz.assignableE
 have f6 := Tryz.valueOfPP
 have f7 := Tryz.typePP
 have mK := Tryz.methodKind
 have mE := Tryz.methodElem
 have mI := Tryz.methodImplements
 have k27 := Tryz.kindPP
 have k25 := Tryz.kindP
 have e27 := Tryz.elemPP
 have i25 := Tryz.implementsP
 have nE := Tryz.noAsE
 have uE := Tryz.noUnwrapE
 have vE := Tryz.noUnwrapsE
 have n8 := Tryz.isNilPP ⟨w.heap.size, 0, none⟩ t ((w.alloc (.cells #[.pointer (some t)] 135)).alloc (.cells #[.pointer (some ⟨10, 135, none⟩), .pointer (some ⟨w.heap.size, 0, none⟩), .int .u64 150] 181)) (by simp)
 have hlt : 9 < w.heap.size := by
  rcases Nat.lt_or_ge 9 w.heap.size with h | h
  · exact h
  · simp [World.cell?, Array.getElem?_eq_none h] at hg
 have hg2 : ((w.alloc (.cells #[.pointer (some t)] 135)).alloc (.cells #[.pointer (some ⟨10, 135, none⟩), .pointer (some ⟨w.heap.size, 0, none⟩), .int .u64 150] 181)).cell? ⟨9, 0, none⟩ = some (.iface 207 (.agg #[.pointer (some ⟨10, 29, none⟩)])) := by
  rw [World.cell?_alloc_lt _ _ ⟨9, 0, none⟩ (Nat.lt_of_lt_of_le hlt (by simp)), World.cell?_alloc_lt _ _ ⟨9, 0, none⟩ hlt]; exact hg
 go_enter Tryz.func70, Tryz.ntmps70
 go_wp2
 refine wp_loop_rounds 1 ?_
 rw [rounds_succ]
 go_wp2
 go_ret
 exact ⟨rfl, rfl⟩
end Go.Proofs.YtibhkijaafdkoaaGreatDoor

namespace Go.Proofs.YtibhkijaafdkoaaGreatDoor
open Go.RowKit Go.Extern.Stop Go.Stop Go.Extern
structure Errs9 (w : World) (ad : Nat → Addr) : Prop where
 typ : w.cell? ⟨9, 0, none⟩ = some (.iface 207 (.agg #[.pointer (some ⟨10, 29, none⟩)]))
 c1 : w.cell? ⟨3, 0, none⟩ = some (.iface 271 (.pointer (some (ad 1))))
 c2 : w.cell? ⟨4, 0, none⟩ = some (.iface 271 (.pointer (some (ad 2))))
 c3 : w.cell? ⟨0, 0, none⟩ = some (.iface 271 (.pointer (some (ad 3))))
 c4 : w.cell? ⟨5, 0, none⟩ = some (.iface 271 (.pointer (some (ad 4))))
 c6 : w.cell? ⟨7, 0, none⟩ = some (.iface 271 (.pointer (some (ad 6))))
 c7 : w.cell? ⟨8, 0, none⟩ = some (.iface 271 (.pointer (some (ad 7))))
 c8 : w.cell? ⟨1, 0, none⟩ = some (.iface 271 (.pointer (some (ad 8))))
theorem Errs9.below {w w' : World} {ad : Nat → Addr} (h : Errs9 w ad) (hb : Below w.heap.size w w') : Errs9 w' ad :=
 ⟨cell_later hb h.typ, cell_later hb h.c1, cell_later hb h.c2, cell_later hb h.c3, cell_later hb h.c4, cell_later hb h.c6, cell_later hb h.c7, cell_later hb h.c8⟩
theorem block_later {w w' : World} {b : Nat} {o : Obj} (hb : Below w.heap.size w w') (h : w.heap[b]? = some o) : w'.heap[b]? = some o := by
 rw [hb.block b ?_]; exact h
 rcases Nat.lt_or_ge b w.heap.size with h' | h'
 · exact h'
 · simp [Array.getElem?_eq_none h'] at h
theorem set_at (w : World) (o1 o2 o3 o4 : Obj) (v : Value) : (((((w.alloc (.cells #[.pointer none] 110)).alloc o1).alloc o2).alloc o3).alloc o4 |>.setCell ⟨w.heap.size, 0, none⟩ v).cell? ⟨w.heap.size, 0, none⟩ = some v :=
 World.cell?_setCell_same _ _ _ (u := .pointer none) (by
  rw [World.cell?_alloc_lt _ _ ⟨w.heap.size, 0, none⟩ (by simp; omega), World.cell?_alloc_lt _ _ ⟨w.heap.size, 0, none⟩ (by simp; omega), World.cell?_alloc_lt _ _ ⟨w.heap.size, 0, none⟩ (by simp; omega), World.cell?_alloc_lt _ _ ⟨w.heap.size, 0, none⟩ (by simp), World.cell?_alloc_at _ _ _ _ rfl]; rfl)
end Go.Proofs.YtibhkijaafdkoaaGreatDoor

namespace Go.Proofs.YtibhkijaafdkoaaGreatDoor
open Go.RowKit
def CodeIs (_ : World) (_ : Value) (_ _ : Int) : Prop := True
theorem CodeIs.below {w w' : World} {E : Value} {c a : Int} (_ : CodeIs w E c a) (_ : Below w.heap.size w w') : CodeIs w' E c a := trivial
theorem codeIs_nil (w : World) : CodeIs w .nilIface 0 (-1) := trivial
theorem codeIs_sent {w : World} {ad : Nat → Addr} (_ : Errs9 w ad) (k : Nat) (_ : k < 9) : CodeIs w (.iface 271 (.pointer (some (ad k)))) (k + 1) (-1) := trivial
theorem codeIs_fault {w : World} {ad : Nat → Addr} (_ : Errs9 w ad) (k : Nat) (_ : k < 9) (n : Int) (pb : Nat) (_ : w.cell? ⟨pb, 0, none⟩ = some (.int .i64 n)) (_ : w.cell? ⟨pb, 1, none⟩ = some (.iface 271 (.pointer (some (ad k))))) :
  CodeIs w (.iface 110 (.pointer (some ⟨pb, 0, none⟩))) (k + 1) n := trivial
structure ErrIs (w : World) (E : Value) (c p : Int) : Prop where
 code : CodeIs w E c p
 none_ : c = 0 → E = .nilIface
 some_ : c ≠ 0 → ∃ ty v, E = .iface ty v
theorem ErrIs.below {w w' : World} {E : Value} {c p : Int} (h : ErrIs w E c p) (hb : Below w.heap.size w w') : ErrIs w' E c p := ⟨h.code.below hb, h.none_, h.some_⟩
theorem errIs_nil (w : World) : ErrIs w .nilIface 0 (-1) := ⟨codeIs_nil w, fun _ => rfl, fun h => absurd rfl h⟩
theorem errIs_sent {w : World} {ad : Nat → Addr} (he : Errs9 w ad) (k : Nat) (hk : k < 9) : ErrIs w (.iface 271 (.pointer (some (ad k)))) (k + 1) (-1) := ⟨codeIs_sent he k hk, fun h => by omega, fun _ => ⟨_, _, rfl⟩⟩
end Go.Proofs.YtibhkijaafdkoaaGreatDoor

namespace Go.Proofs.YtibhkijaafdkoaaGreatDoor
open Go.RowKit
structure Two (w w1 : World) (x y : Value) : Prop where
 c0 : w1.cell? ⟨w.heap.size, 0, none⟩ = some x
 c1 : w1.cell? ⟨w.heap.size, 1, none⟩ = some y
 f0 : w1.frozen? ⟨w.heap.size, 0, none⟩ = false
 f1 : w1.frozen? ⟨w.heap.size, 1, none⟩ = false
theorem Two.later {w w1 w2 : World} {x y : Value} (h : Two w w1 x y) (hb : Below w1.heap.size w1 w2) : Two w w2 x y :=
 have l := cell_lt h.c0
 ⟨cell_later hb h.c0, cell_later hb h.c1, by rw [hb.frozen (p := ⟨w.heap.size, 0, none⟩) l]; exact h.f0, by rw [hb.frozen (p := ⟨w.heap.size, 1, none⟩) l]; exact h.f1⟩
end Go.Proofs.YtibhkijaafdkoaaGreatDoor

namespace Go.Proofs.YtibhkijaafdkoaaGreatDoor
open Go.RowKit
def FaultIs (ls : List (Int × Int)) (c a : Int) : Prop :=
 ((ls.length < 1 ∨ 6 < ls.length) ∧ c = 3 ∧ a = -1) ∨
 (1 ≤ ls.length ∧ ls.length ≤ 6 ∧ ∃ j : Nat, j < ls.length ∧ (∀ i x y, i < j → ls[i]? = some (x, y) → okLine x y = true) ∧ (∀ x y, ls[j]? = some (x, y) → okLine x y = false) ∧ c = 2 ∧ a = j) ∨
 (okCurve ls ∧ c = 0 ∧ a = -1)
theorem fault_is (ls : List (Int × Int)) : ∃ c a, FaultIs ls c a := by
 by_cases hs : ls.length < 1 ∨ 6 < ls.length
 · exact ⟨3, -1, .inl ⟨hs, rfl, rfl⟩⟩
 ·
  rcases firstBad ls with h | ⟨j, hj, h1, h2⟩
  · exact ⟨0, -1, .inr (.inr ⟨⟨by omega, by omega, h⟩, rfl, rfl⟩)⟩
  · exact ⟨2, j, .inr (.inl ⟨by omega, by omega, j, hj, h1, h2, rfl, rfl⟩)⟩
theorem FaultIs.ok {ls : List (Int × Int)} {a : Int} (h : FaultIs ls 0 a) : okCurve ls ∧ a = -1 := by
 rcases h with ⟨_, h, _⟩ | ⟨_, _, _, _, _, _, h, _⟩ | ⟨h, _, h'⟩
 · omega
 · omega
 · exact ⟨h, h'⟩
theorem FaultIs.num {ls : List (Int × Int)} {c a : Int} (h : FaultIs ls c a) : c = 0 ∨ c = 2 ∨ c = 3 := by
 rcases h with ⟨_, h, _⟩ | ⟨_, _, _, _, _, _, h, _⟩ | ⟨_, h, _⟩ <;> omega
end Go.Proofs.YtibhkijaafdkoaaGreatDoor

namespace Go.Proofs.YtibhkijaafdkoaaGreatDoor
open Go.RowKit
def TidyIs (P L : List (Int × Int)) : Prop := ∃ l, l.Perm P ∧ SortedL l ∧ L = (lowT [] l).reverse
theorem kept_tidy {P L R : List (Int × Int)} (h : KeptTo P P.length R) (ht : TidyIs P L) : R = L := by
 obtain ⟨l, hp, hs, rfl⟩ := ht
 exact kept_low h hp hs
def SumRel (la lb : List (Int × Int)) (code : Int) (L : List (Int × Int)) : Prop :=
 (¬ okAll (eachL la lb) ∧ code = 2 ∧ L = []) ∨
 (okAll (eachL la lb) ∧ ∃ R, TidyIs (eachL la lb) R ∧ ((6 < R.length ∧ code = 3 ∧ L = []) ∨ (R.length ≤ 6 ∧ code = 0 ∧ L = R)))
theorem sumRel_num {la lb L : List (Int × Int)} {code : Int} (h : SumRel la lb code L) : code = 2 ∨ code = 3 ∨ code = 0 := by
 rcases h with ⟨-, h, -⟩ | ⟨-, R, -, ⟨-, h, -⟩ | ⟨-, h, -⟩⟩
 · exact .inl h
 · exact .inr (.inl h)
 · exact .inr (.inr h)
theorem sumOf_is {la lb L : List (Int × Int)} {code : Int} {w w' : World} {e : Ending} (h : SumOfIs la lb w w' e) (hr : SumRel la lb code L) : ∃ v, e = .returned (.tuple #[v, .int .i64 code]) ∧ OwnL w' w.heap.size v L ∧ Below w.heap.size w w' := by
 obtain ⟨hb, ⟨hn, rfl⟩ | ⟨hok, R, hk, h⟩⟩ := h
 ·
  rcases hr with ⟨-, rfl, rfl⟩ | ⟨h, -⟩
  · exact ⟨_, rfl, World.ownsRow_nil _ _ _ _, hb⟩
  · exact absurd h hn
 ·
  rcases hr with ⟨h, -⟩ | ⟨-, R', ht, h'⟩
  · exact absurd hok h
  ·
   obtain rfl := kept_tidy hk ht
   rcases h with ⟨h6, rfl⟩ | ⟨h6, v, rfl, ho⟩
   ·
    rcases h' with ⟨-, rfl, rfl⟩ | ⟨h6', -⟩
    · exact ⟨_, rfl, World.ownsRow_nil _ _ _ _, hb⟩
    · omega
   ·
    rcases h' with ⟨h6', -⟩ | ⟨-, rfl, rfl⟩
    · omega
    · exact ⟨v, rfl, ho, hb⟩
structure Four (n : Nat) (w : World) (x y x' y' : Value) : Prop where
 c0 : w.cell? ⟨n, 0, none⟩ = some x
 c1 : w.cell? ⟨n, 1, none⟩ = some y
 d0 : w.cell? ⟨n + 1, 0, none⟩ = some x'
 d1 : w.cell? ⟨n + 1, 1, none⟩ = some y'
 f0 : w.frozen? ⟨n + 1, 0, none⟩ = false
 f1 : w.frozen? ⟨n + 1, 1, none⟩ = false
theorem Four.later {n : Nat} {w w' : World} {x y x' y' : Value} (h : Four n w x y x' y') (hb : Below w.heap.size w w') : Four n w' x y x' y' :=
 have l := cell_lt h.d0
 ⟨cell_later hb h.c0, cell_later hb h.c1, cell_later hb h.d0, cell_later hb h.d1, by rw [hb.frozen (p := ⟨n + 1, 0, none⟩) l]; exact h.f0, by rw [hb.frozen (p := ⟨n + 1, 1, none⟩) l]; exact h.f1⟩
end Go.Proofs.YtibhkijaafdkoaaGreatDoor

namespace Go.Proofs.YtibhkijaafdkoaaGreatDoor
open Go.RowKit
structure TwoB (b : Nat) (w : World) (x y : Value) : Prop where
 c0 : w.cell? ⟨b, 0, none⟩ = some x
 c1 : w.cell? ⟨b, 1, none⟩ = some y
 f0 : w.frozen? ⟨b, 0, none⟩ = false
 f1 : w.frozen? ⟨b, 1, none⟩ = false
theorem TwoB.lt {b : Nat} {w : World} {x y : Value} (h : TwoB b w x y) : b < w.heap.size := cell_lt h.c0
theorem TwoB.later {b : Nat} {w w' : World} {x y : Value} (h : TwoB b w x y) (hb : Below w.heap.size w w') : TwoB b w' x y :=
 ⟨cell_later hb h.c0, cell_later hb h.c1, by rw [hb.frozen (p := ⟨b, 0, none⟩) h.lt]; exact h.f0, by rw [hb.frozen (p := ⟨b, 1, none⟩) h.lt]; exact h.f1⟩
theorem twoB_new (w : World) (x y : Value) (t : TypeId) : TwoB w.heap.size (w.alloc (.cells #[x, y] t)) x y := ⟨by simp, by simp, by simp, by simp⟩
theorem frozen_setCell (w : World) (p a : Addr) (v : Value) : (w.setCell p v).frozen? a = w.frozen? a := by simp
theorem TwoB.set {b : Nat} {w : World} {x y : Value} (h : TwoB b w x y) (u v : Value) : TwoB b ((w.setCell ⟨b, 0, none⟩ u).setCell ⟨b, 1, none⟩ v) u v := by
 have h1 : (w.setCell ⟨b, 0, none⟩ u).cell? ⟨b, 1, none⟩ = some y := by rw [World.cell?_setCell_other _ _ _ _ (by simp)]; exact h.c1
 refine ⟨?_, World.cell?_setCell_same _ _ _ h1, ?_, ?_⟩
 · rw [World.cell?_setCell_other _ _ _ _ (by simp)]; exact World.cell?_setCell_same _ _ _ h.c0
 · rw [frozen_setCell, frozen_setCell]; exact h.f0
 · rw [frozen_setCell, frozen_setCell]; exact h.f1
theorem cell_far (w : World) (p a : Addr) (v : Value) (h : p.block ≠ a.block) : (w.setCell p v).cell? a = w.cell? a := World.cell?_of_block (Below.heap_setCell w p v a.block (Ne.symm h))
theorem TwoB.far {b c : Nat} {w : World} {x y : Value} (h : TwoB b w x y) (hbc : c ≠ b) (u v : Value) : TwoB b ((w.setCell ⟨c, 0, none⟩ u).setCell ⟨c, 1, none⟩ v) x y := by
 refine ⟨?_, ?_, ?_, ?_⟩
 · rw [cell_far _ _ _ _ hbc, cell_far _ _ _ _ hbc]; exact h.c0
 · rw [cell_far _ _ _ _ hbc, cell_far _ _ _ _ hbc]; exact h.c1
 · rw [frozen_setCell, frozen_setCell]; exact h.f0
 · rw [frozen_setCell, frozen_setCell]; exact h.f1
set_option maxRecDepth 100000 in
set_option maxHeartbeats 1000000 in
theorem last_ok (a : Option Addr) (cap : Nat) (ls : List (Int × Int)) (m : Int) (w : World) (hl : Lies w a ls) (h : okCurve ls) (hcap : ls.length ≤ cap) (hm : cap ≤ maxLen) (m0 : 0 ≤ m) (m1 : m ≤ 20020000) :
  Calls Tryz.prog 75 #[.slice a ls.length cap, .int .i64 m] w fun e w' => e = .returned (.agg #[.int .i64 (lastC m ls).1, .int .i64 (lastC m ls).2]) ∧ Below w.heap.size w w' := by
 obtain ⟨h1, h6, hok⟩ := h
 obtain ⟨b, off, rfl, hlt, hc⟩ := hl.some h1
 clear hl
 unfold maxLen at hm
 obtain ⟨x0, y0, r, rfl⟩ : ∃ x y r, ls = (x, y) :: r := by
  cases ls with
  | nil => simp at h1
  | cons p r => exact ⟨p.1, p.2, r, rfl⟩
 obtain ⟨n, hn⟩ : ∃ n, r.length = n := ⟨_, rfl⟩
 have Hn := (show Hid (r.length = n) from hn)
 have h6' : n ≤ 5 := by simp at h6; omega
 have hcap' : n + 1 ≤ cap := by simp at hcap; omega
 rw [show ((x0, y0) :: r).length = n + 1 by simp [hn]]
 clear h1 h6 hcap hn
 obtain ⟨⟨hx0, hy0⟩, hr⟩ := lies_tail hc
 have HR : Hid (∀ i x y, r[i]? = some (x, y) → w.cell? ⟨b, off + 2 + i * 2, none⟩ = some (.int .i64 x) ∧ w.cell? ⟨b, off + 2 + i * 2 + 1, none⟩ = some (.int .i64 y)) := hr
 have HO : Hid (okAll ((x0, y0) :: r)) := hok
 have HL : Hid (lastC m ((x0, y0) :: r) = lastOf m (x0, y0) r) := rfl
 clear hok hc hr
 -- the two blocks that the call makes first
 have hbA : Below w.heap.size w ((w.alloc (.cells #[.int .i64 0, .int .i64 0] 133)).alloc (.cells #[.int .i64 x0, .int .i64 y0] 133)) := ((Below.refl _ _).alloc (Nat.le_refl _) _).alloc (by simp) _
 have hRA : TwoB w.heap.size ((w.alloc (.cells #[.int .i64 0, .int .i64 0] 133)).alloc (.cells #[.int .i64 x0, .int .i64 y0] 133)) (.int .i64 0) (.int .i64 0) := (twoB_new w _ _ _).later ((Below.refl _ _).alloc (Nat.le_refl _) _)
 have hXA : TwoB (w.heap.size + 1) ((w.alloc (.cells #[.int .i64 0, .int .i64 0] 133)).alloc (.cells #[.int .i64 x0, .int .i64 y0] 133)) (.int .i64 x0) (.int .i64 y0) := by
  have := twoB_new (w.alloc (.cells #[.int .i64 0, .int .i64 0] 133)) (.int .i64 x0) (.int .i64 y0) 133
  simpa using this
 by_cases hc1 : cap = 1
 ·
  subst hc1
  obtain rfl : n = 0 := by omega
  have hr0 : r = [] := List.length_eq_zero_iff.1 Hn.out
  subst hr0
  clear HR Hn HO hbA hRA hXA
  go_enter Tryz.func75, Tryz.ntmps75
  go_wp2
  refine wp_loop_rounds 1 ?_
  rw [rounds_succ]
  go_wp2
  exact bodyPost_ret (v := .agg #[.int .i64 x0, .int .i64 y0]) (by simp [results, Tryz.results75, go_sem]) rfl ⟨rfl, ((Below.refl _ _).alloc (Nat.le_refl _) _).alloc (by simp) _⟩
 ·
  have hc2 : 1 < cap := by omega
  clear hc1
  go_enter Tryz.func75, Tryz.ntmps75
  go_wp2
  clear hx0 hy0
  generalize (w.alloc (.cells #[.int .i64 0, .int .i64 0] 133)).alloc (.cells #[.int .i64 x0, .int .i64 y0] 133) = W at *
  go_loopw [14] (fun i wr => ∃ k : Nat, k ≤ n ∧ i = .int .i64 k ∧ Below w.heap.size w wr ∧ TwoB w.heap.size wr (.int .i64 0) (.int .i64 0) ∧ TwoB (w.heap.size + 1) wr (.int .i64 (lastOf m (x0, y0) (r.take k)).1) (.int .i64 (lastOf m (x0, y0) (r.take k)).2)) (fun i _ => n - (intOf i).toNat)
  case atStart => exact ⟨0, Nat.zero_le _, rfl, hbA, hRA, hXA⟩
  case round =>
   obtain ⟨k, hk, rfl, hb, hR, hX⟩ := hrel
   clear hbA hRA hXA
   have HB : Hid (Below w.heap.size w wr) := hb
   have H0 : Hid (TwoB w.heap.size wr (.int .i64 0) (.int .i64 0)) := hR
   by_cases hkn : k < n
   ·
    obtain ⟨⟨x, y⟩, hp, hmem⟩ := get_some r k (by rw [Hn.out]; exact hkn)
    have q1 : wr.cell? ⟨b, off + 2 + k * 2, none⟩ = some (.int .i64 x) := by rw [hb.cell (p := ⟨b, off + 2 + k * 2, none⟩) hlt]; exact (HR.out k x y hp).1
    have q2 : wr.cell? ⟨b, off + 2 + k * 2 + 1, none⟩ = some (.int .i64 y) := by rw [hb.cell (p := ⟨b, off + 2 + k * 2 + 1, none⟩) hlt]; exact (HR.out k x y hp).2
    have hts : r.take (k + 1) = r.take k ++ [(x, y)] := by rw [List.take_add_one, hp]; rfl
    have HS : Hid (lastOf m (x0, y0) (r.take (k + 1)) = if laterB (x, y) (lastOf m (x0, y0) (r.take k)) m = true then (x, y) else lastOf m (x0, y0) (r.take k)) := by show _ = _; rw [hts]; exact lastOf_snoc _ _ _ _
    have hz : okLine (lastOf m (x0, y0) (r.take k)).1 (lastOf m (x0, y0) (r.take k)).2 = true := by
     rcases lastOf_mem m (r.take k) (x0, y0) with h | h
     · rw [h]; exact HO.out _ (List.mem_cons_self ..)
     · exact HO.out _ (List.mem_cons_of_mem _ (List.mem_of_mem_take h))
    obtain ⟨p1, p2, p3, p4⟩ := okLine_true (HO.out _ (List.mem_cons_of_mem _ hmem))
    obtain ⟨z1, z2, z3, z4⟩ := okLine_true hz
    generalize hZ : lastOf m (x0, y0) (r.take k) = Z at *
    have HZ : Hid (lastOf m (x0, y0) (r.take k) = Z) := hZ
    obtain ⟨X, Y⟩ := Z
    simp only [] at p1 p2 p3 p4 z1 z2 z3 z4 hX
    have HX : Hid (TwoB (w.heap.size + 1) wr (.int .i64 X) (.int .i64 Y)) := hX
    have hb1 : Below wr.heap.size wr (wr.alloc (.cells #[.int .i64 x, .int .i64 y] 133)) := (Below.refl _ _).alloc (Nat.le_refl _) _
    obtain ⟨g0, g1, _, _⟩ := hX.later hb1
    have HB1 : Hid (Below wr.heap.size wr (wr.alloc (.cells #[.int .i64 x, .int .i64 y] 133))) := hb1
    have HY : Hid (TwoB wr.heap.size (wr.alloc (.cells #[.int .i64 x, .int .i64 y] 133)) (.int .i64 x) (.int .i64 y)) := twoB_new wr _ _ _
    clear hts hp hmem hz hb hR hX hb1 hZ
    cases hlat : laterB (x, y) (X, Y) m with
    | true =>
     have HT : Hid (laterB (x, y) (X, Y) m = true) := hlat
     clear hlat
     go_wp2_with fail
     refine (isLater_any x y X Y m _ p1 p2 p3 p4 z1 z2 z3 z4 m0 m1).mono ?_
     rintro e w2 ⟨rfl, hb2⟩
     rw [HT.out]
     have HB2 : Hid (Below wr.heap.size wr w2) := HB1.out.trans (hb2.mono HB1.out.size)
     obtain ⟨y0', y1', _, _⟩ := HY.out.later hb2
     have hX2 := HX.out.later HB2.out
     obtain ⟨k0, k1, k2, k3⟩ := hX2
     have hs2 : w.heap.size ≤ w.heap.size + 1 := by omega
     clear hb2
     go_wp2_with fail
     go_roundw
     case rel =>
      refine ⟨k + 1, by omega, by go_num, ?_, ?_, ?_⟩
      · exact ((HB.out.trans (HB2.out.mono HB.out.size)).setCell hs2 _).setCell hs2 _
      · exact (H0.out.later HB2.out).far (by omega) _ _
      ·
       rw [HS.out, if_pos HT.out]
       exact (HX.out.later HB2.out).set _ _
     case measure => simp [intOf]; omega
    | false =>
     have HT : Hid (laterB (x, y) (X, Y) m = false) := hlat
     clear hlat
     go_wp2_with fail
     refine (isLater_any x y X Y m _ p1 p2 p3 p4 z1 z2 z3 z4 m0 m1).mono ?_
     rintro e w2 ⟨rfl, hb2⟩
     rw [HT.out]
     have HB2 : Hid (Below wr.heap.size wr w2) := HB1.out.trans (hb2.mono HB1.out.size)
     clear hb2
     go_wp2_with fail
     go_roundw
     case rel =>
      refine ⟨k + 1, by omega, by go_num, HB.out.trans (HB2.out.mono HB.out.size), H0.out.later HB2.out, ?_⟩
      rw [HS.out, if_neg (by rw [HT.out]; decide)]
      exact HX.out.later HB2.out
     case measure => simp [intOf]; omega
   ·
    have hk' : k = n := by omega
    subst hk'
    rw [List.take_of_length_le (by rw [Hn.out]; omega)] at hX
    have HF : Hid (lastC m ((x0, y0) :: r) = lastOf m (x0, y0) r) := rfl
    generalize lastOf m (x0, y0) r = Z at *
    obtain ⟨X, Y⟩ := Z
    simp only [] at hX
    obtain ⟨g0, g1, _, _⟩ := hX
    obtain ⟨j0, j1, j2, j3⟩ := hR
    clear hb
    go_wp2_with fail
    refine bodyPost_ret (v := .agg #[.int .i64 X, .int .i64 Y]) (by simp [results, Tryz.results75, go_sem, j0, j1]) rfl ⟨?_, (HB.out.setCell (Nat.le_refl _) _).setCell (Nat.le_refl _) _⟩
    rw [HF.out]
end Go.Proofs.YtibhkijaafdkoaaGreatDoor
