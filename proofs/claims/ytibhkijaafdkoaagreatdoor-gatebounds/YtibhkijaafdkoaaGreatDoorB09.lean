/- Own facts, put together: no statement of its own. -/
import Derived.Test.YtibhkijaafdkoaaGreatDoorB08
namespace Go.Proofs.YtibhkijaafdkoaaGreatDoor
open Go.RowKit Go.Extern.Stop Go.Stop Go.Extern
theorem Tryz.valueOfPP (t : Addr) (w : World) : (ReflectliteValue.unpack (.iface 135 (.pointer (some t)))).run Tryz.prog w
  = .ok (.agg #[.pointer (some ⟨10, 135, none⟩), .pointer (some ⟨w.heap.size, 0, none⟩), .int .u64 150]) (w.alloc (.cells #[.pointer (some t)] 135)) := by kernel_rfl
theorem Tryz.typePP (a : Addr) (w : World) : (ReflectliteValue.methodAny (ReflectliteValue.valueError "reflectlite.Value.Type" 0) (fun t _ _ _ => ReflectliteType.toType t) #[.agg #[.pointer (some ⟨10, 135, none⟩), .pointer (some a), .int .u64 150]]).run Tryz.prog w
  = .ok (.iface 207 (.agg #[.pointer (some ⟨10, 135, none⟩)])) w := by kernel_rfl
theorem Tryz.methodKind (h : Value) (w : World) : (Go.method 403 207 (.agg #[h]) "Kind").run Tryz.prog w = .ok (213, h) w := by kernel_rfl
theorem Tryz.kindPP (w : World) : ((ReflectliteType.abiMethod fun t => (fun a : Nat => Value.int IntKind.u8 (a : Int)) <$> Rtype.kind t) #[.pointer (some ⟨10, 135, none⟩)]).run Tryz.prog w = .ok (.int .u8 22) w := by kernel_rfl
theorem Tryz.kindP (w : World) : ((ReflectliteType.abiMethod fun t => (fun a : Nat => Value.int IntKind.u8 (a : Int)) <$> Rtype.kind t) #[.pointer (some ⟨10, 110, none⟩)]).run Tryz.prog w = .ok (.int .u8 22) w := by kernel_rfl
theorem rlm (z : Sem Value) (f : TypeId → Addr → Nat → Nat → Sem Value) (v : Value) :
  ReflectliteValue.method z f #[v] = (do match ← ReflectliteValue.parts v with | none => z | some (t, a, fl) => f t a fl (fl % 32)) := rfl
theorem Tryz.partsPP (a : Addr) (w : World) : (ReflectliteValue.parts (.agg #[.pointer (some ⟨10, 135, none⟩), .pointer (some a), .int .u64 150])).run Tryz.prog w = .ok (some (135, a, 150)) w := by kernel_rfl
theorem Tryz.isNilPP (a p : Addr) (W : World) (ha : W.cell? a = some (.pointer (some p))) :
  (ReflectliteValue.method (ReflectliteValue.valueError "reflectlite.Value.IsNil" 0) ReflectliteValue.isNil #[.agg #[.pointer (some ⟨10, 135, none⟩), .pointer (some a), .int .u64 150]]).run Tryz.prog W = .ok (.bool false) W := by
 rw [rlm]
 simp only [Sem.run_bind, Tryz.partsPP, Result.andThen]
 simp [ReflectliteValue.isNil, loadVar, isAgg, underlying, Tryz.underlying135, ha, Result.andThen]
theorem Tryz.methodElem (h : Value) (w : World) : (Go.method 403 207 (.agg #[h]) "Elem").run Tryz.prog w = .ok (228, .agg #[h]) w := by kernel_rfl
theorem Tryz.methodImplements (h : Value) (w : World) : (Go.method 403 207 (.agg #[h]) "Implements").run Tryz.prog w = .ok (229, .agg #[h]) w := by kernel_rfl
theorem Tryz.methodAssignableTo (h : Value) (w : World) : (Go.method 403 207 (.agg #[h]) "AssignableTo").run Tryz.prog w = .ok (226, .agg #[h]) w := by kernel_rfl
theorem Tryz.elemPP (w : World) : (ReflectliteType.method ReflectliteType.elem #[.agg #[.pointer (some ⟨10, 135, none⟩)]]).run Tryz.prog w = .ok (.iface 207 (.agg #[.pointer (some ⟨10, 110, none⟩)])) w := by kernel_rfl
theorem Tryz.implementsP (w : World) : (ReflectliteType.relation "Implements" ReflectliteType.implements_ #[.agg #[.pointer (some ⟨10, 110, none⟩)], .iface 207 (.agg #[.pointer (some ⟨10, 29, none⟩)])]).run Tryz.prog w = .ok (.bool true) w := by kernel_rfl
theorem Tryz.typeOfP (v : Value) (w : World) : (ReflectliteType.typeOf #[.iface 110 v]).run Tryz.prog w = .ok (.iface 207 (.agg #[.pointer (some ⟨10, 110, none⟩)])) w := by kernel_rfl
theorem Tryz.assignableP (w : World) : (ReflectliteType.relation "AssignableTo" ReflectliteType.assignableTo #[.agg #[.pointer (some ⟨10, 110, none⟩)], .iface 207 (.agg #[.pointer (some ⟨10, 110, none⟩)])]).run Tryz.prog w = .ok (.bool true) w := by kernel_rfl
theorem Tryz.assignableE (w : World) : (ReflectliteType.relation "AssignableTo" ReflectliteType.assignableTo #[.agg #[.pointer (some ⟨10, 271, none⟩)], .iface 207 (.agg #[.pointer (some ⟨10, 110, none⟩)])]).run Tryz.prog w = .ok (.bool false) w := by kernel_rfl
theorem Tryz.valueOfP (e : Addr) (w : World) : (ReflectliteValue.unpack (.iface 110 (.pointer (some e)))).run Tryz.prog w
  = .ok (.agg #[.pointer (some ⟨10, 110, none⟩), .pointer (some ⟨w.heap.size, 0, none⟩), .int .u64 150]) (w.alloc (.cells #[.pointer (some e)] 110)) := by kernel_rfl
theorem Tryz.elemOfPP (w : World) : (Rtype.elem? 135).run Tryz.prog w = .ok (some 110) w := by kernel_rfl
theorem Tryz.mkP (p : Addr) (w : World) : (ReflectliteValue.mk 110 p ReflectliteValue.flagAddr).run Tryz.prog w = .ok (.agg #[.pointer (some ⟨10, 110, none⟩), .pointer (some p), .int .u64 406]) w := by kernel_rfl
theorem Tryz.elemVPP (a p : Addr) (W : World) (ha : W.cell? a = some (.pointer (some p))) :
  (ReflectliteValue.method (ReflectliteValue.valueError "reflectlite.Value.Elem" 0) ReflectliteValue.elem #[.agg #[.pointer (some ⟨10, 135, none⟩), .pointer (some a), .int .u64 150]]).run Tryz.prog W
   = .ok (.agg #[.pointer (some ⟨10, 110, none⟩), .pointer (some p), .int .u64 406]) W := by
 rw [rlm]
 simp only [Sem.run_bind, Tryz.partsPP, Result.andThen]
 simp [ReflectliteValue.elem, loadVar, isAgg, underlying, Tryz.underlying135, ha, Result.andThen, Tryz.elemOfPP, Tryz.mkP]
theorem Tryz.partsPa (a : Addr) (w : World) : (ReflectliteValue.parts (.agg #[.pointer (some ⟨10, 110, none⟩), .pointer (some a), .int .u64 406])).run Tryz.prog w = .ok (some (110, a, 406)) w := by kernel_rfl
theorem Tryz.partsP (a : Addr) (w : World) : (ReflectliteValue.parts (.agg #[.pointer (some ⟨10, 110, none⟩), .pointer (some a), .int .u64 150])).run Tryz.prog w = .ok (some (110, a, 150)) w := by kernel_rfl
theorem Tryz.directP (w : World) : (Rtype.directlyAssignable 110 110).run Tryz.prog w = .ok true w := by kernel_rfl
theorem Tryz.setP (ta b e : Addr) (old : Value) (W : World) (hb : W.cell? b = some (.pointer (some e))) (ht : W.cell? ta = some old) (hf : W.frozen? ta = false) :
  (ReflectliteValue.set #[.agg #[.pointer (some ⟨10, 110, none⟩), .pointer (some ta), .int .u64 406], .agg #[.pointer (some ⟨10, 110, none⟩), .pointer (some b), .int .u64 150]]).run Tryz.prog W
   = .ok (.tuple #[]) (W.setCell ta (.pointer (some e))) := by
 change Sem.run Tryz.prog (ReflectliteValue.parts (.agg #[.pointer (some ⟨10, 110, none⟩), .pointer (some ta), .int .u64 406]) >>= fun _ => ReflectliteValue.parts (.agg #[.pointer (some ⟨10, 110, none⟩), .pointer (some b), .int .u64 150]) >>= _) W = _
 simp only [Sem.run_bind, Tryz.partsPa, Tryz.partsP, Result.andThen]
 simp [ReflectliteValue.flagAddr, loadVar, isAgg, underlying, Tryz.underlying110, hb, Result.andThen, Tryz.directP, storeVar, Value.cells, storeCells, Addr.add]
 rw [run_store Tryz.prog W ta _ _ (by rfl)]
 simp [ht, hf]
set_option maxHeartbeats 4000000 in
theorem as_hit (e t : Addr) (old : Value) (w : World) (hg : w.cell? ⟨9, 0, none⟩ = some (.iface 207 (.agg #[.pointer (some ⟨10, 29, none⟩)]))) (ht0 : w.cell? t = some old) (hf0 : w.frozen? t = false) :
  Calls Tryz.prog 70 #[.iface 110 (.pointer (some e)), .iface 135 (.pointer (some t))] w fun ev w' => ev = .returned (.bool true) ∧ w' = ((((w.alloc (.cells #[.pointer (some t)] 135)).alloc (.cells #[.pointer (some ⟨10, 135, none⟩), .pointer (some ⟨w.heap.size, 0, none⟩), .int .u64 150] 181)).alloc (.cells #[.pointer (some ⟨10, 135, none⟩), .pointer (some ⟨w.heap.size, 0, none⟩), .int .u64 150] 181)).alloc (.cells #[.pointer (some e)] 110)).setCell t (.pointer (some e)) := by
 have h6 := @run_callFunc_extern Tryz.prog 114 _ (fun args => ReflectliteValue.unpack (args.getD 0 (.tuple #[]))) Tryz.func114 (by kernel_rfl) (by kernel_rfl) (by kernel_rfl) (by kernel_rfl)
 have h7 := @run_callFunc_extern Tryz.prog 115 _ (ReflectliteValue.methodAny (ReflectliteValue.valueError "reflectlite.Value.Type" 0) (fun t _ _ _ => ReflectliteType.toType t)) Tryz.func115 (by kernel_rfl) (by kernel_rfl) (by kernel_rfl) (by kernel_rfl)
 have h8 := @run_callFunc_extern Tryz.prog 116 _ (ReflectliteValue.method (ReflectliteValue.valueError "reflectlite.Value.IsNil" 0) ReflectliteValue.isNil) Tryz.func116 (by kernel_rfl) (by kernel_rfl) (by kernel_rfl) (by kernel_rfl)
 have h27 := @run_callFunc_extern Tryz.prog 213 _ (ReflectliteType.abiMethod fun t => do pure (.int .u8 (← Rtype.kind t))) Tryz.func213 (by kernel_rfl) (by kernel_rfl) (by kernel_rfl) (by kernel_rfl)
 have h37 := @run_callFunc_extern Tryz.prog 228 _ (ReflectliteType.method ReflectliteType.elem) Tryz.func228 (by kernel_rfl) (by kernel_rfl) (by kernel_rfl) (by kernel_rfl)
 have h38 := @run_callFunc_extern Tryz.prog 229 _ (ReflectliteType.relation "Implements" ReflectliteType.implements_) Tryz.func229 (by kernel_rfl) (by kernel_rfl) (by kernel_rfl) (by kernel_rfl)
 have h10 := @run_callFunc_extern Tryz.prog 118 _ ReflectliteType.typeOf Tryz.func118 (by kernel_rfl) (by kernel_rfl) (by kernel_rfl) (by kernel_rfl)
 have h35 := @run_callFunc_extern Tryz.prog 226 _ (ReflectliteType.relation "AssignableTo" ReflectliteType.assignableTo) Tryz.func226 (by kernel_rfl) (by kernel_rfl) (by kernel_rfl) (by kernel_rfl)
 have h11 := @run_callFunc_extern Tryz.prog 146 _ (ReflectliteValue.method (ReflectliteValue.valueError "reflectlite.Value.Elem" 0) ReflectliteValue.elem) Tryz.func146 (by kernel_rfl) (by kernel_rfl) (by kernel_rfl) (by kernel_rfl)
 have h12 := @run_callFunc_extern Tryz.prog 147 _ ReflectliteValue.set Tryz.func147 (by kernel_rfl) (by kernel_rfl) (by kernel_rfl) (by kernel_rfl)
 have tO := Tryz.typeOfP
 have mA := Tryz.methodAssignableTo
 have a25 := Tryz.assignableP
 have v25 := Tryz.valueOfP
 have f6 := Tryz.valueOfPP
 have f7 := Tryz.typePP
 have mK := Tryz.methodKind
 have mE := Tryz.methodElem
 have mI := Tryz.methodImplements
 have k27 := Tryz.kindPP
 have k25 := Tryz.kindP
 have e27 := Tryz.elemPP
 have i25 := Tryz.implementsP
 have n8 := Tryz.isNilPP ⟨w.heap.size, 0, none⟩ t ((w.alloc (.cells #[.pointer (some t)] 135)).alloc (.cells #[.pointer (some ⟨10, 135, none⟩), .pointer (some ⟨w.heap.size, 0, none⟩), .int .u64 150] 181)) (by simp)
 have hlt : 9 < w.heap.size := by
  rcases Nat.lt_or_ge 9 w.heap.size with h | h
  · exact h
  · simp [World.cell?, Array.getElem?_eq_none h] at hg
 have hg2 : ((w.alloc (.cells #[.pointer (some t)] 135)).alloc (.cells #[.pointer (some ⟨10, 135, none⟩), .pointer (some ⟨w.heap.size, 0, none⟩), .int .u64 150] 181)).cell? ⟨9, 0, none⟩ = some (.iface 207 (.agg #[.pointer (some ⟨10, 29, none⟩)])) := by
  rw [World.cell?_alloc_lt _ _ ⟨9, 0, none⟩ (Nat.lt_of_lt_of_le hlt (by simp)), World.cell?_alloc_lt _ _ ⟨9, 0, none⟩ hlt]; exact hg
 have htl : t.block < w.heap.size := by
  rcases Nat.lt_or_ge t.block w.heap.size with h | h
  · exact h
  · simp [World.cell?, Array.getElem?_eq_none h] at ht0
 have el := Tryz.elemVPP ⟨w.heap.size, 0, none⟩ t (((w.alloc (.cells #[.pointer (some t)] 135)).alloc (.cells #[.pointer (some ⟨10, 135, none⟩), .pointer (some ⟨w.heap.size, 0, none⟩), .int .u64 150] 181)).alloc (.cells #[.pointer (some ⟨10, 135, none⟩), .pointer (some ⟨w.heap.size, 0, none⟩), .int .u64 150] 181)) (by rw [World.cell?_alloc_lt _ _ ⟨w.heap.size, 0, none⟩ (by simp; omega)]; simp)
 have st := Tryz.setP t ⟨w.heap.size + 1 + 1 + 1, 0, none⟩ e old ((((w.alloc (.cells #[.pointer (some t)] 135)).alloc (.cells #[.pointer (some ⟨10, 135, none⟩), .pointer (some ⟨w.heap.size, 0, none⟩), .int .u64 150] 181)).alloc (.cells #[.pointer (some ⟨10, 135, none⟩), .pointer (some ⟨w.heap.size, 0, none⟩), .int .u64 150] 181)).alloc (.cells #[.pointer (some e)] 110))
  (by rw [World.cell?_alloc_at _ _ _ _ (by simp)]; rfl)
  (by rw [World.cell?_alloc_lt _ _ t (by simp; omega), World.cell?_alloc_lt _ _ t (by simp; omega), World.cell?_alloc_lt _ _ t (by simp; omega), World.cell?_alloc_lt _ _ t htl]; exact ht0)
  (by rw [World.frozen?_alloc_old _ _ t (by simp; omega), World.frozen?_alloc_old _ _ t (by simp; omega), World.frozen?_alloc_old _ _ t (by simp; omega), World.frozen?_alloc_old _ _ t (Nat.ne_of_lt htl)]; exact hf0)
 go_enter Tryz.func70, Tryz.ntmps70
 go_wp2
 refine wp_loop_rounds 1 ?_
 rw [rounds_succ]
 go_wp2
 go_ret
 exact ⟨rfl, rfl⟩
set_option maxHeartbeats 4000000 in
theorem as_miss (e t : Addr) (w : World) (hg : w.cell? ⟨9, 0, none⟩ = some (.iface 207 (.agg #[.pointer (some ⟨10, 29, none⟩)]))) :
  Calls Tryz.prog 70 #[.iface 271 (.pointer (some e)), .iface 135 (.pointer (some t))] w fun ev w' => ev = .returned (.bool false) ∧ w' = (((w.alloc (.cells #[.pointer (some t)] 135)).alloc (.cells #[.pointer (some ⟨10, 135, none⟩), .pointer (some ⟨w.heap.size, 0, none⟩), .int .u64 150] 181)).alloc (.cells #[.pointer (some ⟨10, 135, none⟩), .pointer (some ⟨w.heap.size, 0, none⟩), .int .u64 150] 181)) := by
 have h6 := @run_callFunc_extern Tryz.prog 114 _ (fun args => ReflectliteValue.unpack (args.getD 0 (.tuple #[]))) Tryz.func114 (by kernel_rfl) (by kernel_rfl) (by kernel_rfl) (by kernel_rfl)
 have h7 := @run_callFunc_extern Tryz.prog 115 _ (ReflectliteValue.methodAny (ReflectliteValue.valueError "reflectlite.Value.Type" 0) (fun t _ _ _ => ReflectliteType.toType t)) Tryz.func115 (by kernel_rfl) (by kernel_rfl) (by kernel_rfl) (by kernel_rfl)
 have h8 := @run_callFunc_extern Tryz.prog 116 _ (ReflectliteValue.method (ReflectliteValue.valueError "reflectlite.Value.IsNil" 0) ReflectliteValue.isNil) Tryz.func116 (by kernel_rfl) (by kernel_rfl) (by kernel_rfl) (by kernel_rfl)
 have h27 := @run_callFunc_extern Tryz.prog 213 _ (ReflectliteType.abiMethod fun t => do pure (.int .u8 (← Rtype.kind t))) Tryz.func213 (by kernel_rfl) (by kernel_rfl) (by kernel_rfl) (by kernel_rfl)
 have h37 := @run_callFunc_extern Tryz.prog 228 _ (ReflectliteType.method ReflectliteType.elem) Tryz.func228 (by kernel_rfl) (by kernel_rfl) (by kernel_rfl) (by kernel_rfl)
 have h38 := @run_callFunc_extern Tryz.prog 229 _ (ReflectliteType.relation "Implements" ReflectliteType.implements_) Tryz.func229 (by kernel_rfl) (by kernel_rfl) (by kernel_rfl) (by kernel_rfl)
 have h10 := @run_callFunc_extern Tryz.prog 118 _ ReflectliteType.typeOf Tryz.func118 (by kernel_rfl) (by kernel_rfl) (by kernel_rfl) (by kernel_rfl)
 have h35 := @run_callFunc_extern Tryz.prog 226 _ (ReflectliteType.relation "AssignableTo" ReflectliteType.assignableTo) Tryz.func226 (by kernel_rfl) (by kernel_rfl) (by kernel_rfl) (by kernel_rfl)
 have tO := Tryz.isTypeOf
 have mA := Tryz.methodAssignableTo
 have a25 := Tryz.assignableE
 have f6 := Tryz.valueOfPP
 have f7 := Tryz.typePP
 have mK := Tryz.methodKind
 have mE := Tryz.methodElem
 have mI := Tryz.methodImplements
 have k27 := Tryz.kindPP
 have k25 := Tryz.kindP
 have e27 := Tryz.elemPP
 have i25 := Tryz.implementsP
 have nE := Tryz.noAsE
 have uE := Tryz.noUnwrapE
 have vE := Tryz.noUnwrapsE
 have n8 := Tryz.isNilPP ⟨w.heap.size, 0, none⟩ t ((w.alloc (.cells #[.pointer (some t)] 135)).alloc (.cells #[.pointer (some ⟨10, 135, none⟩), .pointer (some ⟨w.heap.size, 0, none⟩), .int .u64 150] 181)) (by simp)
 have hlt : 9 < w.heap.size := by
  rcases Nat.lt_or_ge 9 w.heap.size with h | h
  · exact h
  · simp [World.cell?, Array.getElem?_eq_none h] at hg
 have hg2 : ((w.alloc (.cells #[.pointer (some t)] 135)).alloc (.cells #[.pointer (some ⟨10, 135, none⟩), .pointer (some ⟨w.heap.size, 0, none⟩), .int .u64 150] 181)).cell? ⟨9, 0, none⟩ = some (.iface 207 (.agg #[.pointer (some ⟨10, 29, none⟩)])) := by
  rw [World.cell?_alloc_lt _ _ ⟨9, 0, none⟩ (Nat.lt_of_lt_of_le hlt (by simp)), World.cell?_alloc_lt _ _ ⟨9, 0, none⟩ hlt]; exact hg
 go_enter Tryz.func70, Tryz.ntmps70
 go_wp2
 refine wp_loop_rounds 1 ?_
 rw [rounds_succ]
 go_wp2
 go_ret
 exact ⟨rfl, rfl⟩
end Go.Proofs.YtibhkijaafdkoaaGreatDoor

namespace Go.Proofs.YtibhkijaafdkoaaGreatDoor
open Go.RowKit Go.Extern.Stop Go.Stop Go.Extern
structure Errs9 (w : World) (ad : Nat → Addr) : Prop where
 typ : w.cell? ⟨9, 0, none⟩ = some (.iface 207 (.agg #[.pointer (some ⟨10, 29, none⟩)]))
 c0 : w.cell? ⟨2, 0, none⟩ = some (.iface 271 (.pointer (some (ad 0))))
 c1 : w.cell? ⟨3, 0, none⟩ = some (.iface 271 (.pointer (some (ad 1))))
 c2 : w.cell? ⟨4, 0, none⟩ = some (.iface 271 (.pointer (some (ad 2))))
 c3 : w.cell? ⟨0, 0, none⟩ = some (.iface 271 (.pointer (some (ad 3))))
 c4 : w.cell? ⟨5, 0, none⟩ = some (.iface 271 (.pointer (some (ad 4))))
 c5 : w.cell? ⟨6, 0, none⟩ = some (.iface 271 (.pointer (some (ad 5))))
 c6 : w.cell? ⟨7, 0, none⟩ = some (.iface 271 (.pointer (some (ad 6))))
 c7 : w.cell? ⟨8, 0, none⟩ = some (.iface 271 (.pointer (some (ad 7))))
 c8 : w.cell? ⟨1, 0, none⟩ = some (.iface 271 (.pointer (some (ad 8))))
 ne : ∀ i j, i < 9 → j < 9 → i ≠ j → ad i ≠ ad j
 blk : ∀ i, i < 9 → ∃ c t, w.heap[(ad i).block]? = some (.cells c t (0, 0))
theorem block_later {w w' : World} {b : Nat} {o : Obj} (hb : Below w.heap.size w w') (h : w.heap[b]? = some o) : w'.heap[b]? = some o := by
 rw [hb.block b ?_]; exact h
 rcases Nat.lt_or_ge b w.heap.size with h' | h'
 · exact h'
 · simp [Array.getElem?_eq_none h'] at h
theorem Errs9.below {w w' : World} {ad : Nat → Addr} (h : Errs9 w ad) (hb : Below w.heap.size w w') : Errs9 w' ad :=
 ⟨cell_later hb h.typ, cell_later hb h.c0, cell_later hb h.c1, cell_later hb h.c2, cell_later hb h.c3, cell_later hb h.c4, cell_later hb h.c5, cell_later hb h.c6, cell_later hb h.c7, cell_later hb h.c8, h.ne, fun i hi => by
  obtain ⟨c, t, e⟩ := h.blk i hi; exact ⟨c, t, block_later hb e⟩⟩
abbrev nine (ad : Nat → Addr) : Array Value := #[.iface 271 (.pointer (some (ad 0))), .iface 271 (.pointer (some (ad 1))), .iface 271 (.pointer (some (ad 2))), .iface 271 (.pointer (some (ad 3))), .iface 271 (.pointer (some (ad 4))), .iface 271 (.pointer (some (ad 5))), .iface 271 (.pointer (some (ad 6))), .iface 271 (.pointer (some (ad 7))), .iface 271 (.pointer (some (ad 8)))]
theorem nine_at (ad : Nat → Addr) (w : World) (k : Nat) (hk : k < 9) : (w.alloc (.cells (nine ad) 29)).cell? ⟨w.heap.size, k, none⟩ = some (.iface 271 (.pointer (some (ad k)))) := by
 rw [World.cell?_alloc_at _ _ _ _ rfl]
 match k, hk with
 | 0, _ => rfl
 | 1, _ => rfl
 | 2, _ => rfl
 | 3, _ => rfl
 | 4, _ => rfl
 | 5, _ => rfl
 | 6, _ => rfl
 | 7, _ => rfl
 | 8, _ => rfl
 | k + 9, h => omega
theorem set_at (w : World) (o1 o2 o3 o4 : Obj) (v : Value) : (((((w.alloc (.cells #[.pointer none] 110)).alloc o1).alloc o2).alloc o3).alloc o4 |>.setCell ⟨w.heap.size, 0, none⟩ v).cell? ⟨w.heap.size, 0, none⟩ = some v :=
 World.cell?_setCell_same _ _ _ (u := .pointer none) (by
  rw [World.cell?_alloc_lt _ _ ⟨w.heap.size, 0, none⟩ (by simp; omega), World.cell?_alloc_lt _ _ ⟨w.heap.size, 0, none⟩ (by simp; omega), World.cell?_alloc_lt _ _ ⟨w.heap.size, 0, none⟩ (by simp; omega), World.cell?_alloc_lt _ _ ⟨w.heap.size, 0, none⟩ (by simp), World.cell?_alloc_at _ _ _ _ rfl]; rfl)
theorem code_nil (w : World) : Calls Tryz.prog 41 #[.nilIface] w fun e w' => e = .returned (.tuple #[.int .i64 0, .int .i64 (-1)]) ∧ w' = w := by
 go_enter Tryz.func41, Tryz.ntmps41
 go_wp2
 go_ret2
 exact ⟨rfl, rfl⟩
set_option maxHeartbeats 1000000 in
theorem code_sent (ad : Nat → Addr) (k : Nat) (hk : k < 9) (w : World) (he : Errs9 w ad) :
  Calls Tryz.prog 41 #[.iface 271 (.pointer (some (ad k)))] w fun e w' => e = .returned (.tuple #[.int .i64 (k + 1), .int .i64 (-1)]) ∧ Below w.heap.size w w' := by
 have hb0 : Below w.heap.size w (w.alloc (.cells #[.pointer none] 110)) := (Below.refl _ _).alloc (Nat.le_refl _) _
 have HE : Hid (Errs9 w ad) := he
 have HB0 : Hid (Below w.heap.size w (w.alloc (.cells #[.pointer none] 110))) := hb0
 clear he hb0
 go_enter Tryz.func41, Tryz.ntmps41
 go_wp2_with fail
 refine (as_miss (ad k) _ _ (HE.out.below HB0.out).typ).mono ?_
 rintro e w1 ⟨rfl, hw1⟩
 have hb1 : Below w.heap.size w w1 := by
  rw [hw1]
  exact ((HB0.out.alloc (by simp) _).alloc (by simp; omega) _).alloc (by simp; omega) _
 have HB1 : Hid (Below w.heap.size w w1) := hb1
 have he1 := HE.out.below hb1
 have h0 := he1.c0
 have h1 := he1.c1
 have h2 := he1.c2
 have h3 := he1.c3
 have h4 := he1.c4
 have h5 := he1.c5
 have h6 := he1.c6
 have h7 := he1.c7
 have h8 := he1.c8
 have HE1 : Hid (Errs9 w1 ad) := he1
 clear hw1 hb1 he1
 go_wp2_with fail
 clear h0 h1 h2 h3 h4 h5 h6 h7 h8
 have hcell := nine_at ad w1
 have hb2 : Below w.heap.size w (w1.alloc (.cells (nine ad) 29)) := HB1.out.alloc HB1.out.size _
 have he2 : Errs9 (w1.alloc (.cells (nine ad) 29)) ad := HE1.out.below ((Below.refl _ _).alloc (Nat.le_refl _) _)
 generalize w1.alloc (.cells (nine ad) 29) = W2 at *
 have HC : Hid (∀ j, j < 9 → W2.cell? ⟨w1.heap.size, j, none⟩ = some (.iface 271 (.pointer (some (ad j))))) := hcell
 have HB2 : Hid (Below w.heap.size w W2) := hb2
 have HE2 : Hid (Errs9 W2 ad) := he2
 clear hcell hb2 he2
 go_loop [3, 27] (fun s i => s = .int .i64 (-1) ∧ ∃ j : Nat, j ≤ k ∧ i = .int .i64 j) (fun _ i => 9 - (intOf i).toNat)
 case atStart => exact ⟨rfl, 0, Nat.zero_le _, rfl⟩
 case round =>
  obtain ⟨rfl, j, hj, rfl⟩ := hrel
  have hc := HC.out j (by omega)
  by_cases hjk : j < k
  ·
   obtain ⟨ca, ta, ba⟩ := HE2.out.blk k hk
   obtain ⟨cb, tb, bb⟩ := HE2.out.blk j (by omega)
   have HI : Hid (Calls Tryz.prog 71 #[.iface 271 (.pointer (some (ad k))), .iface 271 (.pointer (some (ad j)))] W2 fun e w' => e = .returned (.bool false) ∧ w' = W2) := is_other (ad k) (ad j) ca cb ta tb W2 (HE2.out.ne k j hk (by omega) (by omega)) ba bb
   clear ba bb
   go_wp2_with (go_at_call 71; refine HI.out.mono ?_; rintro e w' ⟨rfl, rfl⟩)
   go_round
   case rel => exact ⟨rfl, j + 1, by omega, by go_num⟩
   case measure => simp [intOf]; omega
  ·
   obtain rfl : j = k := by omega
   go_wp2_with (go_at_call 71; refine (is_same (ad j) _).mono ?_; rintro e w' ⟨rfl, rfl⟩)
   go_ret2
   exact ⟨rfl, HB2.out⟩
set_option maxHeartbeats 1000000 in
theorem code_fault (ad : Nat → Addr) (k : Nat) (hk : k < 9) (n : Int) (pb : Nat) (w : World) (he : Errs9 w ad) (hp0 : w.cell? ⟨pb, 0, none⟩ = some (.int .i64 n)) (hp1 : w.cell? ⟨pb, 1, none⟩ = some (.iface 271 (.pointer (some (ad k))))) :
  Calls Tryz.prog 41 #[.iface 110 (.pointer (some ⟨pb, 0, none⟩))] w fun e w' => e = .returned (.tuple #[.int .i64 (k + 1), .int .i64 n]) ∧ Below w.heap.size w w' := by
 have hb0 : Below w.heap.size w (w.alloc (.cells #[.pointer none] 110)) := (Below.refl _ _).alloc (Nat.le_refl _) _
 have HE : Hid (Errs9 w ad) := he
 have HB0 : Hid (Below w.heap.size w (w.alloc (.cells #[.pointer none] 110))) := hb0
 have HP0 : Hid (w.cell? ⟨pb, 0, none⟩ = some (.int .i64 n)) := hp0
 have HP1 : Hid (w.cell? ⟨pb, 1, none⟩ = some (.iface 271 (.pointer (some (ad k))))) := hp1
 clear he hb0 hp0 hp1
 go_enter Tryz.func41, Tryz.ntmps41
 go_wp2_with fail
 refine (as_hit ⟨pb, 0, none⟩ ⟨w.heap.size, 0, none⟩ (.pointer none) _ (HE.out.below HB0.out).typ (by simp) (by simp)).mono ?_
 rintro e w1 ⟨rfl, hw1⟩
 have hb1 : Below w.heap.size w w1 := by
  rw [hw1]
  exact ((((HB0.out.alloc (by simp) _).alloc (by simp; omega) _).alloc (by simp; omega) _).alloc (by simp; omega) _).setCell (Nat.le_refl _) _
 have ht1 : w1.cell? ⟨w.heap.size, 0, none⟩ = some (.pointer (some ⟨pb, 0, none⟩)) := by
  rw [hw1]
  exact set_at w _ _ _ _ _
 have HB1 : Hid (Below w.heap.size w w1) := hb1
 have he1 := HE.out.below hb1
 have hq0 : w1.cell? ⟨pb, 0, none⟩ = some (.int .i64 n) := cell_later hb1 HP0.out
 have h0 := he1.c0
 have h1 := he1.c1
 have h2 := he1.c2
 have h3 := he1.c3
 have h4 := he1.c4
 have h5 := he1.c5
 have h6 := he1.c6
 have h7 := he1.c7
 have h8 := he1.c8
 have HE1 : Hid (Errs9 w1 ad) := he1
 clear hw1 hb1 he1
 go_wp2_with fail
 clear ht1 hq0 h0 h1 h2 h3 h4 h5 h6 h7 h8
 have hcell := nine_at ad w1
 have hb2 : Below w.heap.size w (w1.alloc (.cells (nine ad) 29)) := HB1.out.alloc HB1.out.size _
 have he2 : Errs9 (w1.alloc (.cells (nine ad) 29)) ad := HE1.out.below ((Below.refl _ _).alloc (Nat.le_refl _) _)
 generalize w1.alloc (.cells (nine ad) 29) = W2 at *
 have HC : Hid (∀ j, j < 9 → W2.cell? ⟨w1.heap.size, j, none⟩ = some (.iface 271 (.pointer (some (ad j))))) := hcell
 have HB2 : Hid (Below w.heap.size w W2) := hb2
 have HP2 : Hid (W2.cell? ⟨pb, 1, none⟩ = some (.iface 271 (.pointer (some (ad k))))) := cell_later hb2 HP1.out
 have HE2 : Hid (Errs9 W2 ad) := he2
 clear hcell hb2 he2
 go_loop [3, 27] (fun s i => s = .int .i64 n ∧ ∃ j : Nat, j ≤ k ∧ i = .int .i64 j) (fun _ i => 9 - (intOf i).toNat)
 case atStart => exact ⟨rfl, 0, Nat.zero_le _, rfl⟩
 case round =>
  obtain ⟨rfl, j, hj, rfl⟩ := hrel
  have hc := HC.out j (by omega)
  by_cases hjk : j < k
  ·
   obtain ⟨ca, ta, ba⟩ := HE2.out.blk k hk
   obtain ⟨cb, tb, bb⟩ := HE2.out.blk j (by omega)
   have HI : Hid (Calls Tryz.prog 71 #[.iface 110 (.pointer (some ⟨pb, 0, none⟩)), .iface 271 (.pointer (some (ad j)))] W2 fun e w' => e = .returned (.bool false) ∧ w' = W2) := is_fault_other pb (ad j) (ad k) ca cb ta tb W2 HP2.out (HE2.out.ne k j hk (by omega) (by omega)) ba bb
   clear ba bb
   go_wp2_with (go_at_call 71; refine HI.out.mono ?_; rintro e w' ⟨rfl, rfl⟩)
   go_round
   case rel => exact ⟨rfl, j + 1, by omega, by go_num⟩
   case measure => simp [intOf]; omega
  ·
   obtain rfl : j = k := by omega
   go_wp2_with (go_at_call 71; refine (is_fault_same pb (ad j) _ HP2.out).mono ?_; rintro e w' ⟨rfl, rfl⟩)
   go_ret2
   exact ⟨rfl, HB2.out⟩
end Go.Proofs.YtibhkijaafdkoaaGreatDoor

namespace Go.Proofs.YtibhkijaafdkoaaGreatDoor
open Go.RowKit
def CodeIs (w0 : World) (E : Value) (c a : Int) : Prop :=
 ∀ w, Below w0.heap.size w0 w → Calls Tryz.prog 41 #[E] w fun e w' => e = .returned (.tuple #[.int .i64 c, .int .i64 a]) ∧ Below w.heap.size w w'
theorem CodeIs.below {w w' : World} {E : Value} {c a : Int} (h : CodeIs w E c a) (hb : Below w.heap.size w w') : CodeIs w' E c a :=
 fun _ hb' => h _ (hb.trans (hb'.mono hb.size))
theorem codeIs_nil (w : World) : CodeIs w .nilIface 0 (-1) := fun w _ => (code_nil w).mono fun _ _ h => ⟨h.1, by rw [h.2]; exact Below.refl _ _⟩
theorem codeIs_sent {w : World} {ad : Nat → Addr} (he : Errs9 w ad) (k : Nat) (hk : k < 9) : CodeIs w (.iface 271 (.pointer (some (ad k)))) (k + 1) (-1) :=
 fun w' hb => code_sent ad k hk w' (he.below hb)
theorem codeIs_fault {w : World} {ad : Nat → Addr} (he : Errs9 w ad) (k : Nat) (hk : k < 9) (n : Int) (pb : Nat) (h0 : w.cell? ⟨pb, 0, none⟩ = some (.int .i64 n)) (h1 : w.cell? ⟨pb, 1, none⟩ = some (.iface 271 (.pointer (some (ad k))))) :
  CodeIs w (.iface 110 (.pointer (some ⟨pb, 0, none⟩))) (k + 1) n :=
 fun w' hb => code_fault ad k hk n pb w' (he.below hb) (cell_later hb h0) (cell_later hb h1)
structure ErrIs (w : World) (E : Value) (c p : Int) : Prop where
 code : CodeIs w E c p
 none_ : c = 0 → E = .nilIface
 some_ : c ≠ 0 → ∃ ty v, E = .iface ty v
theorem ErrIs.below {w w' : World} {E : Value} {c p : Int} (h : ErrIs w E c p) (hb : Below w.heap.size w w') : ErrIs w' E c p := ⟨h.code.below hb, h.none_, h.some_⟩
theorem errIs_nil (w : World) : ErrIs w .nilIface 0 (-1) := ⟨codeIs_nil w, fun _ => rfl, fun h => absurd rfl h⟩
theorem errIs_sent {w : World} {ad : Nat → Addr} (he : Errs9 w ad) (k : Nat) (hk : k < 9) : ErrIs w (.iface 271 (.pointer (some (ad k)))) (k + 1) (-1) := ⟨codeIs_sent he k hk, fun h => by omega, fun _ => ⟨_, _, rfl⟩⟩
end Go.Proofs.YtibhkijaafdkoaaGreatDoor

namespace Go.Proofs.YtibhkijaafdkoaaGreatDoor
open Go.RowKit
theorem faulted_yes (E : Value) (code at_ : Int) (w : World) (h : CodeIs w E code at_) :
  Calls Tryz.prog 14 #[E, .agg #[.int .i64 code, .int .i64 at_]] w fun e w' => e = .returned (.bool true) ∧ Below w.heap.size w w' := by
 have hb0 : Below w.heap.size w (w.alloc (.cells #[.int .i64 code, .int .i64 at_] 35)) := (Below.refl _ _).alloc (Nat.le_refl _) _
 have HC := (show Hid (Calls Tryz.prog 41 #[E] (w.alloc (.cells #[.int .i64 code, .int .i64 at_] 35)) fun e w' => e = .returned (.tuple #[.int .i64 code, .int .i64 at_]) ∧ Below (w.alloc (.cells #[.int .i64 code, .int .i64 at_] 35)).heap.size (w.alloc (.cells #[.int .i64 code, .int .i64 at_] 35)) w') from h _ hb0)
 clear h hb0
 by_cases hz : code = 0
 ·
  subst hz
  go_enter Tryz.func14, Tryz.ntmps14
  go_wp2_with fail
  refine HC.out.mono ?_
  rintro e w1 ⟨rfl, hb⟩
  have HB : Hid (Below w.heap.size w w1) := ((Below.refl _ _).alloc (Nat.le_refl _) _).trans (hb.mono (by simp))
  have c0 : w1.cell? ⟨w.heap.size, 0, none⟩ = some (.int .i64 0) := cell_later hb (by simp)
  clear hb
  go_wp2_with fail
  go_ret
  exact ⟨rfl, HB.out⟩
 ·
  have hz' : (code == 0) = false := by simpa using hz
  go_enter Tryz.func14, Tryz.ntmps14
  go_wp2_with fail
  refine HC.out.mono ?_
  rintro e w1 ⟨rfl, hb⟩
  have HB : Hid (Below w.heap.size w w1) := ((Below.refl _ _).alloc (Nat.le_refl _) _).trans (hb.mono (by simp))
  have c0 : w1.cell? ⟨w.heap.size, 0, none⟩ = some (.int .i64 code) := cell_later hb (by simp)
  have c1 : w1.cell? ⟨w.heap.size, 1, none⟩ = some (.int .i64 at_) := cell_later hb (by simp)
  clear hb
  go_wp2_with fail
  go_ret
  exact ⟨rfl, HB.out⟩
end Go.Proofs.YtibhkijaafdkoaaGreatDoor
