/- Own facts, put together: no statement of its own. -/
import Derived.Test.YtipdclphpkgceaaGreatDoorS02
import Derived.Test.YtipdclphpkgceaaGreatDoorS01
import Derived.WalkKit
import Derived.WalkSpells
import Derived.WalkLawsBesides
import Derived.BigQuiet
set_option maxHeartbeats 4000000

namespace Go.Proofs.YtipdclphpkgceaaGreatDoor
open Go.RowKit Go.Extern.Stop Go.Stop Go.Extern
theorem Tryz.valueOfPP (t:Addr) (w:World):(ReflectliteValue.unpack (.iface 77 (.pointer (some t)))).run Tryz.prog w
  = .ok (.agg #[.pointer (some ⟨16,77,none⟩),.pointer (some ⟨w.heap.size,0,none⟩),.int .u64 150]) (w.alloc (.cells #[.pointer (some t)] 77)):=by kernel_rfl
theorem Tryz.typePP (a:Addr) (w:World):(ReflectliteValue.methodAny (ReflectliteValue.valueError "reflectlite.Value.Type" 0) (fun t _ _ _=>ReflectliteType.toType t) #[.agg #[.pointer (some ⟨16,77,none⟩),.pointer (some a),.int .u64 150]]).run Tryz.prog w
  = .ok (.iface 151 (.agg #[.pointer (some ⟨16,77,none⟩)])) w:=by kernel_rfl
theorem Tryz.methodKind (h:Value) (w:World):(Go.method 442 151 (.agg #[h]) "Kind").run Tryz.prog w=.ok (263,h) w:=by kernel_rfl
theorem Tryz.kindPP (w:World):((ReflectliteType.abiMethod fun t=>(fun a:Nat=>Value.int IntKind.u8 (a:Int)) <$> Rtype.kind t) #[.pointer (some ⟨16,77,none⟩)]).run Tryz.prog w=.ok (.int .u8 22) w:=by kernel_rfl
theorem Tryz.kindP (w:World):((ReflectliteType.abiMethod fun t=>(fun a:Nat=>Value.int IntKind.u8 (a:Int)) <$> Rtype.kind t) #[.pointer (some ⟨16,75,none⟩)]).run Tryz.prog w=.ok (.int .u8 22) w:=by kernel_rfl
theorem rlm (z:Sem Value) (f:TypeId → Addr → Nat → Nat → Sem Value) (v:Value) :
  ReflectliteValue.method z f #[v]=(do match ← ReflectliteValue.parts v with | none=>z | some (t,a,fl)=>f t a fl (fl % 32)):=rfl
theorem Tryz.partsPP (a:Addr) (w:World):(ReflectliteValue.parts (.agg #[.pointer (some ⟨16,77,none⟩),.pointer (some a),.int .u64 150])).run Tryz.prog w=.ok (some (77,a,150)) w:=by kernel_rfl
theorem Tryz.isNilPP (a p:Addr) (W:World) (ha:W.cell? a=some (.pointer (some p))) :
  (ReflectliteValue.method (ReflectliteValue.valueError "reflectlite.Value.IsNil" 0) ReflectliteValue.isNil #[.agg #[.pointer (some ⟨16,77,none⟩),.pointer (some a),.int .u64 150]]).run Tryz.prog W=.ok (.bool false) W:=by
 rw [rlm]
 simp only [Sem.run_bind,Tryz.partsPP,Result.andThen]
 simp [ReflectliteValue.isNil,loadVar,isAgg,underlying,Tryz.underlying77,ha,Result.andThen]
theorem Tryz.methodElem (h:Value) (w:World):(Go.method 442 151 (.agg #[h]) "Elem").run Tryz.prog w=.ok (275,.agg #[h]) w:=by kernel_rfl
theorem Tryz.methodImplements (h:Value) (w:World):(Go.method 442 151 (.agg #[h]) "Implements").run Tryz.prog w=.ok (276,.agg #[h]) w:=by kernel_rfl
theorem Tryz.methodAssignableTo (h:Value) (w:World):(Go.method 442 151 (.agg #[h]) "AssignableTo").run Tryz.prog w=.ok (273,.agg #[h]) w:=by kernel_rfl
theorem Tryz.elemPP (w:World):(ReflectliteType.method ReflectliteType.elem #[.agg #[.pointer (some ⟨16,77,none⟩)]]).run Tryz.prog w=.ok (.iface 151 (.agg #[.pointer (some ⟨16,75,none⟩)])) w:=by kernel_rfl
theorem Tryz.implementsP (w:World):(ReflectliteType.relation "Implements" ReflectliteType.implements_ #[.agg #[.pointer (some ⟨16,75,none⟩)],.iface 151 (.agg #[.pointer (some ⟨16,25,none⟩)])]).run Tryz.prog w=.ok (.bool true) w:=by kernel_rfl
theorem Tryz.typeOfP (v:Value) (w:World):(ReflectliteType.typeOf #[.iface 75 v]).run Tryz.prog w=.ok (.iface 151 (.agg #[.pointer (some ⟨16,75,none⟩)])) w:=by kernel_rfl
theorem Tryz.assignableP (w:World):(ReflectliteType.relation "AssignableTo" ReflectliteType.assignableTo #[.agg #[.pointer (some ⟨16,75,none⟩)],.iface 151 (.agg #[.pointer (some ⟨16,75,none⟩)])]).run Tryz.prog w=.ok (.bool true) w:=by kernel_rfl
theorem Tryz.assignableE (w:World):(ReflectliteType.relation "AssignableTo" ReflectliteType.assignableTo #[.agg #[.pointer (some ⟨16,312,none⟩)],.iface 151 (.agg #[.pointer (some ⟨16,75,none⟩)])]).run Tryz.prog w=.ok (.bool false) w:=by kernel_rfl
theorem Tryz.valueOfP (e:Addr) (w:World):(ReflectliteValue.unpack (.iface 75 (.pointer (some e)))).run Tryz.prog w
  = .ok (.agg #[.pointer (some ⟨16,75,none⟩),.pointer (some ⟨w.heap.size,0,none⟩),.int .u64 150]) (w.alloc (.cells #[.pointer (some e)] 75)):=by kernel_rfl
theorem Tryz.elemOfPP (w:World):(Rtype.elem? 77).run Tryz.prog w=.ok (some 75) w:=by kernel_rfl
theorem Tryz.mkP (p:Addr) (w:World):(ReflectliteValue.mk 75 p ReflectliteValue.flagAddr).run Tryz.prog w=.ok (.agg #[.pointer (some ⟨16,75,none⟩),.pointer (some p),.int .u64 406]) w:=by kernel_rfl
theorem Tryz.elemVPP (a p:Addr) (W:World) (ha:W.cell? a=some (.pointer (some p))) :
  (ReflectliteValue.method (ReflectliteValue.valueError "reflectlite.Value.Elem" 0) ReflectliteValue.elem #[.agg #[.pointer (some ⟨16,77,none⟩),.pointer (some a),.int .u64 150]]).run Tryz.prog W
   = .ok (.agg #[.pointer (some ⟨16,75,none⟩),.pointer (some p),.int .u64 406]) W:=by
 rw [rlm]
 simp only [Sem.run_bind,Tryz.partsPP,Result.andThen]
 simp [ReflectliteValue.elem,loadVar,isAgg,underlying,Tryz.underlying77,ha,Result.andThen,Tryz.elemOfPP,Tryz.mkP]
theorem Tryz.partsPa (a:Addr) (w:World):(ReflectliteValue.parts (.agg #[.pointer (some ⟨16,75,none⟩),.pointer (some a),.int .u64 406])).run Tryz.prog w=.ok (some (75,a,406)) w:=by kernel_rfl
theorem Tryz.partsP (a:Addr) (w:World):(ReflectliteValue.parts (.agg #[.pointer (some ⟨16,75,none⟩),.pointer (some a),.int .u64 150])).run Tryz.prog w=.ok (some (75,a,150)) w:=by kernel_rfl
theorem Tryz.directP (w:World):(Rtype.directlyAssignable 75 75).run Tryz.prog w=.ok true w:=by kernel_rfl
theorem Tryz.setP (ta b e:Addr) (old:Value) (W:World) (hb:W.cell? b=some (.pointer (some e))) (ht:W.cell? ta=some old) (hf:W.frozen? ta=false) :
  (ReflectliteValue.set #[.agg #[.pointer (some ⟨16,75,none⟩),.pointer (some ta),.int .u64 406],.agg #[.pointer (some ⟨16,75,none⟩),.pointer (some b),.int .u64 150]]).run Tryz.prog W
   = .ok (.tuple #[]) (W.setCell ta (.pointer (some e))):=by
 change Sem.run Tryz.prog (ReflectliteValue.parts (.agg #[.pointer (some ⟨16,75,none⟩),.pointer (some ta),.int .u64 406]) >>= fun _=>ReflectliteValue.parts (.agg #[.pointer (some ⟨16,75,none⟩),.pointer (some b),.int .u64 150]) >>= _) W=_
 simp only [Sem.run_bind,Tryz.partsPa,Tryz.partsP,Result.andThen]
 simp [ReflectliteValue.flagAddr,loadVar,isAgg,underlying,Tryz.underlying75,hb,Result.andThen,Tryz.directP,storeVar,Value.cells,storeCells,Addr.add]
 rw [run_store Tryz.prog W ta _ _ (by rfl)]
 simp [ht,hf]
theorem as_hit (e t:Addr) (old:Value) (w:World) (hg:w.cell? ⟨9,0,none⟩=some (.iface 151 (.agg #[.pointer (some ⟨16,25,none⟩)]))) (ht0:w.cell? t=some old) (hf0:w.frozen? t=false) :
  Calls Tryz.prog 27 #[.iface 75 (.pointer (some e)),.iface 77 (.pointer (some t))] w fun ev w'=>ev=.returned (.bool true) ∧ w'=((((w.alloc (.cells #[.pointer (some t)] 77)).alloc (.cells #[.pointer (some ⟨16,77,none⟩),.pointer (some ⟨w.heap.size,0,none⟩),.int .u64 150] 109)).alloc (.cells #[.pointer (some ⟨16,77,none⟩),.pointer (some ⟨w.heap.size,0,none⟩),.int .u64 150] 109)).alloc (.cells #[.pointer (some e)] 75)).setCell t (.pointer (some e)):=by
 have h6:=@run_callFunc_extern Tryz.prog 48 _ (fun args=>ReflectliteValue.unpack (args.getD 0 (.tuple #[]))) Tryz.func48 (by kernel_rfl) (by kernel_rfl) (by kernel_rfl) (by kernel_rfl)
 have h7:=@run_callFunc_extern Tryz.prog 49 _ (ReflectliteValue.methodAny (ReflectliteValue.valueError "reflectlite.Value.Type" 0) (fun t _ _ _=>ReflectliteType.toType t)) Tryz.func49 (by kernel_rfl) (by kernel_rfl) (by kernel_rfl) (by kernel_rfl)
 have h8:=@run_callFunc_extern Tryz.prog 50 _ (ReflectliteValue.method (ReflectliteValue.valueError "reflectlite.Value.IsNil" 0) ReflectliteValue.isNil) Tryz.func50 (by kernel_rfl) (by kernel_rfl) (by kernel_rfl) (by kernel_rfl)
 have h27:=@run_callFunc_extern Tryz.prog 263 _ (ReflectliteType.abiMethod fun t=>do pure (.int .u8 (← Rtype.kind t))) Tryz.func263 (by kernel_rfl) (by kernel_rfl) (by kernel_rfl) (by kernel_rfl)
 have h37:=@run_callFunc_extern Tryz.prog 275 _ (ReflectliteType.method ReflectliteType.elem) Tryz.func275 (by kernel_rfl) (by kernel_rfl) (by kernel_rfl) (by kernel_rfl)
 have h38:=@run_callFunc_extern Tryz.prog 276 _ (ReflectliteType.relation "Implements" ReflectliteType.implements_) Tryz.func276 (by kernel_rfl) (by kernel_rfl) (by kernel_rfl) (by kernel_rfl)
 have h10:=@run_callFunc_extern Tryz.prog 52 _ ReflectliteType.typeOf Tryz.func52 (by kernel_rfl) (by kernel_rfl) (by kernel_rfl) (by kernel_rfl)
 have h35:=@run_callFunc_extern Tryz.prog 273 _ (ReflectliteType.relation "AssignableTo" ReflectliteType.assignableTo) Tryz.func273 (by kernel_rfl) (by kernel_rfl) (by kernel_rfl) (by kernel_rfl)
 have h11:=@run_callFunc_extern Tryz.prog 86 _ (ReflectliteValue.method (ReflectliteValue.valueError "reflectlite.Value.Elem" 0) ReflectliteValue.elem) Tryz.func86 (by kernel_rfl) (by kernel_rfl) (by kernel_rfl) (by kernel_rfl)
 have h12:=@run_callFunc_extern Tryz.prog 87 _ ReflectliteValue.set Tryz.func87 (by kernel_rfl) (by kernel_rfl) (by kernel_rfl) (by kernel_rfl)
 have tO:=Tryz.typeOfP
 have mA:=Tryz.methodAssignableTo
 have a25:=Tryz.assignableP
 have v25:=Tryz.valueOfP
 have f6:=Tryz.valueOfPP
 have f7:=Tryz.typePP
 have mK:=Tryz.methodKind
 have mE:=Tryz.methodElem
 have mI:=Tryz.methodImplements
 have k27:=Tryz.kindPP
 have k25:=Tryz.kindP
 have e27:=Tryz.elemPP
 have i25:=Tryz.implementsP
 have n8:=Tryz.isNilPP ⟨w.heap.size,0,none⟩ t ((w.alloc (.cells #[.pointer (some t)] 77)).alloc (.cells #[.pointer (some ⟨16,77,none⟩),.pointer (some ⟨w.heap.size,0,none⟩),.int .u64 150] 109)) (by simp)
 have hlt:9 < w.heap.size:=by
  rcases Nat.lt_or_ge 9 w.heap.size with h | h
  · exact h
  · simp [World.cell?,Array.getElem?_eq_none h] at hg
 have hg2:((w.alloc (.cells #[.pointer (some t)] 77)).alloc (.cells #[.pointer (some ⟨16,77,none⟩),.pointer (some ⟨w.heap.size,0,none⟩),.int .u64 150] 109)).cell? ⟨9,0,none⟩=some (.iface 151 (.agg #[.pointer (some ⟨16,25,none⟩)])):=by
  rw [World.cell?_alloc_lt _ _ ⟨9,0,none⟩ (Nat.lt_of_lt_of_le hlt (by simp)),World.cell?_alloc_lt _ _ ⟨9,0,none⟩ hlt];exact hg
 have htl:t.block < w.heap.size:=by
  rcases Nat.lt_or_ge t.block w.heap.size with h | h
  · exact h
  · simp [World.cell?,Array.getElem?_eq_none h] at ht0
 have el:=Tryz.elemVPP ⟨w.heap.size,0,none⟩ t (((w.alloc (.cells #[.pointer (some t)] 77)).alloc (.cells #[.pointer (some ⟨16,77,none⟩),.pointer (some ⟨w.heap.size,0,none⟩),.int .u64 150] 109)).alloc (.cells #[.pointer (some ⟨16,77,none⟩),.pointer (some ⟨w.heap.size,0,none⟩),.int .u64 150] 109)) (by rw [World.cell?_alloc_lt _ _ ⟨w.heap.size,0,none⟩ (by simp;omega)];simp)
 have st:=Tryz.setP t ⟨w.heap.size+1+1+1,0,none⟩ e old ((((w.alloc (.cells #[.pointer (some t)] 77)).alloc (.cells #[.pointer (some ⟨16,77,none⟩),.pointer (some ⟨w.heap.size,0,none⟩),.int .u64 150] 109)).alloc (.cells #[.pointer (some ⟨16,77,none⟩),.pointer (some ⟨w.heap.size,0,none⟩),.int .u64 150] 109)).alloc (.cells #[.pointer (some e)] 75))
  (by rw [World.cell?_alloc_at _ _ _ _ (by simp)];rfl)
  (by rw [World.cell?_alloc_lt _ _ t (by simp;omega),World.cell?_alloc_lt _ _ t (by simp;omega),World.cell?_alloc_lt _ _ t (by simp;omega),World.cell?_alloc_lt _ _ t htl];exact ht0)
  (by rw [World.frozen?_alloc_old _ _ t (by simp;omega),World.frozen?_alloc_old _ _ t (by simp;omega),World.frozen?_alloc_old _ _ t (by simp;omega),World.frozen?_alloc_old _ _ t (Nat.ne_of_lt htl)];exact hf0)
 go_enter Tryz.func27,Tryz.ntmps27
 go_wp2
 refine wp_loop_rounds 1 ?_
 rw [rounds_succ]
 go_wp2
 go_ret
 exact ⟨rfl,rfl⟩
theorem as_miss (e t:Addr) (w:World) (hg:w.cell? ⟨9,0,none⟩=some (.iface 151 (.agg #[.pointer (some ⟨16,25,none⟩)]))) :
  Calls Tryz.prog 27 #[.iface 312 (.pointer (some e)),.iface 77 (.pointer (some t))] w fun ev w'=>ev=.returned (.bool false) ∧ w'=(((w.alloc (.cells #[.pointer (some t)] 77)).alloc (.cells #[.pointer (some ⟨16,77,none⟩),.pointer (some ⟨w.heap.size,0,none⟩),.int .u64 150] 109)).alloc (.cells #[.pointer (some ⟨16,77,none⟩),.pointer (some ⟨w.heap.size,0,none⟩),.int .u64 150] 109)):=by
 have h6:=@run_callFunc_extern Tryz.prog 48 _ (fun args=>ReflectliteValue.unpack (args.getD 0 (.tuple #[]))) Tryz.func48 (by kernel_rfl) (by kernel_rfl) (by kernel_rfl) (by kernel_rfl)
 have h7:=@run_callFunc_extern Tryz.prog 49 _ (ReflectliteValue.methodAny (ReflectliteValue.valueError "reflectlite.Value.Type" 0) (fun t _ _ _=>ReflectliteType.toType t)) Tryz.func49 (by kernel_rfl) (by kernel_rfl) (by kernel_rfl) (by kernel_rfl)
 have h8:=@run_callFunc_extern Tryz.prog 50 _ (ReflectliteValue.method (ReflectliteValue.valueError "reflectlite.Value.IsNil" 0) ReflectliteValue.isNil) Tryz.func50 (by kernel_rfl) (by kernel_rfl) (by kernel_rfl) (by kernel_rfl)
 have h27:=@run_callFunc_extern Tryz.prog 263 _ (ReflectliteType.abiMethod fun t=>do pure (.int .u8 (← Rtype.kind t))) Tryz.func263 (by kernel_rfl) (by kernel_rfl) (by kernel_rfl) (by kernel_rfl)
 have h37:=@run_callFunc_extern Tryz.prog 275 _ (ReflectliteType.method ReflectliteType.elem) Tryz.func275 (by kernel_rfl) (by kernel_rfl) (by kernel_rfl) (by kernel_rfl)
 have h38:=@run_callFunc_extern Tryz.prog 276 _ (ReflectliteType.relation "Implements" ReflectliteType.implements_) Tryz.func276 (by kernel_rfl) (by kernel_rfl) (by kernel_rfl) (by kernel_rfl)
 have h10:=@run_callFunc_extern Tryz.prog 52 _ ReflectliteType.typeOf Tryz.func52 (by kernel_rfl) (by kernel_rfl) (by kernel_rfl) (by kernel_rfl)
 have h35:=@run_callFunc_extern Tryz.prog 273 _ (ReflectliteType.relation "AssignableTo" ReflectliteType.assignableTo) Tryz.func273 (by kernel_rfl) (by kernel_rfl) (by kernel_rfl) (by kernel_rfl)
 have tO:=Tryz.isTypeOf
 have mA:=Tryz.methodAssignableTo
 have a25:=Tryz.assignableE
 have f6:=Tryz.valueOfPP
 have f7:=Tryz.typePP
 have mK:=Tryz.methodKind
 have mE:=Tryz.methodElem
 have mI:=Tryz.methodImplements
 have k27:=Tryz.kindPP
 have k25:=Tryz.kindP
 have e27:=Tryz.elemPP
 have i25:=Tryz.implementsP
 have nE:=Tryz.noAsE
 have uE:=Tryz.noUnwrapE
 have vE:=Tryz.noUnwrapsE
 have n8:=Tryz.isNilPP ⟨w.heap.size,0,none⟩ t ((w.alloc (.cells #[.pointer (some t)] 77)).alloc (.cells #[.pointer (some ⟨16,77,none⟩),.pointer (some ⟨w.heap.size,0,none⟩),.int .u64 150] 109)) (by simp)
 have hlt:9 < w.heap.size:=by
  rcases Nat.lt_or_ge 9 w.heap.size with h | h
  · exact h
  · simp [World.cell?,Array.getElem?_eq_none h] at hg
 have hg2:((w.alloc (.cells #[.pointer (some t)] 77)).alloc (.cells #[.pointer (some ⟨16,77,none⟩),.pointer (some ⟨w.heap.size,0,none⟩),.int .u64 150] 109)).cell? ⟨9,0,none⟩=some (.iface 151 (.agg #[.pointer (some ⟨16,25,none⟩)])):=by
  rw [World.cell?_alloc_lt _ _ ⟨9,0,none⟩ (Nat.lt_of_lt_of_le hlt (by simp)),World.cell?_alloc_lt _ _ ⟨9,0,none⟩ hlt];exact hg
 go_enter Tryz.func27,Tryz.ntmps27
 go_wp2
 refine wp_loop_rounds 1 ?_
 rw [rounds_succ]
 go_wp2
 go_ret
 exact ⟨rfl,rfl⟩
def six (i:Nat):Prop:=i < 5 ∨ i=8
structure Errs9 (w:World) (ad:Nat → Addr):Prop where
 typ:w.cell? ⟨9,0,none⟩=some (.iface 151 (.agg #[.pointer (some ⟨16,25,none⟩)]))
 c0:w.cell? ⟨1,0,none⟩=some (.iface 312 (.pointer (some (ad 0))))
 c1:w.cell? ⟨0,0,none⟩=some (.iface 312 (.pointer (some (ad 1))))
 c2:w.cell? ⟨2,0,none⟩=some (.iface 312 (.pointer (some (ad 2))))
 c3:w.cell? ⟨3,0,none⟩=some (.iface 312 (.pointer (some (ad 3))))
 c4:w.cell? ⟨4,0,none⟩=some (.iface 312 (.pointer (some (ad 4))))
 c8:w.cell? ⟨8,0,none⟩=some (.iface 312 (.pointer (some (ad 8))))
 ne:∀ i j,six i → six j → i ≠ j → ad i ≠ ad j
 blk:∀ i,six i → ∃ c t,w.heap[(ad i).block]? = some (.cells c t (0,0))
 txt:∀ i,six i → ∃ s:ByteArray,w.cell? (ad i)=some (.string s) ∧ s.data.toList=errText ((i:Int)+1)
theorem block_later {w w':World} {b:Nat} {o:Obj} (hb:Below w.heap.size w w') (h:w.heap[b]? = some o):w'.heap[b]? = some o:=by
 rw [hb.block b ?_];exact h
 rcases Nat.lt_or_ge b w.heap.size with h' | h'
 · exact h'
 · simp [Array.getElem?_eq_none h'] at h
theorem Errs9.below {w w':World} {ad:Nat → Addr} (h:Errs9 w ad) (hb:Below w.heap.size w w'):Errs9 w' ad:=
 ⟨cell_later hb h.typ,cell_later hb h.c0,cell_later hb h.c1,cell_later hb h.c2,cell_later hb h.c3,cell_later hb h.c4,cell_later hb h.c8,h.ne,fun i hi=>by
  obtain ⟨c,t,e⟩:=h.blk i hi;exact ⟨c,t,block_later hb e⟩,fun i hi=>by
  obtain ⟨s,e,h2⟩:=h.txt i hi;exact ⟨s,cell_later hb e,h2⟩⟩
theorem Errs9.one {w:World} {ad ad':Nat → Addr} (h:Errs9 w ad) (h':Errs9 w ad') (k:Nat) (hk:six k):ad k=ad' k:=by
 have same:∀ {a:Addr} {x y:Addr},w.cell? a=some (.iface 312 (.pointer (some x))) → w.cell? a=some (.iface 312 (.pointer (some y))) → x=y:=fun h1 h2=>by
  rw [h1] at h2
  injection h2 with h2
  injection h2 with _ h2
  injection h2 with h2
  injection h2
 rcases hk with hk | rfl
 ·
  match k,hk with
  | 0,_=>exact same h.c0 h'.c0
  | 1,_=>exact same h.c1 h'.c1
  | 2,_=>exact same h.c2 h'.c2
  | 3,_=>exact same h.c3 h'.c3
  | 4,_=>exact same h.c4 h'.c4
 · exact same h.c8 h'.c8
theorem set_at (w:World) (o1 o2 o3 o4:Obj) (v:Value):(((((w.alloc (.cells #[.pointer none] 75)).alloc o1).alloc o2).alloc o3).alloc o4 |>.setCell ⟨w.heap.size,0,none⟩ v).cell? ⟨w.heap.size,0,none⟩=some v:=
 World.cell?_setCell_same _ _ _ (u:=.pointer none) (by
  rw [World.cell?_alloc_lt _ _ ⟨w.heap.size,0,none⟩ (by simp;omega),World.cell?_alloc_lt _ _ ⟨w.heap.size,0,none⟩ (by simp;omega),World.cell?_alloc_lt _ _ ⟨w.heap.size,0,none⟩ (by simp;omega),World.cell?_alloc_lt _ _ ⟨w.heap.size,0,none⟩ (by simp),World.cell?_alloc_at _ _ _ _ rfl];rfl)
end Go.Proofs.YtipdclphpkgceaaGreatDoor

namespace Go.Proofs.YtipdclphpkgceaaGreatDoor
open Go.RowKit
def CodeIs (w:World) (E:Value) (c a:Int):Prop:=(E=.nilIface ∧ c=0 ∧ a = -1) ∨ ∃ ad,Errs9 w ad ∧ ∃ k:Nat,k < 9 ∧ c=(k:Int)+1 ∧
 ((E=.iface 312 (.pointer (some (ad k))) ∧ a = -1) ∨ ∃ pb,E=.iface 75 (.pointer (some ⟨pb,0,none⟩)) ∧ w.cell? ⟨pb,0,none⟩=some (.int .i64 a) ∧ w.cell? ⟨pb,1,none⟩=some (.iface 312 (.pointer (some (ad k)))))
theorem CodeIs.below {w w':World} {E:Value} {c a:Int} (h:CodeIs w E c a) (hb:Below w.heap.size w w'):CodeIs w' E c a:=by
 rcases h with h | ⟨ad,he,k,hk,hc,h | ⟨pb,h1,h2,h3⟩⟩
 · exact .inl h
 · exact .inr ⟨ad,he.below hb,k,hk,hc,.inl h⟩
 · exact .inr ⟨ad,he.below hb,k,hk,hc,.inr ⟨pb,h1,cell_later hb h2,cell_later hb h3⟩⟩
theorem codeIs_nil (w:World):CodeIs w .nilIface 0 (-1):=.inl ⟨rfl,rfl,rfl⟩
theorem codeIs_sent {w:World} {ad:Nat → Addr} (he:Errs9 w ad) (k:Nat) (hk:k < 9):CodeIs w (.iface 312 (.pointer (some (ad k)))) (k+1) (-1):=.inr ⟨ad,he,k,hk,rfl,.inl ⟨rfl,rfl⟩⟩
theorem codeIs_fault {w:World} {ad:Nat → Addr} (he:Errs9 w ad) (k:Nat) (hk:k < 9) (n:Int) (pb:Nat) (h0:w.cell? ⟨pb,0,none⟩=some (.int .i64 n)) (h1:w.cell? ⟨pb,1,none⟩=some (.iface 312 (.pointer (some (ad k))))) :
  CodeIs w (.iface 75 (.pointer (some ⟨pb,0,none⟩))) (k+1) n:=.inr ⟨ad,he,k,hk,rfl,.inr ⟨pb,rfl,h0,h1⟩⟩
structure ErrIs (w:World) (E:Value) (c p:Int):Prop where
 code:CodeIs w E c p
 none_:c=0 → E=.nilIface
 some_:c ≠ 0 → ∃ ty v,E=.iface ty v
theorem ErrIs.below {w w':World} {E:Value} {c p:Int} (h:ErrIs w E c p) (hb:Below w.heap.size w w'):ErrIs w' E c p:=⟨h.code.below hb,h.none_,h.some_⟩
theorem errIs_nil (w:World):ErrIs w .nilIface 0 (-1):=⟨codeIs_nil w,fun _=>rfl,fun h=>absurd rfl h⟩
theorem errIs_sent {w:World} {ad:Nat → Addr} (he:Errs9 w ad) (k:Nat) (hk:k < 9):ErrIs w (.iface 312 (.pointer (some (ad k)))) (k+1) (-1):=⟨codeIs_sent he k hk,fun h=>by omega,fun _=>⟨_,_,rfl⟩⟩
end Go.Proofs.YtipdclphpkgceaaGreatDoor

namespace Go.Proofs.YtipdclphpkgceaaGreatDoor
open Go.RowKit Go.Extern.Stop Go.Stop Go.Extern
structure Errs3x (w:World) (a5 a6 a7:Addr):Prop where
 c5:w.cell? ⟨5,0,none⟩=some (.iface 312 (.pointer (some a5)))
 c6:w.cell? ⟨6,0,none⟩=some (.iface 312 (.pointer (some a6)))
 c7:w.cell? ⟨7,0,none⟩=some (.iface 312 (.pointer (some a7)))
theorem Errs3x.below {w w':World} {a5 a6 a7:Addr} (h:Errs3x w a5 a6 a7) (hb:Below w.heap.size w w'):Errs3x w' a5 a6 a7:=⟨cell_later hb h.c5,cell_later hb h.c6,cell_later hb h.c7⟩
abbrev nineX (b0 b1 b2 b3 b4 b5 b6 b7 b8:Addr):Array Value:=#[.iface 312 (.pointer (some b0)),.iface 312 (.pointer (some b1)),.iface 312 (.pointer (some b2)),.iface 312 (.pointer (some b3)),.iface 312 (.pointer (some b4)),.iface 312 (.pointer (some b5)),.iface 312 (.pointer (some b6)),.iface 312 (.pointer (some b7)),.iface 312 (.pointer (some b8))]
theorem nineX_at (b0 b1 b2 b3 b4 b5 b6 b7 b8:Addr) (w:World):(w.alloc (.cells (nineX b0 b1 b2 b3 b4 b5 b6 b7 b8) 25)).cell? ⟨w.heap.size,0,none⟩=some (.iface 312 (.pointer (some b0))) ∧ (w.alloc (.cells (nineX b0 b1 b2 b3 b4 b5 b6 b7 b8) 25)).cell? ⟨w.heap.size,1,none⟩=some (.iface 312 (.pointer (some b1))):=by
 constructor
 · rw [World.cell?_alloc_at _ _ _ _ rfl];rfl
 · rw [World.cell?_alloc_at _ _ _ _ rfl];rfl
theorem code_bound (ad:Nat → Addr) (a5 a6 a7:Addr) (w:World) (he:Errs9 w ad) (hx:Errs3x w a5 a6 a7) :
  Calls Tryz.prog 16 #[.iface 312 (.pointer (some (ad 1)))] w fun e w'=>e=.returned (.tuple #[.int .i64 2,.int .i64 (-1)]) ∧ Below w.heap.size w w':=by
 have hb0:Below w.heap.size w (w.alloc (.cells #[.pointer none] 75)):=(Below.refl _ _).alloc (Nat.le_refl _) _
 have HE:Hid (Errs9 w ad ∧ Errs3x w a5 a6 a7):=⟨he,hx⟩
 have HB0:Hid (Below w.heap.size w (w.alloc (.cells #[.pointer none] 75))):=hb0
 clear he hb0 hx
 go_enter Tryz.func16,Tryz.ntmps16
 go_wp2_with fail
 refine (as_miss (ad 1) _ _ (HE.out.1.below HB0.out).typ).mono ?_
 rintro e w1 ⟨rfl,hw1⟩
 have hb1:Below w.heap.size w w1:=by
  rw [hw1]
  exact ((HB0.out.alloc (by simp) _).alloc (by simp;omega) _).alloc (by simp;omega) _
 have HB1:Hid (Below w.heap.size w w1):=hb1
 have he1:=HE.out.1.below hb1
 have hx1:=HE.out.2.below hb1
 have h0:=he1.c0
 have h1:=he1.c1
 have h2:=he1.c2
 have h3:=he1.c3
 have h4:=he1.c4
 have h5:=hx1.c5
 have h6:=hx1.c6
 have h7:=hx1.c7
 have h8:=he1.c8
 have HE1:Hid (Errs9 w1 ad):=he1
 clear hw1 hb1 he1 hx1
 go_wp2_with fail
 clear h0 h1 h2 h3 h4 h5 h6 h7 h8
 have hcell:=nineX_at (ad 0) (ad 1) (ad 2) (ad 3) (ad 4) a5 a6 a7 (ad 8) w1
 have hb2:Below w.heap.size w (w1.alloc (.cells (nineX (ad 0) (ad 1) (ad 2) (ad 3) (ad 4) a5 a6 a7 (ad 8)) 25)):=HB1.out.alloc HB1.out.size _
 have he2:Errs9 (w1.alloc (.cells (nineX (ad 0) (ad 1) (ad 2) (ad 3) (ad 4) a5 a6 a7 (ad 8)) 25)) ad:=HE1.out.below ((Below.refl _ _).alloc (Nat.le_refl _) _)
 generalize w1.alloc (.cells (nineX (ad 0) (ad 1) (ad 2) (ad 3) (ad 4) a5 a6 a7 (ad 8)) 25)=W2 at *
 have HC:Hid (∀ j,j < 2 → W2.cell? ⟨w1.heap.size,j,none⟩=some (.iface 312 (.pointer (some (ad j))))):=fun j hj=>by
  match j,hj with
  | 0,_=>exact hcell.1
  | 1,_=>exact hcell.2
  | j+2,h=>omega
 have HB2:Hid (Below w.heap.size w W2):=hb2
 have HE2:Hid (Errs9 W2 ad):=he2
 clear hcell hb2 he2
 go_loop [3,27] (fun s i=>s=.int .i64 (-1) ∧ ∃ j:Nat,j ≤ 1 ∧ i=.int .i64 j) (fun _ i=>9 - (intOf i).toNat)
 case atStart=>exact ⟨rfl,0,Nat.zero_le _,rfl⟩
 case round=>
  obtain ⟨rfl,j,hj,rfl⟩:=hrel
  have hc:=HC.out j (by omega)
  by_cases hjk:j < 1
  ·
   obtain ⟨ca,ta,ba⟩:=HE2.out.blk 1 (.inl (by omega))
   obtain ⟨cb,tb,bb⟩:=HE2.out.blk j (.inl (by omega))
   have HI:Hid (Calls Tryz.prog 28 #[.iface 312 (.pointer (some (ad 1))),.iface 312 (.pointer (some (ad j)))] W2 fun e w'=>e=.returned (.bool false) ∧ w'=W2):=is_other (ad 1) (ad j) ca cb ta tb W2 (HE2.out.ne 1 j (.inl (by omega)) (.inl (by omega)) (by omega)) ba bb
   clear ba bb
   go_wp2_with (go_at_call 28;refine HI.out.mono ?_;rintro e w' ⟨rfl,rfl⟩)
   go_round
   case rel=>exact ⟨rfl,j+1,by omega,by go_num⟩
   case measure=>simp [intOf];omega
  ·
   obtain rfl:j=1:=by omega
   go_wp2_with (go_at_call 28;refine (is_same (ad 1) _).mono ?_;rintro e w' ⟨rfl,rfl⟩)
   go_ret2
   exact ⟨rfl,HB2.out⟩
theorem coded_bound (ad:Nat → Addr) (a5 a6 a7:Addr) (w:World) (he:Errs9 w ad) (hx:Errs3x w a5 a6 a7) :
  Calls Tryz.prog 8 #[.iface 312 (.pointer (some (ad 1))),.int .i64 2] w fun e w'=>e=.returned (.bool true) ∧ Below w.heap.size w w':=by
 have HC:Hid (Calls Tryz.prog 16 #[.iface 312 (.pointer (some (ad 1)))] w fun e w'=>e=.returned (.tuple #[.int .i64 2,.int .i64 (-1)]) ∧ Below w.heap.size w w'):=code_bound ad a5 a6 a7 w he hx
 clear he hx
 go_enter Tryz.func8,Tryz.ntmps8
 go_wp2_with fail
 refine HC.out.mono ?_
 rintro e w1 ⟨rfl,hb⟩
 go_wp2_with fail
 go_ret
 exact ⟨rfl,hb⟩
end Go.Proofs.YtipdclphpkgceaaGreatDoor

namespace Go.Proofs.YtipdclphpkgceaaGreatDoor
open Go.RowKit
theorem isLine_yes (x y:Int) (w:World) (h:okLine x y=true) :
  Calls Tryz.prog 121 #[.agg #[.int .i64 x,.int .i64 y]] w fun e w'=>e=.returned (.bool true) ∧ w'=w.alloc (.cells #[.int .i64 x,.int .i64 y] 83):=by
 obtain ⟨h1,h2,h3,h4⟩:=okLine_true h
 clear h
 go_enter Tryz.func121,Tryz.ntmps121
 go_wp2
 go_ret
 exact ⟨rfl,rfl⟩
theorem isLine_no (x y:Int) (w:World) (h:okLine x y=false) :
  Calls Tryz.prog 121 #[.agg #[.int .i64 x,.int .i64 y]] w fun e w'=>e=.returned (.bool false) ∧ w'=w.alloc (.cells #[.int .i64 x,.int .i64 y] 83):=by
 have h':¬ (1 ≤ x ∧ x ≤ 20000 ∧ 0 ≤ y ∧ y ≤ 100000):=of_decide_eq_false h
 clear h
 by_cases h1:1 ≤ x
 ·
  by_cases h2:x ≤ 20000
  ·
   by_cases h3:0 ≤ y
   ·
    have h4:¬ y ≤ 100000:=fun h4=>h' ⟨h1,h2,h3,h4⟩
    clear h'
    go_enter Tryz.func121,Tryz.ntmps121
    go_wp2
    go_ret
    exact ⟨rfl,rfl⟩
   ·
    clear h'
    go_enter Tryz.func121,Tryz.ntmps121
    go_wp2
    go_ret
    exact ⟨rfl,rfl⟩
  ·
   clear h'
   go_enter Tryz.func121,Tryz.ntmps121
   go_wp2
   go_ret
   exact ⟨rfl,rfl⟩
 ·
  clear h'
  go_enter Tryz.func121,Tryz.ntmps121
  go_wp2
  go_ret
  exact ⟨rfl,rfl⟩
def Lies (w:World) (a:Option Addr) (ls:List (Int × Int)):Prop:=
 ls=[] ∨ ∃ b off,a=some ⟨b,off,none⟩ ∧ b < w.heap.size ∧ ∀ i x y,ls[i]? = some (x,y) → w.cell? ⟨b,off+i * 2,none⟩=some (.int .i64 x) ∧ w.cell? ⟨b,off+i * 2+1,none⟩=some (.int .i64 y)
theorem Lies.some {w:World} {a:Option Addr} {ls:List (Int × Int)} (h:Lies w a ls) (h1:1 ≤ ls.length) :
  ∃ b off,a=some ⟨b,off,none⟩ ∧ b < w.heap.size ∧ ∀ i x y,ls[i]? = some (x,y) → w.cell? ⟨b,off+i * 2,none⟩=some (.int .i64 x) ∧ w.cell? ⟨b,off+i * 2+1,none⟩=some (.int .i64 y):=by
 rcases h with rfl | h
 · simp at h1
 · exact h
theorem Lies.below {w w':World} {a:Option Addr} {ls:List (Int × Int)} (h:Lies w a ls) (hb:Below w.heap.size w w'):Lies w' a ls:=by
 rcases h with rfl | ⟨b,off,rfl,hlt,hc⟩
 · exact .inl rfl
 ·
  refine .inr ⟨b,off,rfl,Nat.lt_of_lt_of_le hlt hb.size,fun i x y hi=>?_⟩
  have:=hc i x y hi
  exact ⟨by rw [hb.cell (p:=⟨b,off+i * 2,none⟩) hlt];exact this.1,by rw [hb.cell (p:=⟨b,off+i * 2+1,none⟩) hlt];exact this.2⟩
theorem check_ok (a:Option Addr) (cap:Nat) (ls:List (Int × Int)) (w:World) (hl:Lies w a ls) (h:okCurve ls) :
  Calls Tryz.prog 89 #[.slice a ls.length cap] w fun e w'=>e=.returned .nilIface ∧ Below w.heap.size w w':=by
 obtain ⟨h1,h6,hok⟩:=h
 obtain ⟨b,off,rfl,hlt,hc⟩:=hl.some h1
 clear hl
 generalize hn:ls.length=n at *
 have Hn:=(show Hid (ls.length=n) from hn)
 clear hn
 go_enter Tryz.func89,Tryz.ntmps89
 go_wp2
 go_loopw [16] (fun i wr=>∃ k:Nat,k ≤ n ∧ i=.int .i64 k ∧ Below w.heap.size w wr) (fun i _=>n - (intOf i).toNat)
 case atStart=>exact ⟨0,Nat.zero_le _,rfl,Below.refl _ _⟩
 case round=>
  obtain ⟨k,hk,rfl,hb⟩:=hrel
  by_cases hkn:k < n
  ·
   obtain ⟨⟨x,y⟩,hp,hm⟩:=get_some ls k (by rw [Hn.out];exact hkn)
   have hc1:wr.cell? ⟨b,off+k * 2,none⟩=some (.int .i64 x):=by rw [hb.cell (p:=⟨b,off+k * 2,none⟩) hlt];exact (hc k x y hp).1
   have hc2:wr.cell? ⟨b,off+k * 2+1,none⟩=some (.int .i64 y):=by rw [hb.cell (p:=⟨b,off+k * 2+1,none⟩) hlt];exact (hc k x y hp).2
   have hxy:=hok _ hm
   clear hc hok hp hm
   have Hxy:=(show Hid (okLine x y=true) from hxy)
   clear hxy
   go_wp2_with (go_at_call 121;refine (isLine_yes x y _ Hxy.out).mono ?_;rintro e w' ⟨rfl,rfl⟩)
   have hs:=hb.size
   go_roundw
   case rel=>exact ⟨k+1,by omega,by go_num,(hb.alloc hs _).alloc (by simp;omega) _⟩
   case measure=>simp [intOf];omega
  ·
   go_wp2
   go_ret
   exact ⟨rfl,hb⟩
theorem check_shape (a:Option Addr) (n cap:Nat) (w:World) (vS:Value) (hS:w.cell? ⟨2,0,none⟩=some vS) (hm:n ≤ maxLen) (h:n < 1 ∨ 6 < n) :
  Calls Tryz.prog 89 #[.slice a n cap] w fun e w'=>e=.returned vS ∧ w'=w:=by
 unfold maxLen at hm
 rcases h with h | h
 ·
  obtain rfl:n=0:=by omega
  go_enter Tryz.func89,Tryz.ntmps89
  go_wp2
  go_ret
  exact ⟨rfl,rfl⟩
 ·
  have h1:¬ n < 1:=by omega
  go_enter Tryz.func89,Tryz.ntmps89
  go_wp2
  go_ret
  exact ⟨rfl,rfl⟩
theorem check_bad (a:Option Addr) (cap:Nat) (ls:List (Int × Int)) (w:World) (aB:Addr) (hB:w.cell? ⟨0,0,none⟩=some (.iface 312 (.pointer (some aB)))) (hl:Lies w a ls) (h1:1 ≤ ls.length) (h6:ls.length ≤ 6)
  (j:Nat) (hj:j < ls.length) (hok:∀ i x y,i < j → ls[i]? = some (x,y) → okLine x y=true) (hbad:∀ x y,ls[j]? = some (x,y) → okLine x y=false) :
  Calls Tryz.prog 89 #[.slice a ls.length cap] w fun e w'=>Below w.heap.size w w' ∧ ∃ B,e=.returned (.iface 75 (.pointer (some ⟨B,0,none⟩))) ∧ w.heap.size ≤ B ∧ B < w'.heap.size ∧ w'.cell? ⟨B,0,none⟩=some (.int .i64 j) ∧ w'.cell? ⟨B,1,none⟩=some (.iface 312 (.pointer (some aB))):=by
 obtain ⟨b,off,rfl,hlt,hc⟩:=hl.some h1
 clear hl
 generalize hn:ls.length=n at *
 have Hn:=(show Hid (ls.length=n) from hn)
 clear hn
 go_enter Tryz.func89,Tryz.ntmps89
 go_wp2
 go_loopw [16] (fun i wr=>∃ k:Nat,k ≤ j ∧ i=.int .i64 k ∧ Below w.heap.size w wr) (fun i _=>n - (intOf i).toNat)
 case atStart=>exact ⟨0,Nat.zero_le _,rfl,Below.refl _ _⟩
 case round=>
  obtain ⟨k,hk,rfl,hb⟩:=hrel
  have hs:=hb.size
  have hkn:k < n:=by omega
  obtain ⟨⟨x,y⟩,hp,hm⟩:=get_some ls k (by rw [Hn.out];exact hkn)
  have hc1:wr.cell? ⟨b,off+k * 2,none⟩=some (.int .i64 x):=by rw [hb.cell (p:=⟨b,off+k * 2,none⟩) hlt];exact (hc k x y hp).1
  have hc2:wr.cell? ⟨b,off+k * 2+1,none⟩=some (.int .i64 y):=by rw [hb.cell (p:=⟨b,off+k * 2+1,none⟩) hlt];exact (hc k x y hp).2
  have hgs:0 < w.heap.size:=by
   rcases Nat.lt_or_ge 0 w.heap.size with h | h
   · exact h
   · simp [World.cell?,Array.getElem?_eq_none h] at hB
  have hB2:wr.cell? ⟨0,0,none⟩=some (.iface 312 (.pointer (some aB))):=by rw [hb.cell (p:=⟨0,0,none⟩) hgs];exact hB
  by_cases hkj:k < j
  ·
   have Hxy:=(show Hid (okLine x y=true) from hok k x y hkj hp)
   clear hc hok hp hm hbad hB hB2
   go_wp2_with (go_at_call 121;refine (isLine_yes x y _ Hxy.out).mono ?_;rintro e w' ⟨rfl,rfl⟩)
   go_roundw
   case rel=>exact ⟨k+1,by omega,by go_num,(hb.alloc hs _).alloc (by simp;omega) _⟩
   case measure=>simp [intOf];omega
  ·
   obtain rfl:k=j:=by omega
   have Hxy:=(show Hid (okLine x y=false) from hbad x y hp)
   clear hc hok hp hm hbad hB
   have hB3:((wr.alloc (.cells #[.int .i64 x,.int .i64 y] 83)).alloc (.cells #[.int .i64 x,.int .i64 y] 83)).cell? ⟨0,0,none⟩=some (.iface 312 (.pointer (some aB))):=by
    rw [World.cell?_alloc_lt _ _ ⟨0,0,none⟩ (Nat.lt_of_lt_of_le hgs (by simp;omega)),World.cell?_alloc_lt _ _ ⟨0,0,none⟩ (Nat.lt_of_lt_of_le hgs hs)];exact hB2
   go_wp2_with (go_at_call 121;refine (isLine_no x y _ Hxy.out).mono ?_;rintro e w' ⟨rfl,rfl⟩)
   go_ret
   refine ⟨((hb.alloc hs _).alloc (by simp;omega) _).alloc (by simp;omega) _,_,rfl,?_,?_,?_,?_⟩
   · omega
   · simp
   · rw [World.cell?_alloc_at _ _ _ _ (by simp)];rfl
   · rw [World.cell?_alloc_at _ _ _ _ (by simp)];rfl
theorem bytesAt_ok (a:Option Addr) (cap:Nat) (ls:List (Int × Int)) (t:Int) (w:World) (hl:Lies w a ls) (h:okCurve ls) (hcap:ls.length ≤ cap) (hm:cap ≤ maxLen) (t0:0 ≤ t) (t1:t ≤ 1099511627776) :
  Calls Tryz.prog 64 #[.slice a ls.length cap,.int .i64 t] w fun e w'=>e=.returned (.int .i64 (curveAt t ls)) ∧ Below w.heap.size w w':=by
 obtain ⟨h1,h6,hok⟩:=h
 obtain ⟨b,off,rfl,hlt,hc⟩:=hl.some h1
 clear hl
 unfold maxLen at hm
 obtain ⟨x0,y0,r,rfl⟩:∃ x y r,ls=(x,y) :: r:=by
  cases ls with
  | nil=>simp at h1
  | cons p r=>exact ⟨p.1,p.2,r,rfl⟩
 obtain ⟨n,hn⟩:∃ n,r.length=n:=⟨_,rfl⟩
 have Hn:=(show Hid (r.length=n) from hn)
 have h6':n ≤ 5:=by simp at h6;omega
 have hcap':n+1 ≤ cap:=by simp at hcap;omega
 rw [show ((x0,y0) :: r).length=n+1 by simp [hn]]
 clear h1 h6 hcap hn
 have ha:=(hc 0 x0 y0 rfl)
 have hx0:w.cell? ⟨b,off,none⟩=some (.int .i64 x0):=by simpa using ha.1
 have hy0:w.cell? ⟨b,off+1,none⟩=some (.int .i64 y0):=by simpa using ha.2
 clear ha
 have hr:∀ i x y,r[i]? = some (x,y) → w.cell? ⟨b,off+2+i * 2,none⟩=some (.int .i64 x) ∧ w.cell? ⟨b,off+2+i * 2+1,none⟩=some (.int .i64 y):=by
  intro i x y hi
  have:=hc (i+1) x y (by simpa using hi)
  rw [show off+(i+1) * 2=off+2+i * 2 by omega] at this
  exact this
 have hok0:=hok _ (List.mem_cons_self ..)
 have hokr:okAll r:=fun p hp=>hok p (List.mem_cons_of_mem _ hp)
 have hb0:=lineAt_bd hok0 t0 t1
 have o0:=okLine_true hok0
 simp only [] at o0
 obtain ⟨o1,o2,o3,o4⟩:=o0
 obtain ⟨m1,m2⟩:=mul_bd o3 o4 t0 t1
 have HL:Hid (x0+y0 * t / 1000=lineAt t x0 y0):=rfl
 have HC:Hid (curveAt t ((x0,y0) :: r)=leastAt t (lineAt t x0 y0) r):=rfl
 clear hok hok0 hc
 by_cases hc1:cap=1
 ·
  subst hc1
  obtain rfl:n=0:=by omega
  have hr0:r=[]:=List.length_eq_zero_iff.1 Hn.out
  subst hr0
  clear hr Hn hokr
  go_enter Tryz.func64,Tryz.ntmps64
  go_wp2
  go_quiet (fail)
  go_wp2
  refine wp_loop_rounds 1 ?_
  rw [rounds_succ]
  go_wp2
  go_ret
  exact ⟨rfl,below_drewN (Below.refl _ _) _⟩
 ·
  have hc2:1 < cap:=by omega
  clear hc1
  go_enter Tryz.func64,Tryz.ntmps64
  go_wp2
  go_quiet (fail)
  go_wp2
  go_loopw [5,23] (fun m i wr=>∃ k:Nat,k ≤ n ∧ i=.int .i64 k ∧ m=.int .i64 (leastAt t (lineAt t x0 y0) (r.take k)) ∧ Below w.heap.size w wr) (fun _ i _=>n - (intOf i).toNat)
  case atStart=>exact ⟨0,Nat.zero_le _,rfl,rfl,below_drewN (Below.refl _ _) _⟩
  case round=>
   obtain ⟨k,hk,rfl,rfl,hb⟩:=hrel
   have hs:=hb.size
   by_cases hkn:k < n
   ·
    obtain ⟨⟨x,y⟩,hp,hm'⟩:=get_some r k (by rw [Hn.out];exact hkn)
    have hc1:wr.cell? ⟨b,off+2+k * 2,none⟩=some (.int .i64 x):=by rw [hb.cell (p:=⟨b,off+2+k * 2,none⟩) hlt];exact (hr k x y hp).1
    have hc2:wr.cell? ⟨b,off+2+k * 2+1,none⟩=some (.int .i64 y):=by rw [hb.cell (p:=⟨b,off+2+k * 2+1,none⟩) hlt];exact (hr k x y hp).2
    have hts:r.take (k+1)=r.take k ++ [(x,y)]:=by rw [List.take_add_one,hp];rfl
    have hsn:=leastAt_snoc t (r.take k) (lineAt t x0 y0) (x,y)
    have HS:Hid (leastAt t (lineAt t x0 y0) (r.take (k+1))=min (leastAt t (lineAt t x0 y0) (r.take k)) (x+y * t / 1000)):=by rw [hts];exact hsn
    have hbd:=leastAt_bd t t0 t1 (r.take k) (lineAt t x0 y0) (by omega) (by omega) (fun p hp=>hokr p (List.mem_of_mem_take hp))
    obtain ⟨p1,p2,p3,p4⟩:=okLine_true (hokr _ hm')
    simp only [] at p1 p2 p3 p4
    obtain ⟨q1,q2⟩:=mul_bd p3 p4 t0 t1
    obtain ⟨M,hM⟩:∃ M,leastAt t (lineAt t x0 y0) (r.take k)=M:=⟨_,rfl⟩
    rw [hM] at hbd ⊢
    have HM:Hid (leastAt t (lineAt t x0 y0) (r.take k)=M):=hM
    clear hM hts hsn hp hm' hr hokr
    obtain ⟨b1,b2,b3⟩:=hbd
    go_wp2
    go_roundw
    case rel=>
     refine ⟨k+1,by omega,by go_num,?_,?_⟩
     ·
      rw [HS.out,HM.out]
      exact congrArg (Value.int .i64) (min_if _ _)
     · exact hb.alloc hs _
    case measure=>simp [intOf];omega
   ·
    go_wp2
    go_ret
    refine ⟨congrArg (fun z=>Ending.returned (.int .i64 z)) ?_,hb⟩
    rw [List.take_of_length_le (by rw [Hn.out];omega)]
    exact HC.out.symm
end Go.Proofs.YtipdclphpkgceaaGreatDoor
