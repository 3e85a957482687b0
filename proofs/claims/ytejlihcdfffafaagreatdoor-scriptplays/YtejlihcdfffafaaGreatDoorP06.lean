import Derived.Test.YtejlihcdfffafaaGreatDoorP05
import Derived.Lib.Split
import Derived.Lib.ItoaNum
import Derived.Lib.Join
import Derived.Lib.CutLaws
set_option maxHeartbeats 4000000
namespace Go.Proofs.YtejlihcdfffafaaGreatDoor
open Go.RowKit Go.Extern.Stop Go.Stop Go.Extern
theorem Tryz.valueOfPP (t:Addr)(w:World):(ReflectliteValue.unpack (.iface 211 (.pointer (some t)))).run Tryz.prog w
  = .ok (.agg #[.pointer (some ⟨13,211,none⟩),.pointer (some ⟨w.heap.size,0,none⟩),.int .u64 150]) (w.alloc (.cells #[.pointer (some t)] 211)):=by kernel_rfl
theorem Tryz.typePP (a:Addr) (w:World):(ReflectliteValue.methodAny (ReflectliteValue.valueError "reflectlite.Value.Type" 0) (fun t _ _ _=>ReflectliteType.toType t) #[.agg #[.pointer (some ⟨13,211,none⟩),.pointer (some a),.int .u64 150]]).run Tryz.prog w
  = .ok (.iface 189 (.agg #[.pointer (some ⟨13,211,none⟩)])) w:=by kernel_rfl
theorem Tryz.methodKind (h:Value) (w:World):(Go.method 438 189 (.agg #[h]) "Kind").run Tryz.prog w=.ok (259,h) w:=by kernel_rfl
theorem Tryz.kindPP (w:World):((ReflectliteType.abiMethod fun t=>(fun a:Nat=>Value.int IntKind.u8 (a:Int)) <$> Rtype.kind t) #[.pointer (some ⟨13,211,none⟩)]).run Tryz.prog w=.ok (.int .u8 22) w:=by kernel_rfl
theorem Tryz.kindP (w:World):((ReflectliteType.abiMethod fun t=>(fun a:Nat=>Value.int IntKind.u8 (a:Int)) <$> Rtype.kind t) #[.pointer (some ⟨13,135,none⟩)]).run Tryz.prog w=.ok (.int .u8 22) w:=by kernel_rfl
theorem rlm (h:Sem Value)(f:TypeId->Addr->Nat->Nat->Sem Value)(v:Value):ReflectliteValue.method h f #[v]=(do match <- ReflectliteValue.parts v with | none=>h | some (t,a,fl)=>f t a fl (fl%32)):=rfl
theorem Tryz.partsPP (a:Addr)(w:World):(ReflectliteValue.parts (.agg #[.pointer (some ⟨13,211,none⟩),.pointer (some a),.int .u64 150])).run Tryz.prog w=.ok (some (211,a,150)) w:=by kernel_rfl
theorem Tryz.isNilPP (a p:Addr)(h:World)(z:h.cell? a=some (.pointer (some p))):(ReflectliteValue.method (ReflectliteValue.valueError "reflectlite.Value.IsNil" 0) ReflectliteValue.isNil #[.agg #[.pointer (some ⟨13,211,none⟩),.pointer (some a),.int .u64 150]]).run Tryz.prog h=.ok (.bool false) h:=by
 rw[rlm];simp only[Sem.run_bind,Tryz.partsPP,Result.andThen];simp[ReflectliteValue.isNil,loadVar,isAgg,underlying,Tryz.underlying211,z,Result.andThen]
theorem Tryz.methodElem (h:Value) (w:World):(Go.method 438 189 (.agg #[h]) "Elem").run Tryz.prog w=.ok (269,.agg #[h]) w:=by kernel_rfl
theorem Tryz.methodImplements (h:Value) (w:World):(Go.method 438 189 (.agg #[h]) "Implements").run Tryz.prog w=.ok (270,.agg #[h]) w:=by kernel_rfl
theorem Tryz.methodAssignableTo (h:Value) (w:World):(Go.method 438 189 (.agg #[h]) "AssignableTo").run Tryz.prog w=.ok (267,.agg #[h]) w:=by kernel_rfl
theorem Tryz.elemPP (w:World):(ReflectliteType.method ReflectliteType.elem #[.agg #[.pointer (some ⟨13,211,none⟩)]]).run Tryz.prog w=.ok (.iface 189 (.agg #[.pointer (some ⟨13,135,none⟩)])) w:=by kernel_rfl
theorem Tryz.implementsP (w:World):(ReflectliteType.relation "Implements" ReflectliteType.implements_ #[.agg #[.pointer (some ⟨13,135,none⟩)],.iface 189 (.agg #[.pointer (some ⟨13,34,none⟩)])]).run Tryz.prog w=.ok (.bool true) w:=by kernel_rfl
theorem Tryz.typeOfP (v:Value)(w:World):(ReflectliteType.typeOf #[.iface 135 v]).run Tryz.prog w=.ok (.iface 189 (.agg #[.pointer (some ⟨13,135,none⟩)])) w:=by kernel_rfl
theorem Tryz.assignableP (w:World):(ReflectliteType.relation "AssignableTo" ReflectliteType.assignableTo #[.agg #[.pointer (some ⟨13,135,none⟩)],.iface 189 (.agg #[.pointer (some ⟨13,135,none⟩)])]).run Tryz.prog w=.ok (.bool true) w:=by kernel_rfl
theorem Tryz.assignableE (w:World):(ReflectliteType.relation "AssignableTo" ReflectliteType.assignableTo #[.agg #[.pointer (some ⟨13,308,none⟩)],.iface 189 (.agg #[.pointer (some ⟨13,135,none⟩)])]).run Tryz.prog w=.ok (.bool false) w:=by kernel_rfl
theorem Tryz.valueOfP (e:Addr)(w:World):(ReflectliteValue.unpack (.iface 135 (.pointer (some e)))).run Tryz.prog w
  = .ok (.agg #[.pointer (some ⟨13,135,none⟩),.pointer (some ⟨w.heap.size,0,none⟩),.int .u64 150]) (w.alloc (.cells #[.pointer (some e)] 135)):=by kernel_rfl
theorem Tryz.elemOfPP (w:World):(Rtype.elem? 211).run Tryz.prog w=.ok (some 135) w:=by kernel_rfl
theorem Tryz.mkP (p:Addr)(w:World):(ReflectliteValue.mk 135 p ReflectliteValue.flagAddr).run Tryz.prog w=.ok (.agg #[.pointer (some ⟨13,135,none⟩),.pointer (some p),.int .u64 406]) w:=by kernel_rfl
theorem Tryz.elemVPP (a p:Addr)(h:World)(z:h.cell? a=some (.pointer (some p))):(ReflectliteValue.method (ReflectliteValue.valueError "reflectlite.Value.Elem" 0) ReflectliteValue.elem #[.agg #[.pointer (some ⟨13,211,none⟩),.pointer (some a),.int .u64 150]]).run Tryz.prog h
   = .ok (.agg #[.pointer (some ⟨13,135,none⟩),.pointer (some p),.int .u64 406]) h:=by
 rw[rlm];simp only[Sem.run_bind,Tryz.partsPP,Result.andThen];simp[ReflectliteValue.elem,loadVar,isAgg,underlying,Tryz.underlying211,z,Result.andThen,Tryz.elemOfPP,Tryz.mkP]
theorem Tryz.partsPa (a:Addr)(w:World):(ReflectliteValue.parts (.agg #[.pointer (some ⟨13,135,none⟩),.pointer (some a),.int .u64 406])).run Tryz.prog w=.ok (some (135,a,406)) w:=by kernel_rfl
theorem Tryz.partsP (a:Addr)(w:World):(ReflectliteValue.parts (.agg #[.pointer (some ⟨13,135,none⟩),.pointer (some a),.int .u64 150])).run Tryz.prog w=.ok (some (135,a,150)) w:=by kernel_rfl
theorem Tryz.directP (w:World):(Rtype.directlyAssignable 135 135).run Tryz.prog w=.ok true w:=by kernel_rfl
theorem Tryz.setP (z b e:Addr)(E:Value)(h:World)(D:h.cell? b=some (.pointer (some e)))(I:h.cell? z=some E)(H:h.frozen? z=false):(ReflectliteValue.set #[.agg #[.pointer (some ⟨13,135,none⟩),.pointer (some z),.int .u64 406],.agg #[.pointer (some ⟨13,135,none⟩),.pointer (some b),.int .u64 150]]).run Tryz.prog h
   = .ok (.tuple #[]) (h.setCell z (.pointer (some e))):=by
 change Sem.run Tryz.prog (ReflectliteValue.parts (.agg #[.pointer (some ⟨13,135,none⟩),.pointer (some z),.int .u64 406]) >>= fun _=>ReflectliteValue.parts (.agg #[.pointer (some ⟨13,135,none⟩),.pointer (some b),.int .u64 150]) >>= _) h=_
 simp only[Sem.run_bind,Tryz.partsPa,Tryz.partsP,Result.andThen];simp[ReflectliteValue.flagAddr,loadVar,isAgg,underlying,Tryz.underlying135,D,Result.andThen,Tryz.directP,storeVar,Value.cells,storeCells,Addr.add]
 rw[run_store Tryz.prog h z _ _ (by rfl)];simp[I,H]
theorem gT (e t:Addr)(E:Value)(w:World)(D:w.cell? ⟨10,0,none⟩=some (.iface 189 (.agg #[.pointer (some ⟨13,34,none⟩)])))(H:w.cell? t=some E)(J:w.frozen? t=false):Calls Tryz.prog 154 #[.iface 135 (.pointer (some e)),.iface 211 (.pointer (some t))] w fun K w'=>K=.returned (.bool true)/\w'=((((w.alloc (.cells #[.pointer (some t)] 211)).alloc (.cells #[.pointer (some ⟨13,211,none⟩),.pointer (some ⟨w.heap.size,0,none⟩),.int .u64 150] 244)).alloc (.cells #[.pointer (some ⟨13,211,none⟩),.pointer (some ⟨w.heap.size,0,none⟩),.int .u64 150] 244)).alloc (.cells #[.pointer (some e)] 135)).setCell t (.pointer (some e)):=by
 have ap:=@run_callFunc_extern Tryz.prog 183 _ (fun args=>ReflectliteValue.unpack (args.getD 0 (.tuple #[]))) Tryz.func183 (by kernel_rfl) (by kernel_rfl) (by kernel_rfl) (by kernel_rfl);have V:=@run_callFunc_extern Tryz.prog 184 _ (ReflectliteValue.methodAny (ReflectliteValue.valueError "reflectlite.Value.Type" 0) (fun t _ _ _=>ReflectliteType.toType t)) Tryz.func184 (by kernel_rfl) (by kernel_rfl) (by kernel_rfl) (by kernel_rfl)
 have ad:=@run_callFunc_extern Tryz.prog 185 _ (ReflectliteValue.method (ReflectliteValue.valueError "reflectlite.Value.IsNil" 0) ReflectliteValue.isNil) Tryz.func185 (by kernel_rfl) (by kernel_rfl) (by kernel_rfl) (by kernel_rfl)
 have ab:=@run_callFunc_extern Tryz.prog 259 _ (ReflectliteType.abiMethod fun t=>do pure (.int .u8 (<- Rtype.kind t))) Tryz.func259 (by kernel_rfl) (by kernel_rfl) (by kernel_rfl) (by kernel_rfl);have O:=@run_callFunc_extern Tryz.prog 269 _ (ReflectliteType.method ReflectliteType.elem) Tryz.func269 (by kernel_rfl) (by kernel_rfl) (by kernel_rfl) (by kernel_rfl);have a0:=@run_callFunc_extern Tryz.prog 270 _ (ReflectliteType.relation "Implements" ReflectliteType.implements_) Tryz.func270 (by kernel_rfl) (by kernel_rfl) (by kernel_rfl) (by kernel_rfl)
 have aS:=@run_callFunc_extern Tryz.prog 117 _ ReflectliteType.typeOf Tryz.func117 (by kernel_rfl) (by kernel_rfl) (by kernel_rfl) (by kernel_rfl);have Z:=@run_callFunc_extern Tryz.prog 267 _ (ReflectliteType.relation "AssignableTo" ReflectliteType.assignableTo) Tryz.func267 (by kernel_rfl) (by kernel_rfl) (by kernel_rfl) (by kernel_rfl)
 have W:=@run_callFunc_extern Tryz.prog 214 _ (ReflectliteValue.method (ReflectliteValue.valueError "reflectlite.Value.Elem" 0) ReflectliteValue.elem) Tryz.func214 (by kernel_rfl) (by kernel_rfl) (by kernel_rfl) (by kernel_rfl)
 have aN:=@run_callFunc_extern Tryz.prog 215 _ ReflectliteValue.set Tryz.func215 (by kernel_rfl) (by kernel_rfl) (by kernel_rfl) (by kernel_rfl);have av:=Tryz.typeOfP;have ai:=Tryz.methodAssignableTo;have an:=Tryz.assignableP;have al:=Tryz.valueOfP;have aB:=Tryz.valueOfPP;have Y:=Tryz.typePP;have ar:=Tryz.methodKind;have aq:=Tryz.methodElem;have aj:=Tryz.methodImplements;have U:=Tryz.kindPP;have aw:=Tryz.kindP;have ao:=Tryz.elemPP;have am:=Tryz.implementsP;have aE:=Tryz.isNilPP ⟨w.heap.size,0,none⟩ t ((w.alloc (.cells #[.pointer (some t)] 211)).alloc (.cells #[.pointer (some ⟨13,211,none⟩),.pointer (some ⟨w.heap.size,0,none⟩),.int .u64 150] 244)) (by simp);have I:10<w.heap.size:=by
  rcases qC 10 w.heap.size with h|h
  · exact h
  simp[World.cell?,vX h]at D
 have Q:((w.alloc (.cells #[.pointer (some t)] 211)).alloc (.cells #[.pointer (some ⟨13,211,none⟩),.pointer (some ⟨w.heap.size,0,none⟩),.int .u64 150] 244)).cell? ⟨10,0,none⟩=some (.iface 189 (.agg #[.pointer (some ⟨13,34,none⟩)])):=by
  rw[xB _ _ ⟨10,0,none⟩ (qD I (by simp)),xB _ _ ⟨10,0,none⟩ I];exact D
 have z:t.block<w.heap.size:=by
  rcases qC t.block w.heap.size with h|h
  · exact h
  simp[World.cell?,vX h]at H
 have N:=Tryz.elemVPP ⟨w.heap.size,0,none⟩ t (((w.alloc (.cells #[.pointer (some t)] 211)).alloc (.cells #[.pointer (some ⟨13,211,none⟩),.pointer (some ⟨w.heap.size,0,none⟩),.int .u64 150] 244)).alloc (.cells #[.pointer (some ⟨13,211,none⟩),.pointer (some ⟨w.heap.size,0,none⟩),.int .u64 150] 244)) (by rw[xB _ _ ⟨w.heap.size,0,none⟩ (by simp;omega)];simp);have ac:=Tryz.setP t ⟨w.heap.size+1+1+1,0,none⟩ e E ((((w.alloc (.cells #[.pointer (some t)] 211)).alloc (.cells #[.pointer (some ⟨13,211,none⟩),.pointer (some ⟨w.heap.size,0,none⟩),.int .u64 150] 244)).alloc (.cells #[.pointer (some ⟨13,211,none⟩),.pointer (some ⟨w.heap.size,0,none⟩),.int .u64 150] 244)).alloc (.cells #[.pointer (some e)] 135))
  (by rw[qO _ _ _ _ (by simp)];rfl)
  (by rw[xB _ _ t (by simp;omega),xB _ _ t (by simp;omega),xB _ _ t (by simp;omega),xB _ _ t z];exact H)
  (by rw[World.frozen?_alloc_old _ _ t (by simp;omega),World.frozen?_alloc_old _ _ t (by simp;omega),World.frozen?_alloc_old _ _ t (by simp;omega),World.frozen?_alloc_old _ _ t (Nat.ne_of_lt z)];exact J)
 go_in
 go_wp2
 refine xG 1 ?_
 rw[xL];go_wp2
 go_ret;exact⟨rfl,rfl⟩
theorem iD (e t:Addr)(w:World)(z:w.cell? ⟨10,0,none⟩=some (.iface 189 (.agg #[.pointer (some ⟨13,34,none⟩)]))):Calls Tryz.prog 154 #[.iface 308 (.pointer (some e)),.iface 211 (.pointer (some t))] w fun E w'=>E=.returned (.bool false)/\w'=(((w.alloc (.cells #[.pointer (some t)] 211)).alloc (.cells #[.pointer (some ⟨13,211,none⟩),.pointer (some ⟨w.heap.size,0,none⟩),.int .u64 150] 244)).alloc (.cells #[.pointer (some ⟨13,211,none⟩),.pointer (some ⟨w.heap.size,0,none⟩),.int .u64 150] 244)):=by
 have aj:=@run_callFunc_extern Tryz.prog 183 _ (fun args=>ReflectliteValue.unpack (args.getD 0 (.tuple #[]))) Tryz.func183 (by kernel_rfl) (by kernel_rfl) (by kernel_rfl) (by kernel_rfl);have O:=@run_callFunc_extern Tryz.prog 184 _ (ReflectliteValue.methodAny (ReflectliteValue.valueError "reflectlite.Value.Type" 0) (fun t _ _ _=>ReflectliteType.toType t)) Tryz.func184 (by kernel_rfl) (by kernel_rfl) (by kernel_rfl) (by kernel_rfl)
 have W:=@run_callFunc_extern Tryz.prog 185 _ (ReflectliteValue.method (ReflectliteValue.valueError "reflectlite.Value.IsNil" 0) ReflectliteValue.isNil) Tryz.func185 (by kernel_rfl) (by kernel_rfl) (by kernel_rfl) (by kernel_rfl)
 have V:=@run_callFunc_extern Tryz.prog 259 _ (ReflectliteType.abiMethod fun t=>do pure (.int .u8 (<- Rtype.kind t))) Tryz.func259 (by kernel_rfl) (by kernel_rfl) (by kernel_rfl) (by kernel_rfl);have I:=@run_callFunc_extern Tryz.prog 269 _ (ReflectliteType.method ReflectliteType.elem) Tryz.func269 (by kernel_rfl) (by kernel_rfl) (by kernel_rfl) (by kernel_rfl);have av:=@run_callFunc_extern Tryz.prog 270 _ (ReflectliteType.relation "Implements" ReflectliteType.implements_) Tryz.func270 (by kernel_rfl) (by kernel_rfl) (by kernel_rfl) (by kernel_rfl)
 have ar:=@run_callFunc_extern Tryz.prog 117 _ ReflectliteType.typeOf Tryz.func117 (by kernel_rfl) (by kernel_rfl) (by kernel_rfl) (by kernel_rfl);have U:=@run_callFunc_extern Tryz.prog 267 _ (ReflectliteType.relation "AssignableTo" ReflectliteType.assignableTo) Tryz.func267 (by kernel_rfl) (by kernel_rfl) (by kernel_rfl) (by kernel_rfl)
 have an:=Tryz.isTypeOf;have Y:=Tryz.methodAssignableTo;have ad:=Tryz.assignableE;have ap:=Tryz.valueOfPP;have Q:=Tryz.typePP;have am:=Tryz.methodKind;have al:=Tryz.methodElem;have Z:=Tryz.methodImplements;have N:=Tryz.kindPP;have ao:=Tryz.kindP;have ai:=Tryz.elemPP;have ac:=Tryz.implementsP;have ab:=Tryz.noAsE;have K:=Tryz.noUnwrapE;have H:=Tryz.noUnwrapsE;have aq:=Tryz.isNilPP ⟨w.heap.size,0,none⟩ t ((w.alloc (.cells #[.pointer (some t)] 211)).alloc (.cells #[.pointer (some ⟨13,211,none⟩),.pointer (some ⟨w.heap.size,0,none⟩),.int .u64 150] 244)) (by simp);have D:10<w.heap.size:=by
  rcases qC 10 w.heap.size with h|h
  · exact h
  simp[World.cell?,vX h]at z
 have J:((w.alloc (.cells #[.pointer (some t)] 211)).alloc (.cells #[.pointer (some ⟨13,211,none⟩),.pointer (some ⟨w.heap.size,0,none⟩),.int .u64 150] 244)).cell? ⟨10,0,none⟩=some (.iface 189 (.agg #[.pointer (some ⟨13,34,none⟩)])):=by
  rw[xB _ _ ⟨10,0,none⟩ (qD D (by simp)),xB _ _ ⟨10,0,none⟩ D];exact z
 go_in
 go_wp2
 refine xG 1 ?_
 rw[xL];go_wp2
 go_ret;exact⟨rfl,rfl⟩
def Ca:List UInt8->Int->Option Int
 | [],n=>some n
 | b::l,n=>if b.toNat<48\/57<b.toNat then none else Ca l (10*n+((b.toNat:Int)-48))
def Fp (l:List UInt8):Option Int:=
 if l.length<1\/7<l.length then none else if l.head? = some 48/\1<l.length then none else Ca l 0
theorem KR:∀(l:List UInt8)(n m:Int),0<=n->Ca l n=some m->0<=m/\m<10 ^ l.length*(n+1)
 | [],n,m,h,e=>by
  simp only[Ca,Option.some.injEq]at e;subst e;exact⟨h,by simp;omega⟩
 | b::l,n,m,h,e=>by
  unfold Ca at e;split at e
  · cases e
  rename_i hb
  obtain⟨D,z⟩:=KR l _ m (by omega) e;refine⟨D,Int.lt_of_lt_of_le z ?_⟩;rw[vH,Int.pow_succ,Int.mul_assoc];exact qP (by omega) (Int.pow_nonneg (by decide))
theorem Qt {l:List UInt8}{m:Int}(h:Fp l=some m):0<=m/\m<=9999999:=by
 unfold Fp at h;split at h
 · cases h
 rename_i hl
 split at h
 · cases h
 obtain⟨E,z⟩:=KR l 0 m (q8 _) h;refine⟨E,?_⟩;obtain⟨k,D⟩:=ex l.length;rw[D]at z hl;rcases(show k=1\/k=2\/k=3\/k=4\/k=5\/k=6\/k=7 by omega)with rfl|rfl|rfl|rfl|rfl|rfl|rfl <;> simp at z <;> omega
def Ev:List (List UInt8)->Option (List Int)
 | []=>some []
 | x::l=>(Fp x).bind fun n=>(Ev l).map fun ns=>n::ns
theorem EZ:∀{ws:List (List UInt8)}{ns:List Int},Ev ws=some ns->ns.length=ws.length
 | [],ns,h=>by simp only[Ev,Option.some.injEq]at h;subst h;rfl
 | x::l,ns,h=>by
  simp only[Ev,Option.bind_eq_some_iff,xD]at h;obtain⟨n,-,D,z,rfl⟩:=h;simp[EZ z]
theorem X8 {ws:List (List UInt8)}{ns:List Int}(h:ns.length=ws.length)(z:∀(i:Nat) x n,ws[i]? = some x->ns[i]? = some n->Fp x=some n):Ev ws=some ns:=by
 induction ws generalizing ns with
 | nil=>
  cases ns with
  | nil=>rfl
  | cons=>simp at h
 | cons x l I=>
  cases ns with
  | nil=>simp at h
  | cons n D=>
   simp only[Ev,z 0 x n rfl rfl,y8,I (ns:=D) (by simpa using h) fun i y k H E=>z (i+1) y k (by simpa using H) (by simpa using E),Option.map_some]
theorem YT {ws:List (List UInt8)}{i:Nat}{x:List UInt8}(h:ws[i]? = some x)(z:Fp x=none):Ev ws=none:=by
 induction ws generalizing i with
 | nil=>simp at h
 | cons y l D=>
  cases i with
  | zero=>
   simp only[xF,Option.some.injEq]at h;subst h;simp[Ev,z]
  | succ i=>
   simp only[yC]at h;simp[Ev,D h]
def Gs (l:List UInt8):Option Int:=if l.length≠1 then none else Fp l
def Em (l:List UInt8):Option Int:=(Gs l).bind fun n=>if 0<=n/\n<8 then some n else none
def Ig:List Int->lI
 | a::b::l=>(a,b)::Ig l
 | _=>[]
def Er (ws:List (List UInt8)):Option lI:=if ws.length%2≠0 then none else(Ev ws).map Ig
theorem GN:∀(ns:List Int),(Ig ns).length=ns.length/2
 | []=>rfl
 | [_]=>by simp[Ig]
 | a::b::l=>by simp only[Ig,vH,GN l];omega
theorem Mh:∀(ns:List Int)(i:Nat)(a b:Int),ns[2*i]? = some a->ns[2*i+1]? = some b->(Ig ns)[i]? = some (a,b)
 | [],i,a,b,D,_=>by simp at D
 | [_],i,a,b,_,D=>by simp at D
 | x::y::l,0,a,b,z,h=>by
  simp only[Nat.mul_zero,xF,Option.some.injEq,vC,yC]at z h;subst z;subst h;rfl
 | x::y::l,i+1,a,b,z,h=>by
  simp only[Ig,yC];refine Mh l i a b ?_ ?_
  · rw[show 2*(i+1)=2*i+1+1 by omega,yC,yC]at z;exact z
  rw[show 2*(i+1)+1=2*i+1+1+1 by omega,yC,yC]at h;exact h
def iF (c:Int):List UInt8:=
 if c=1 then [116,101,120,116]else if c=2 then [98,111,117,110,100]else if c=3 then [115,104,97,112,101]else if c=4 then [110,111,110,101]else if c=5 then [111,108,100]else if c=6 then [111,118,101,114]else if c=7 then [105,100,108,101]else if c=8 then [116,117,114,110]else [107,105,110,100]
def AV (c:Int):List UInt8:=[102,108,111,111,100,103,97,116,101,58,32]++iF c
def AP:List UInt8:=[111,107]
def Ha:List UInt8:=[110,111,116,104,105,110,103]
def Dv (k f t:Int):List UInt8:=Go.Lib.itoa k++[58]++Go.Lib.itoa f++[45]++Go.Lib.itoa t
def six (i:Nat):Prop:=i<5\/i=8
structure A8 (w:World)(ad:Nat->Addr):Prop where
 typ:w.cell? ⟨10,0,none⟩=some (.iface 189 (.agg #[.pointer (some ⟨13,34,none⟩)]))
 c0:w.cell? ⟨2,0,none⟩=some (.iface 308 (.pointer (some (ad 0))))
 c1:w.cell? ⟨0,0,none⟩=some (.iface 308 (.pointer (some (ad 1))))
 c2:w.cell? ⟨3,0,none⟩=some (.iface 308 (.pointer (some (ad 2))))
 c3:w.cell? ⟨1,0,none⟩=some (.iface 308 (.pointer (some (ad 3))))
 c4:w.cell? ⟨6,0,none⟩=some (.iface 308 (.pointer (some (ad 4))))
 c8:w.cell? ⟨4,0,none⟩=some (.iface 308 (.pointer (some (ad 8))))
 ne:∀ i j,six i->six j->i≠j->ad i≠ad j
 blk:∀ i,six i->∃ c t,w.heap[(ad i).block]? = some (.cells c t (0,0))
 txt:∀ i,six i->∃ s:ByteArray,w.cell? (ad i)=some (.string s)/\s.data.toList=AV ((i:Int)+1)
theorem UN {w w':World}{b:Nat}{o:Obj}(D:zW w w')(z:w.heap[b]? = some o):w'.heap[b]? = some o:=by
 rw[D.block b ?_];exact z;rcases qC b w.heap.size with h|h
 · exact h
 simp[vX h]at z
theorem A8.below {w w':World}{E:Nat->Addr}(h:A8 w E)(z:zW w w'):A8 w' E:=
 ⟨j7 z h.typ,j7 z h.c0,j7 z h.c1,j7 z h.c2,j7 z h.c3,j7 z h.c4,j7 z h.c8,h.ne,fun i D=>by
  obtain⟨c,t,e⟩:=h.blk i D;exact⟨c,t,UN z e⟩,fun i D=>by
  obtain ⟨s,e,H⟩:=h.txt i D;exact ⟨s,j7 z e,H⟩⟩
theorem A8.one {w:World}{I H:Nat->Addr}(D:A8 w I)(z:A8 w H)(k:Nat)(E:six k):I k=H k:=by
 have same:∀{a:Addr}{x y:Addr},w.cell? a=some (.iface 308 (.pointer (some x)))->w.cell? a=some (.iface 308 (.pointer (some y)))->x=y:=fun J h=>by
  rw[J]at h;injection h with h
  injection h with _ h
  injection h with h
  injection h
 rcases E with E|rfl
 ·
  match k,E with
  | 0,_=>exact same D.c0 z.c0
  | 1,_=>exact same D.c1 z.c1
  | 2,_=>exact same D.c2 z.c2
  | 3,_=>exact same D.c3 z.c3
  | 4,_=>exact same D.c4 z.c4
 exact same D.c8 z.c8
theorem eQ (w:World)(E h z D:Obj)(v:Value):(((((w.alloc (.cells #[.pointer none] 135)).alloc E).alloc h).alloc z).alloc D |>.setCell ⟨w.heap.size,0,none⟩ v).cell? ⟨w.heap.size,0,none⟩=some v:=
 vD _ _ _ (u:=.pointer none) (by
  rw [xB _ _ ⟨w.heap.size,0,none⟩ (by simp;omega),xB _ _ ⟨w.heap.size,0,none⟩ (by simp;omega),xB _ _ ⟨w.heap.size,0,none⟩ (by simp;omega),xB _ _ ⟨w.heap.size,0,none⟩ (by simp),qO _ _ _ _ rfl];rfl)
def Mc (w:World)(h:Value)(c a:Int):Prop:=(h=.nilIface/\c=0/\a = -1)\/∃ z,A8 w z/\∃ k:Nat,k<9/\c=(k:Int)+1 /\
 ((h=.iface 308 (.pointer (some (z k)))/\a = -1)\/∃ D,h=.iface 135 (.pointer (some ⟨D,0,none⟩))/\w.cell? ⟨D,0,none⟩=some (.int .i64 a)/\w.cell? ⟨D,1,none⟩=some (.iface 308 (.pointer (some (z k)))))
theorem Mc.below {w w':World}{I:Value}{c a:Int}(h:Mc w I c a)(z:zW w w'):Mc w' I c a:=by
 rcases h with h|⟨D,J,k,E,H,h|⟨K,O,N,Q⟩⟩
 · exact .inl h
 · exact .inr ⟨D,J.below z,k,E,H,.inl h⟩
 exact .inr ⟨D,J.below z,k,E,H,.inr ⟨K,O,j7 z N,j7 z Q⟩⟩
theorem XK (w:World):Mc w .nilIface 0 (-1):=.inl ⟨rfl,rfl,rfl⟩
theorem Wv {w:World}{h:Nat->Addr}(D:A8 w h)(k:Nat)(z:k<9):Mc w (.iface 308 (.pointer (some (h k)))) (k+1) (-1):=.inr ⟨h,D,k,z,rfl,.inl ⟨rfl,rfl⟩⟩
theorem Ip {w:World}{z:Nat->Addr}(H:A8 w z)(k:Nat)(D:k<9)(n:Int)(h:Nat)(E:w.cell? ⟨h,0,none⟩=some (.int .i64 n))(I:w.cell? ⟨h,1,none⟩=some (.iface 308 (.pointer (some (z k))))):Mc w (.iface 135 (.pointer (some ⟨h,0,none⟩))) (k+1) n:=.inr ⟨z,H,k,D,rfl,.inr ⟨h,rfl,E,I⟩⟩
structure Ba (w:World)(E:Value)(c p:Int):Prop where
 code:Mc w E c p
 none_:c=0->E=.nilIface
 some_:c≠0->∃ ty v,E=.iface ty v
theorem Ba.below {w w':World}{z:Value}{c p:Int}(h:Ba w z c p)(D:zW w w'):Ba w' z c p:=⟨h.code.below D,h.none_,h.some_⟩
theorem DK (w:World):Ba w .nilIface 0 (-1):=⟨XK w,fun _=>rfl,fun h=>absurd rfl h⟩
theorem Bo {w:World}{h:Nat->Addr}(D:A8 w h)(k:Nat)(z:k<9):Ba w (.iface 308 (.pointer (some (h k)))) (k+1) (-1):=⟨Wv D k z,fun E=>by omega,fun _=>⟨_,_,rfl⟩⟩
theorem Ce (n:Int)(w:World):Calls Tryz.prog 25 #[.int .i64 n] w fun e w'=>e=.returned (.agg #[.int .i64 n,.int .i64 (-1)])/\zW w w':=by
 go_in
 go_wp2
 exact vB (v:=.agg #[.int .i64 n,.int .i64 (-1)]) (by simp[results,Tryz.results25,go_sem]) rfl ⟨rfl,ba⟩
theorem IB (w:World):Calls Tryz.prog 26 #[] w fun e w'=>e=.returned (.agg #[.int .i64 0,.int .i64 (-1)])/\zW w w':=by
 go_in
 go_wp2
 exact vB (v:=.agg #[.int .i64 0,.int .i64 (-1)]) (by simp[results,Tryz.results26,go_sem]) rfl ⟨rfl,ba⟩
structure Two (w w1:World)(x y:Value):Prop where
 c0:w1.cell? ⟨w.heap.size,0,none⟩=some x
 c1:w1.cell? ⟨w.heap.size,1,none⟩=some y
 f0:w1.frozen? ⟨w.heap.size,0,none⟩=false
 f1:w1.frozen? ⟨w.heap.size,1,none⟩=false
theorem Lu (w:World)(x y:Value)(t:TypeId):Two w (w.alloc (.cells #[x,y] t)) x y:=⟨by simp,by simp,by simp,by simp⟩
theorem Two.later {w D E:World}{x y:Value}(h:Two w D x y)(z:zW D E):Two w E x y:=
 have l:=Cg h.c0
 ⟨j7 z h.c0,j7 z h.c1,by rw[z.frozen (p:=⟨w.heap.size,0,none⟩) l];exact h.f0,by rw[z.frozen (p:=⟨w.heap.size,1,none⟩) l];exact h.f1⟩
def Ch (ls:lI)(c a:Int):Prop:=
 ((ls.length<1\/6<ls.length)/\c=3/\a = -1) \/
 (1<=ls.length/\ls.length<=6/\∃ j:Nat,j<ls.length/\(∀ i x y,i<j->ls[i]? = some (x,y)->BM x y=true)/\(∀ x y,ls[j]? = some (x,y)->BM x y=false)/\c=2/\a=j) \/
 (Ak ls/\c=0/\a = -1)
theorem KS (ls:lI):∃ c a,Ch ls c a:=by
 by_cases H:ls.length<1\/6<ls.length
 · exact⟨3,-1,.inl ⟨H,rfl,rfl⟩⟩
 rcases VO ls with E|⟨j,z,D,h⟩
 · exact⟨0,-1,.inr (.inr ⟨⟨by omega,by omega,E⟩,rfl,rfl⟩)⟩
 exact⟨2,j,.inr (.inl ⟨by omega,by omega,j,z,D,h,rfl,rfl⟩)⟩
theorem Ch.ok {ls:lI}{a:Int}(h:Ch ls 0 a):Ak ls/\a = -1:=by
 rcases h with⟨_,h,_⟩|⟨_,_,_,_,_,_,h,_⟩|⟨h,_,z⟩
 · omega
 · omega
 exact⟨h,z⟩
theorem Ch.num {ls:lI}{c a:Int}(h:Ch ls c a):c=0\/c=2\/c=3:=by
 rcases h with⟨_,h,_⟩|⟨_,_,_,_,_,_,h,_⟩|⟨_,h,_⟩ <;> omega
theorem NS (a:oA)(n cap:Nat)(w:World)(J:n<=maxLen)(I:n<1\/6<n):Calls Tryz.prog 23 #[.slice a n cap] w fun e w'=>e=.returned (.agg #[.int .i64 3,.int .i64 (-1)])/\zW w w':=by
 unfold maxLen at J;have z:zW w (w.alloc (.cells #[.int .i64 0,.int .i64 0] 52)):=ba;rcases I with I|I
 ·
  obtain rfl:n=0:=by omega
  go_in
  go_wp2_with fail;refine(Ce 3 _).mono ?_
  rintro e K ⟨rfl,h⟩;obtain⟨D,H,N,O⟩:=(Lu w _ _ _).later h;have E:=qX (z.tr h);clear h z;go_wp2_with fail;exact vB (v:=.agg #[.int .i64 3,.int .i64 (-1)]) (by simp[results,Tryz.results23,go_sem,D,H]) rfl ⟨rfl,(E.o.setCell lr _).setCell lr _⟩
 have Q:¬n<1:=by omega
 go_in
 go_wp2_with fail;refine(Ce 3 _).mono ?_
 rintro e K ⟨rfl,h⟩;obtain⟨D,H,N,O⟩:=(Lu w _ _ _).later h;have E:=qX (z.tr h);clear h z;go_wp2_with fail;exact vB (v:=.agg #[.int .i64 3,.int .i64 (-1)]) (by simp[results,Tryz.results23,go_sem,D,H]) rfl ⟨rfl,(E.o.setCell lr _).setCell lr _⟩
theorem Rt (a:oA)(cap:Nat)(ls:lI)(w:World)(N:AQ w a ls)(Y:Ak ls):Calls Tryz.prog 23 #[.slice a ls.length cap] w fun e w'=>e=.returned (.agg #[.int .i64 0,.int .i64 (-1)])/\zW w w':=by
 obtain⟨ab,ao,H⟩:=Y;obtain⟨b,D,rfl,V,z⟩:=N.some ab;clear N;generalize Q:ls.length=n at *;have ac:=(show Hid (ls.length=n)from Q)
 have I:zW w (w.alloc (.cells #[.int .i64 0,.int .i64 0] 52)):=ba;clear Q;go_in
 go_wp2_with fail;go_loopw [3] (fun i wr=>∃ k:Nat,k<=n/\i=.int .i64 k/\zW w wr/\Two w wr (.int .i64 0) (.int .i64 0)) (fun i _=>n-(intOf i).toNat)
 case atStart=>exact⟨0,qR _,rfl,I,Lu w _ _ _⟩
 case round=>
  obtain⟨k,am,rfl,h,J⟩:=hrel;have E:=qX h;have O:=qX J;by_cases Z:k<n
  ·
   obtain⟨⟨x,y⟩,K,U⟩:=Ab ls k (by rw[ac.o];exact Z);have al:wr.cell? ⟨b,D+k*2,none⟩=some (.int .i64 x):=by rw[h.cell (p:=⟨b,D+k*2,none⟩) V];exact(z k x y K).1
   have aq:wr.cell? ⟨b,D+k*2+1,none⟩=some (.int .i64 y):=by rw[h.cell (p:=⟨b,D+k*2+1,none⟩) V];exact(z k x y K).2
   have W:=(show Hid (BM x y=true)from H _ U)
   clear z H K U h J I;go_wp2_with (go_at_call 34;refine(Jm x y _ W.o).mono ?_;rintro e w' ⟨rfl,rfl⟩)
   go_roundw
   case rel=>exact⟨k+1,by omega,by go_num,E.o.alloc E.o.size _,O.o.later ba⟩
   case measure=>simp[intOf];omega
  clear z H h J I;go_wp2_with fail;refine(IB _).mono ?_
  rintro e an ⟨rfl,h⟩;obtain⟨z,ai,aj,ap⟩:=O.o.later h;have ad:=qX (E.o.tr h);clear h;go_wp2_with fail;exact vB (v:=.agg #[.int .i64 0,.int .i64 (-1)]) (by simp[results,Tryz.results23,go_sem,z,ai]) rfl ⟨rfl,(ad.o.setCell lr _).setCell lr _⟩
theorem PD (a:oA)(cap:Nat)(ls:lI)(w:World)(Q:AQ w a ls)(ac:1<=ls.length)(ar:ls.length<=6)
  (j:Nat) (an:j<ls.length) (J:∀ i x y,i<j->ls[i]? = some (x,y)->BM x y=true) (O:∀ x y,ls[j]? = some (x,y)->BM x y=false) :
  Calls Tryz.prog 23 #[.slice a ls.length cap] w fun e w'=>e=.returned (.agg #[.int .i64 2,.int .i64 j])/\zW w w':=by
 obtain⟨b,E,rfl,Z,z⟩:=Q.some ac;clear Q;generalize W:ls.length=n at *;have ad:=(show Hid (ls.length=n)from W)
 have K:zW w (w.alloc (.cells #[.int .i64 0,.int .i64 0] 52)):=ba;clear W;go_in
 go_wp2_with fail;go_loopw [3] (fun i wr=>∃ k:Nat,k<=j/\i=.int .i64 k/\zW w wr/\Two w wr (.int .i64 0) (.int .i64 0)) (fun i _=>n-(intOf i).toNat)
 case atStart=>exact⟨0,qR _,rfl,K,Lu w _ _ _⟩
 case round=>
  obtain⟨k,aq,rfl,h,N⟩:=hrel;have H:=qX h;have U:=qX N;have ab:k<n:=by omega
  obtain⟨⟨x,y⟩,D,Y⟩:=Ab ls k (by rw[ad.o];exact ab);have ap:wr.cell? ⟨b,E+k*2,none⟩=some (.int .i64 x):=by rw[h.cell (p:=⟨b,E+k*2,none⟩) Z];exact(z k x y D).1
  have aw:wr.cell? ⟨b,E+k*2+1,none⟩=some (.int .i64 y):=by rw[h.cell (p:=⟨b,E+k*2+1,none⟩) Z];exact(z k x y D).2
  by_cases ai:k<j
  ·
   have I:=(show Hid (BM x y=true)from J k x y ai D)
   clear z J D Y h N K O;go_wp2_with (go_at_call 34;refine(Jm x y _ I.o).mono ?_;rintro e w' ⟨rfl,rfl⟩)
   go_roundw
   case rel=>exact⟨k+1,by omega,by go_num,H.o.alloc H.o.size _,U.o.later ba⟩
   case measure=>simp[intOf];omega
  obtain rfl:k=j:=by omega
  have I:=(show Hid (BM x y=false)from O x y D)
  clear z J D Y h N K O;go_wp2_with fail;refine(MX x y _ I.o).mono ?_
  rintro e al ⟨rfl,V⟩;have h:zW wr al:=by rw[V];exact ba
  obtain⟨z,am,ao,av⟩:=U.o.later h;have aj:=qX (H.o.tr h);clear h V;go_wp2_with fail;exact vB (v:=.agg #[.int .i64 2,.int .i64 k]) (by simp[results,Tryz.results23,go_sem,z,am]) rfl ⟨rfl,(aj.o.setCell lr _).setCell lr _⟩
theorem LV (a:oA)(cap:Nat)(ls:lI)(w:World)(z:AQ w a ls)(H:ls.length<=cap)(D:cap<=maxLen)(c p:Int)(h:Ch ls c p):qW 23 #[.slice a ls.length cap] w (.agg #[.int .i64 c,.int .i64 p]):=by
 rcases h with⟨h,rfl,rfl⟩|⟨N,J,j,I,E,K,rfl,rfl⟩|⟨h,rfl,rfl⟩
 · exact NS a ls.length cap w (qI H D) h
 · exact PD a cap ls w z N J j I E K
 exact Rt a cap ls w z h
theorem Mk (n:Int)(w:World):Calls Tryz.prog 143 #[.int .i64 n] w fun e w'=>e=.returned (.bool (decide (1<=n/\n<=1500)))/\w'=w:=by
 by_cases z:1<=n
 ·
  by_cases h:n<=1500
  ·
   rw[show decide (1<=n/\n<=1500)=true by simp[z,h]];go_in
   go_wp2
   go_ret;exact⟨rfl,rfl⟩
  rw[show decide (1<=n/\n<=1500)=false by simp[h]];go_in
  go_wp2
  go_ret;exact⟨rfl,rfl⟩
 rw[show decide (1<=n/\n<=1500)=false by simp[z]];go_in
 go_wp2
 go_ret;exact⟨rfl,rfl⟩
theorem Mv (t:Int)(w:World):Calls Tryz.prog 144 #[.int .i64 t] w fun e w'=>e=.returned (.bool (decide (0<=t/\t<=1099511627776)))/\w'=w:=by
 by_cases z:0<=t
 ·
  by_cases h:t<=1099511627776
  ·
   rw[show decide (0<=t/\t<=1099511627776)=true by simp[z,h]];go_in
   go_wp2
   go_ret;exact⟨rfl,rfl⟩
  rw[show decide (0<=t/\t<=1099511627776)=false by simp[h]];go_in
  go_wp2
  go_ret;exact⟨rfl,rfl⟩
 rw[show decide (0<=t/\t<=1099511627776)=false by simp[z]];go_in
 go_wp2
 go_ret;exact⟨rfl,rfl⟩
theorem Yu {p:Pk}(h:Jk p=false):¬(0<=p.flow/\p.flow<8/\1<=p.size/\p.size<=1500/\0<=p.tick/\p.tick<=1099511627776):=xE h
theorem Rh (x y E:Int)(s t:Bool)(w:World)(D:Hid (∀ w',Calls Tryz.prog 143 #[.int .i64 y] w' fun e H=>e=.returned (.bool s)/\H=w'))(z:Hid (∀ w',Calls Tryz.prog 144 #[.int .i64 E] w' fun e H=>e=.returned (.bool t)/\H=w')):Calls Tryz.prog 119 #[.agg #[.int .i64 x,.int .i64 y,.int .i64 E]] w fun e w'=>e=.returned (.bool (decide (0<=x)&&decide (x<8)&&s&&t))/\w'=w.alloc (.cells #[.int .i64 x,.int .i64 y,.int .i64 E] 50):=by
 by_cases J:0<=x
 ·
  by_cases I:x<8
  ·
   rw[show(decide (0<=x)&&decide (x<8)&&s&&t)=(s&&t)by simp[J,I]];cases s with
   | false=>
    go_in
    go_wp2_with (first
     | (go_at_call 143;refine(D.o _).mono ?_;rintro e h ⟨rfl,rfl⟩)
     | (go_at_call 144;refine (z.o _).mono ?_;rintro e h ⟨rfl,rfl⟩))
    go_ret;exact⟨rfl,rfl⟩
   | true=>
    cases t with
    | false=>
     go_in
     go_wp2_with (first
      | (go_at_call 143;refine(D.o _).mono ?_;rintro e h ⟨rfl,rfl⟩)
      | (go_at_call 144;refine (z.o _).mono ?_;rintro e h ⟨rfl,rfl⟩))
     go_ret;exact⟨rfl,rfl⟩
    | true=>
     go_in
     go_wp2_with (first
      | (go_at_call 143;refine(D.o _).mono ?_;rintro e h ⟨rfl,rfl⟩)
      | (go_at_call 144;refine (z.o _).mono ?_;rintro e h ⟨rfl,rfl⟩))
     go_ret;exact⟨rfl,rfl⟩
  rw[show(decide (0<=x)&&decide (x<8)&&s&&t)=false by simp[I]];go_in
  go_wp2
  go_ret;exact⟨rfl,rfl⟩
 rw[show(decide (0<=x)&&decide (x<8)&&s&&t)=false by simp[J]];go_in
 go_wp2
 go_ret;exact⟨rfl,rfl⟩
theorem Ij (p:Pk)(w:World):Calls Tryz.prog 119 #[.agg #[.int .i64 p.flow,.int .i64 p.size,.int .i64 p.tick]] w fun e w'=>e=.returned (.bool (Jk p))/\w'=w.alloc (.cells #[.int .i64 p.flow,.int .i64 p.size,.int .i64 p.tick] 50):=by
 have h:=Rh p.flow p.size p.tick _ _ w (fun w'=>Mk p.size w') (fun w'=>Mv p.tick w');rw [show (decide (0 <= p.flow) && decide (p.flow < 8) && decide (1 <= p.size /\ p.size <= 1500) && decide (0 <= p.tick /\ p.tick <= 1099511627776))=Jk p by
  unfold Jk;simp only [Bool.decide_and,Bool.and_assoc]] at h
 exact h
def K8 (ps:List Pk)(j:Nat):Prop:=∀(i:Nat) q,i<j->ps[i]? = some q->Jk q=true/\ahead ps i<=q.tick
theorem Ka {ps:List Pk}{k:Nat}{p:Pk}(h:ps[k]? = some p):ahead ps (k+1)=p.tick:=by simp only[ahead];rw[h]
theorem Va (a:oA)(n cap:Nat)(w:World)(h:Nat->Addr)(D:J5 w h)(z:n<=maxLen)(E:300<n):Calls Tryz.prog 96 #[.slice a n cap] w fun e w'=>e=.returned (.iface 308 (.pointer (some (h 1))))/\w'=w:=by
 unfold maxLen at z;have H:=D.c1;go_in
 go_wp2
 go_ret;exact⟨rfl,rfl⟩
theorem JO (a:oA)(cap:Nat)(ps:List Pk)(w:World)(H:Aw w a ps)(I:Al ps):Calls Tryz.prog 96 #[.slice a ps.length cap] w fun e w'=>e=.returned .nilIface/\zW w w':=by
 by_cases J:ps=[]
 ·
  subst J;show Calls Tryz.prog 96 #[.slice a 0 cap] w _
  clear H;go_in
  go_wp2
  refine xG 1 ?_
  rw[xL];go_wp2
  go_ret;exact⟨rfl,br⟩
 obtain⟨b,h,rfl,K,N⟩:=H.place (by cases ps with|nil=>exact absurd rfl J|cons p r=>simp);have Z:=qX N;have ab:=qX I;have ao:=I.few;clear H I N J;generalize O:ps.length=n at *;have W:=(show Hid (ps.length=n)from O)
 clear O;go_in
 go_wp2
 go_loopw [3,12] (fun l i wr=>∃ k:Nat,k<=n/\i=.int .i64 k/\l=.int .i64 (ahead ps k)/\zW w wr) (fun _ i _=>n-(intOf i).toNat)
 case atStart=>exact⟨0,qR _,rfl,rfl,br⟩
 case round=>
  obtain⟨k,al,rfl,rfl,z⟩:=hrel;have E:=qX z;by_cases V:k<n
  ·
   obtain⟨p,D,-⟩:=Ab ps k (by rw[W.o];exact V);obtain⟨d1,d2,d3⟩:=Z.o k p D;have aj:wr.cell? ⟨b,h+k*3,none⟩=some (.int .i64 p.flow):=by rw[z.cell (p:=⟨b,h+k*3,none⟩) K];exact d1
   have aq:wr.cell? ⟨b,h+k*3+1,none⟩=some (.int .i64 p.size):=by rw[z.cell (p:=⟨b,h+k*3+1,none⟩) K];exact d2
   have ai:wr.cell? ⟨b,h+k*3+2,none⟩=some (.int .i64 p.tick):=by rw[z.cell (p:=⟨b,h+k*3+2,none⟩) K];exact d3
   obtain⟨Q,am⟩:=ab.o.each k p D;have ac:=qX (Ka D);have Y:Hid (∀ w',Calls Tryz.prog 119 #[.agg #[.int .i64 p.flow,.int .i64 p.size,.int .i64 p.tick]] w' fun e ad=>e=.returned (.bool true)/\ad=w'.alloc (.cells #[.int .i64 p.flow,.int .i64 p.size,.int .i64 p.tick] 50)):=fun w'=>by
    have:=Ij p w';rwa[Q]at this
   clear d1 d2 d3 D Q z;have ap:¬p.tick<ahead ps k:=by omega
   generalize ahead ps k=L at *;generalize p.flow=x at *;generalize p.size=y at *;generalize p.tick=an at *;go_wp2_with (go_at_call 119;refine(Y.o _).mono ?_;rintro e w' ⟨rfl,rfl⟩)
   have U:=E.o.size;go_roundw
   case rel=>exact⟨k+1,by omega,by go_num,by rw[ac.o],(E.o.alloc U _).alloc (by simp;omega) _⟩
   case measure=>simp[intOf];omega
  go_wp2
  go_ret;exact⟨rfl,E.o⟩
def QW (ps:List Pk)(j:Nat)(p:Pk)(k:Nat):Prop:=(Jk p=false/\k=1)\/(Jk p=true/\p.tick<ahead ps j/\k=4)
theorem ZL (ps:List Pk):Al ps\/300<ps.length\/(ps.length<=300/\∃ j p k,ps[j]? = some p/\K8 ps j/\QW ps j p k):=by
 by_cases H:300<ps.length
 · exact .inr (.inl H)
 have h:∀ j,j<=ps.length->K8 ps j\/∃ i p k,ps[i]? = some p/\K8 ps i/\QW ps i p k:=by
  intro j;induction j with
  | zero=>intro _;exact .inl fun i q N=>by omega
  | succ j J=>
   intro O;rcases J (by omega)with h|h
   ·
    obtain⟨p,z,-⟩:=Ab ps j (by omega);cases D:Jk p with
    | false=>exact .inr ⟨j,p,1,z,h,.inl ⟨D,rfl⟩⟩
    | true=>
     by_cases I:p.tick<ahead ps j
     · exact .inr ⟨j,p,4,z,h,.inr ⟨D,I,rfl⟩⟩
     refine .inl fun i q N E=>?_
     by_cases K:i<j
     · exact h i q K E
     obtain rfl:i=j:=by omega
     obtain rfl:p=q:=Option.some.inj (z.symm.trans E);exact⟨D,by omega⟩
   exact .inr h
 rcases h ps.length lr with h|h
 ·
  exact .inl ⟨by omega,fun i p z=>h i p (by
   rcases qC i ps.length with h|h
   · exact h
   simp [qH h] at z) z⟩
 exact .inr (.inr ⟨by omega,h⟩)
theorem YC (a:oA)(cap:Nat)(ps:List Pk)(w:World)(Z:Nat->Addr)(aj:J5 w Z)(W:Aw w a ps)(a0:ps.length<=300)(j:Nat)(p:Pk)(O:ps[j]? = some p)(ab:K8 ps j)(k:Nat)(ai:QW ps j p k):Calls Tryz.prog 96 #[.slice a ps.length cap] w fun e w'=>zW w w'/\∃ B,e=.returned (.iface 135 (.pointer (some ⟨B,0,none⟩)))/\w.heap.size<=B/\B<w'.heap.size/\w'.cell? ⟨B,0,none⟩=some (.int .i64 j)/\w'.cell? ⟨B,1,none⟩=some (.iface 308 (.pointer (some (Z k)))):=by
 have aE:j<ps.length:=by
  rcases qC j ps.length with K|K
  · exact K
  simp[qH K]at O
 obtain⟨b,E,rfl,U,V⟩:=W.place (by omega);have ar:=qX V;have ao:=qX ab;have Y:=qX aj;have aw:=qX O;have an:=qX ai;clear W ab V aj O ai;generalize ad:ps.length=n at *;have al:=(show Hid (ps.length=n)from ad)
 clear ad;go_in
 go_wp2
 go_loopw [3,12] (fun l i wr=>∃ q:Nat,q<=j/\i=.int .i64 q/\l=.int .i64 (ahead ps q)/\zW w wr) (fun _ i _=>n-(intOf i).toNat)
 case atStart=>exact⟨0,qR _,rfl,rfl,br⟩
 case round=>
  obtain⟨q,aS,rfl,rfl,h⟩:=hrel;have H:=qX h;have N:=h.size;have ap:q<n:=by omega
  obtain⟨r,D,-⟩:=Ab ps q (by rw[al.o];exact ap);obtain⟨d1,d2,d3⟩:=ar.o q r D;have a1:wr.cell? ⟨b,E+q*3,none⟩=some (.int .i64 r.flow):=by rw[h.cell (p:=⟨b,E+q*3,none⟩) U];exact d1
  have a3:wr.cell? ⟨b,E+q*3+1,none⟩=some (.int .i64 r.size):=by rw[h.cell (p:=⟨b,E+q*3+1,none⟩) U];exact d2
  have aN:wr.cell? ⟨b,E+q*3+2,none⟩=some (.int .i64 r.tick):=by rw[h.cell (p:=⟨b,E+q*3+2,none⟩) U];exact d3
  by_cases Q:q<j
  ·
   obtain⟨z,aq⟩:=ao.o q r Q D;have aB:=qX (Ka D);have I:Hid (∀ w',Calls Tryz.prog 119 #[.agg #[.int .i64 r.flow,.int .i64 r.size,.int .i64 r.tick]] w' fun e J=>e=.returned (.bool true)/\J=w'.alloc (.cells #[.int .i64 r.flow,.int .i64 r.size,.int .i64 r.tick] 50)):=fun w'=>by
    have:=Ij r w';rwa[z]at this
   clear d1 d2 d3 D z h;have a2:¬r.tick<ahead ps q:=by omega
   generalize ahead ps q=L at *;generalize r.flow=x at *;generalize r.size=y at *;generalize r.tick=ac at *;go_wp2_with (go_at_call 119;refine(I.o _).mono ?_;rintro e w' ⟨rfl,rfl⟩)
   go_roundw
   case rel=>exact⟨q+1,by omega,by go_num,by rw[aB.o],(H.o.alloc N _).alloc (by simp;omega) _⟩
   case measure=>simp[intOf];omega
  obtain rfl:q=j:=by omega
  obtain rfl:r=p:=Option.some.inj (D.symm.trans aw.o);have av:=j7 (((y6 wr.heap.size wr).alloc lr (.cells #[.int .i64 r.flow,.int .i64 r.size,.int .i64 r.tick] 50)).alloc (by simp) (.cells #[.int .i64 r.flow,.int .i64 r.size,.int .i64 r.tick] 50)) (j7 H.o Y.o.c1);have am:=j7 (((y6 wr.heap.size wr).alloc lr (.cells #[.int .i64 r.flow,.int .i64 r.size,.int .i64 r.tick] 50)).alloc (by simp) (.cells #[.int .i64 r.flow,.int .i64 r.size,.int .i64 r.tick] 50)) (j7 H.o Y.o.c4);rcases an.o with⟨z,rfl⟩|⟨z,aq,rfl⟩
  ·
   have I:Hid (∀ w',Calls Tryz.prog 119 #[.agg #[.int .i64 r.flow,.int .i64 r.size,.int .i64 r.tick]] w' fun e J=>e=.returned (.bool false)/\J=w'.alloc (.cells #[.int .i64 r.flow,.int .i64 r.size,.int .i64 r.tick] 50)):=fun w'=>by
    have:=Ij r w';rwa[z]at this
   clear d1 d2 d3 D z h am Q;generalize ahead ps q=L at *;generalize r.flow=x at *;generalize r.size=y at *;generalize r.tick=ac at *;go_wp2_with (go_at_call 119;refine(I.o _).mono ?_;rintro e w' ⟨rfl,rfl⟩)
   go_ret;refine⟨((H.o.alloc N _).alloc (by simp;omega) _).alloc (by simp;omega) _,_,rfl,?_,?_,?_,?_⟩
   · omega
   · simp
   · rw[qO _ _ _ _ (by simp)];rfl
   rw[qO _ _ _ _ (by simp)];rfl
  have I:Hid (∀ w',Calls Tryz.prog 119 #[.agg #[.int .i64 r.flow,.int .i64 r.size,.int .i64 r.tick]] w' fun e J=>e=.returned (.bool true)/\J=w'.alloc (.cells #[.int .i64 r.flow,.int .i64 r.size,.int .i64 r.tick] 50)):=fun w'=>by
   have:=Ij r w';rwa[z]at this
  clear d1 d2 d3 D z h av Q;generalize ahead ps q=L at *;generalize r.flow=x at *;generalize r.size=y at *;generalize r.tick=ac at *;go_wp2_with (go_at_call 119;refine(I.o _).mono ?_;rintro e w' ⟨rfl,rfl⟩)
  go_ret;refine⟨((H.o.alloc N _).alloc (by simp;omega) _).alloc (by simp;omega) _,_,rfl,?_,?_,?_,?_⟩
  · omega
  · simp
  · rw[qO _ _ _ _ (by simp)];rfl
  rw[qO _ _ _ _ (by simp)];rfl
end Go.Proofs.YtejlihcdfffafaaGreatDoor
