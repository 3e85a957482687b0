/- Short names. -/
import Derived.Below
import Derived.KernelRfl
import Derived.Test.YtaoikkhlnhfkfaaGreatDoorRows
import Derived.WalkKit
import Derived.WalkSpells
import Derived.WalkLawsBesides
import Derived.BigQuiet
import Derived.LaidEql
import Derived.Stop.Asserts
import Derived.RowKitTokens
namespace Go.RowKit
theorem Hid.o {p:Prop} (h:Hid p):p:=h
theorem Below.tr {u v w:World} (h:Below u.heap.size u v) (k:Below v.heap.size v w):Below u.heap.size u w:=h.trans (k.mono h.size)
end Go.RowKit
namespace Go
abbrev Value.q (z:Int):Value:=.int .i64 z
abbrev Value.sn:Value:=.slice none 0 0
abbrev Value.pp (b o:Nat):Value:=.pointer (some ⟨b,o,none⟩)
abbrev Value.sl (b o n c:Nat):Value:=.slice (some ⟨b,o,none⟩) n c
abbrev World.z (w:World):Nat:=w.heap.size
abbrev Value.s (a:Option Addr) (n c:Nat):Value:=.slice a n c
abbrev Value.p (a:Option Addr):Value:=.pointer a
abbrev Value.f (t:TypeId) (v:Value):Value:=.iface t v
abbrev Value.t (a:Array Value):Value:=.tuple a
abbrev Value.st (b:ByteArray):Value:=.string b
abbrev Value.n:Value:=.nilIface
abbrev Ending.r (v:Value):Ending:=.returned v
abbrev Obj.c (c:Array Value) (t:TypeId) (f:Nat×Nat:=(0,0)):Obj:=.cells c t f
abbrev World.al (w:World) (c:Array Value) (t:TypeId):World:=w.alloc (.cells c t)
end Go
namespace Go.Proofs.YtaoikkhlnhfkfaaGreatDoor
open Go Go.RowKit
abbrev C (b o:Nat):Addr:=⟨b,o,none⟩
abbrev sa (b o:Nat):Option Addr:=some ⟨b,o,none⟩
abbrev uu:Value:=undef
theorem sx{p q:Prop}(h:p)(g:p->q:=by intro h;simpa using h):q:=g h
theorem oe{p q:Prop}(h:p)(g:p->q:=by intro h;omega):q:=g h
theorem ot{p q:Prop}(h:p)(g:p->q:=by intro h;rw[h];omega):q:=g h
theorem oi{p q r:Prop}(h:p)(k:q)(g:p->q->r:=by intro h k;omega):r:=g h k
theorem so{q:Prop}(h:q:=by simp;omega):q:=h
theorem oj{p q:Prop}(h:p)(g:p->q:=by intro h;rw[h];simp):q:=g h
theorem oy{p q:Prop}(h:p)(g:p->q:=by intro h;simp[h]):q:=g h
theorem oF{p q:Prop}(h:p)(g:p->q:=by intro h;simp at h):q:=g h
theorem nf{p q:Prop}(h:p)(g:p->q:=by intro h;cases h):q:=g h
theorem oB{p q:Prop}(h:p)(g:p->q:=by intro h;rw[h]<;>rfl):q:=g h
theorem nd{q:Prop}(h:q:=by go_num):q:=h
theorem td{q:Prop}(h:q:=by decide+kernel):q:=h
theorem ud{q:Prop}(h:q:=by unfold maxLen;omega):q:=h
theorem sL{q:Prop}(h:q:=by simp_all):q:=h
theorem rj{p q r:Prop}(e:p)(h:q)(g:p->q->r:=by intro e h;rw[e];exact h):r:=g e h
theorem ri{p q r:Prop}(e:p)(h:q)(g:p->q->r:=by intro e h;rw[<-e];exact h):r:=g e h
theorem sX{p q r:Prop}(e:p)(h:q)(g:p->q->r:=by intro e h;simpa[e]using h):r:=g e h
theorem J.{u}{α:Sort u}{a:α}:a=a:=rfl
theorem sk:True:=trivial
theorem N {p:Prop} (h:p:=by omega):p:=h
theorem sm {p:Prop} (h:p:=by simp):p:=h
theorem dc {p:Prop} (h:p:=by decide):p:=h
theorem kr {p:Prop} (h:p:=by kernel_rfl):p:=h
abbrev M:=World
abbrev Vl:=Value
abbrev lZ:=List Int
abbrev lN:=List Nat
abbrev bA:=ByteArray
abbrev gR:=Goroutine
abbrev pG:=Program
abbrev lF:=List Frame
abbrev tI:=TypeId
abbrev fI:=FuncId
abbrev lM:=List Item
abbrev aO:=Array Oper
theorem qX {p:Prop} (h:p):Hid p:=h
theorem qY {p q:Prop} (a:p) (b:q):Hid (p∧q):=⟨a,b⟩
theorem qZ {p q r:Prop} (a:p) (b:q) (c:r):Hid (p∧q∧r):=⟨a,b,c⟩
theorem qV {p q r s:Prop} (a:p) (b:q) (c:r) (d:s):Hid (p∧q∧r∧s):=⟨a,b,c,d⟩
theorem br {n:Nat} {w:World}:Below n w w:=Below.refl _ _
theorem lr {n:Nat}:n≤n:=Nat.le_refl n
theorem ba {w:World} {o:Obj}:Below w.heap.size w (w.alloc o):=(Below.refl _ _).alloc (Nat.le_refl _) _
theorem ex {α:Type} (t:α):∃ x,t=x:=⟨_,rfl⟩
abbrev zW (u v:World):Prop:=Below u.heap.size u v
abbrev lI:=List (Int×Int)
abbrev oA:=Option Addr
abbrev Ë (f:Nat) (a:Array Value) (w:World) (Q:Ending→World→Prop):Prop:=Calls Tryz.prog f a w Q
abbrev qW (f:Nat) (a:Array Value) (w:World) (v:Value):Prop:=Calls Tryz.prog f a w fun e w'=>e=.returned v∧Below w.heap.size w w'
abbrev bC:=@Below.refl
abbrev jf:=@cell_later
abbrev nR:=@Nat.lt_or_ge
abbrev rX:=@Nat.le_trans
abbrev rZ:=@Nat.lt_of_lt_of_le
abbrev sF:=@World.cell?_setCell_other
abbrev sV:=@List.mem_cons
abbrev uD:=@Nat.zero_le
abbrev ï:=@List.mem_cons_self
abbrev ì:=@below_drewN
abbrev Ę:=@bodyPost_ret
abbrev ë:=@List.getElem?_eq_getElem
abbrev Ā:=@Int.le_refl
abbrev ñ:=@World.frozen?_setCell
abbrev ý:=@List.length_append
abbrev ó:=@info_parts
abbrev ĕ:=@decide_eq_false
abbrev Ĥ:=@List.mem_cons_of_mem
abbrev Ă:=@Nat.zero_add
abbrev ÿ:=@Array.getElem?_eq_getElem
abbrev ď:=@decide_eq_true
abbrev ą:=@List.getElem?_eq_none
abbrev Ĉ:=@World.ownsRow_nil
abbrev Ċ:=@List.length_cons
abbrev č:=@List.getElem?_append_left
abbrev Ġ:=@List.length_nil
abbrev Đ:=@List.mem_singleton
abbrev ė:=@Option.map_eq_some_iff
abbrev Ğ:=@List.length_eq_zero_iff
abbrev Ł:=@beq_iff_eq
abbrev Ģ:=@Nat.eq_zero_or_pos
abbrev Ĵ:=@IntWalk.i64_in
abbrev ī:=@lt_of_block
abbrev ĵ:=@List.mem_of_getElem?
abbrev Ŗ:=@Int.mul_nonneg
abbrev ĭ:=@List.mem_append
abbrev İ:=@Nat.not_lt_zero
abbrev j2:=@Int.lt_or_le
abbrev Ŏ:=@World.cell?_alloc_at
abbrev ŏ:=@World.cell?_setCell_same
abbrev ō:=@Nat.lt_succ_self
abbrev Ţ:=@List.getElem?_append_right
abbrev ř:=@heap_alloc_new
abbrev ŕ:=@Nat.le_of_lt
abbrev œ:=@Nat.le_succ
abbrev ś:=@World.cell?_setCell_same'
abbrev Ř:=@rounds_succ
abbrev kh:=@Int.mul_le_mul_of_nonneg_left
abbrev ŭ:=@List.getElem?_eq_some_iff
abbrev Θ:=@of_decide_eq_true
abbrev ŧ:=@World.cell?_alloc_lt
abbrev ū:=@wp_loop_rounds
abbrev Ζ:=@List.getElem_mem
abbrev Ť:=@List.nodup_cons
abbrev Ŭ:=@run_make
abbrev Δ:=@List.take_add_one
abbrev Ų:=@Nat.lt_succ_of_lt
abbrev ų:=@Nat.lt_irrefl
abbrev ŷ:=@List.pairwise_iff_getElem
abbrev ź:=@run_underlying
abbrev Ε:=@List.length_take
abbrev j7:=@of_decide_eq_false
abbrev ν:=@World.drewN_drewN
abbrev ζ:=@List.append_nil
abbrev ς:=@List.cons_append
abbrev Ο:=@Nat.sub_self
abbrev iG:=@List.take_of_length_le
abbrev Χ:=@Array.getElem?_eq_none
abbrev lE:=@List.filter_cons
abbrev ψ:=@List.getElem?_take
abbrev aV:=@List.getElem?_cons_zero
abbrev υ:=@List.mem_iff_getElem?
abbrev θ:=@Nat.lt_trichotomy
abbrev η:=@cell_of_one
abbrev τ:=@List.getElem?_map
abbrev χ:=@Int.mul_le_mul
abbrev jB:=@World.frozen?_alloc_new
abbrev q7:=@Int.mul_le_mul_of_nonneg_right
abbrev j3:=@List.getElem_of_mem
abbrev jN:=@List.map_cons
abbrev j4:=@List.sum_cons
abbrev ko:=@World.frozen?_of_block
abbrev ld:=@List.length_drop
abbrev kx:=@Option.bind_some
abbrev ln:=@List.take_length
abbrev lx:=@List.length_map
abbrev lB:=@World.cell?_of_block
abbrev k9:=@List.length_pos_iff
abbrev lg:=@List.getElem?_take_of_lt
abbrev k4:=@List.filter_eq_self
abbrev rY:=@List.filter_append
abbrev lL:=@List.take_append_of_le_length
abbrev Ö:=@Option.some.inj
abbrev û:=@Array.getElem?_setIfInBounds_ne
abbrev Ä:=@if_neg
abbrev Æ:=@if_pos
abbrev é:=@Option.getD_some
abbrev ş:=@Array.getElem?_setIfInBounds_self_of_lt
abbrev ġ:=@List.not_mem_nil
abbrev Η:=@Array.getD_eq_getD_getElem?
abbrev Ĭ:=@Bool.false_eq_true
abbrev ĺ:=@List.mem_toArray
abbrev Ŝ:=@Bool.and_eq_true
abbrev ż:=@Classical.byContradiction
abbrev ŵ:=@Array.mem_of_getElem?
abbrev jo:=@Array.all_eq_true_iff_forall_mem
abbrev ω:=@Array.getElem?_eq_some_iff
abbrev ł:=@Bool.or_eq_true
abbrev ő:=@Sem.run_bind
abbrev ĝ:=@or_false
abbrev Ő:=@List.mem_map
abbrev ũ:=@Stepped.next.inj
abbrev Α:=@beq_eq_false_iff_ne
abbrev Β:=@Array.getElem?_push
abbrev ô:=@if_true
abbrev ţ:=@Option.map_some
abbrev Ŷ:=@List.size_toArray
abbrev Ż:=@Result.ok.injEq
abbrev Λ:=@Result.andThen_ok
abbrev ę:=@if_false
abbrev π:=@Array.getElem?_modify
abbrev jA:=@Nat.add_sub_cancel_left
abbrev kA:=@List.getD_eq_getElem?_getD
abbrev kZ:=@decide_eq_true_eq
abbrev kU:=@Array.size_setIfInBounds
abbrev Ů:=@Sem.run_pure
abbrev ž:=@Prod.mk.injEq
abbrev Ρ:=@List.mem_filter
abbrev jx:=@Array.getElem?_map
abbrev lV:=@List.contains_eq_mem
abbrev ο:=@Array.mem_append
abbrev ť:=@congrArg
abbrev kj:=@Array.empty_append
abbrev ħ:=@Ne.symm
abbrev ρ:=@List.mem_range
abbrev jQ:=@IntKind.wrap_i64
abbrev lk:=@Option.bind_eq_some_iff
abbrev κ:=@Addr.add_lit
abbrev kO:=@Array.append_empty
abbrev js:=@Nat.le_of_eq
abbrev ly:=@Array.mem_iff_getElem
abbrev ml:=@Array.getElem?_append
abbrev k6:=@Option.some.injEq
abbrev ki:=@List.nodup_nil
abbrev l4:=@Array.mapM_eq_mapM_toList
abbrev kt:=@Nat.add_zero
abbrev mr:=@World.frozen?_alloc_old
abbrev mw:=@Array.getElem?_push_lt
abbrev jL:=@Nat.mul_one
abbrev kp:=@Nat.ne_of_lt
abbrev mc:=@Int.mul_ediv_add_emod
abbrev pd:=@List.all_eq_true
abbrev kB:=@DataW.trod_int
abbrev l6:=@List.length_eraseIdx
abbrev n1:=@Array.getElem?_setIfInBounds
abbrev lu:=@World.cell?_spot
abbrev lj:=@List.range_succ
abbrev mg:=@List.map_eq_nil_iff
abbrev lR:=@Array.size_push
abbrev mn:=@Array.mem_singleton
abbrev nx:=@Array.getElem?_eq_none_iff
abbrev l3:=@Nat.add_sub_cancel
abbrev ks:=@Nat.add_comm
abbrev kY:=@Int.mul_comm
abbrev j8:=@bne_iff_ne
abbrev mm:=@Nat.succ_le_of_lt
abbrev lO:=@List.nodup_append
abbrev lv:=@size_madeCells
abbrev lq:=@Nat.add_assoc
abbrev m3:=@Int.mul_sub
abbrev mj:=@Int.mul_add
abbrev mC:=@Int.dvd_of_emod_eq_zero
abbrev mA:=@Bool.not_true
abbrev mu:=@Bool.false_or
abbrev n2:=@beq_self_eq_true
abbrev lP:=@Way.partner.injEq
abbrev m8:=@Nat.le_of_not_lt
abbrev mX:=@List.length_pos_of_mem
abbrev mH:=@Array.getElem?_extract
end Go.Proofs.YtaoikkhlnhfkfaaGreatDoor
