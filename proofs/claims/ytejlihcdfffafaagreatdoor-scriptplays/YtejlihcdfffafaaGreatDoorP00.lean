/- Short names. -/
import Derived.Below
import Derived.Test.YtejlihcdfffafaaGreatDoorRows
import Derived.WalkKit
import Derived.WalkSpells
import Derived.WalkLawsBesides
import Derived.BigQuiet
import Derived.ProofKit
import Derived.OpenShut
import Derived.ShutString
import Derived.ChangeOld
import Derived.ChangeVars
import Derived.Deep.SlicePairs
import Derived.Lib.SmallJoins
import Derived.LaidMore
import Derived.LaidLaws
import Derived.LaidHandle
import Derived.Stop.LaidErr
import Derived.Stop.Joined
import Derived.Laws.MakeOwn
namespace Go.RowKit
theorem Hid.o {p:Prop} (h:Hid p):p:=h
theorem Below.tr {u v w:World} (h:Below u.heap.size u v) (k:Below v.heap.size v w):Below u.heap.size u w:=h.trans (k.mono h.size)
end Go.RowKit
namespace Go.Proofs.YtejlihcdfffafaaGreatDoor
open Go Go.RowKit
theorem qX {p:Prop} (h:p):Hid p:=h
theorem qY {p q:Prop} (a:p) (b:q):Hid (p∧q):=⟨a,b⟩
theorem qZ {p q r:Prop} (a:p) (b:q) (c:r):Hid (p∧q∧r):=⟨a,b,c⟩
theorem qV {p q r s:Prop} (a:p) (b:q) (c:r) (d:s):Hid (p∧q∧r∧s):=⟨a,b,c,d⟩
theorem br {n:Nat} {w:World}:Below n w w:=Below.refl _ _
theorem lr {n:Nat}:n≤n:=Nat.le_refl n
theorem ba {w:World} {o:Obj}:Below w.heap.size w (w.alloc o):=(Below.refl _ _).alloc (Nat.le_refl _) _
theorem ex {α:Type} (t:α):∃ x,t=x:=⟨_,rfl⟩
abbrev zW (u v:World):Prop:=Below u.heap.size u v
abbrev lI:=List (Int×Int)
abbrev oA:=Option Addr
abbrev qW (f:Nat) (a:Array Value) (w:World) (v:Value):Prop:=Calls Tryz.prog f a w fun e w'=>e=.returned v∧Below w.heap.size w w'
abbrev j7:=@cell_later
abbrev j9:=@World.cell?_setCell_other
abbrev qA:=@List.mem_cons_self
abbrev qC:=@Nat.lt_or_ge
abbrev qD:=@Nat.lt_of_lt_of_le
abbrev qE:=@List.getElem?_eq_getElem
abbrev qF:=@decide_eq_false
abbrev qG:=@List.mem_cons_of_mem
abbrev qH:=@List.getElem?_eq_none
abbrev qI:=@Nat.le_trans
abbrev qJ:=@List.length_append
abbrev qK:=@World.frozen?_setCell
abbrev qL:=@below_drewN
abbrev qM:=@decide_eq_true
abbrev qN:=@List.length_eq_zero_iff
abbrev qO:=@World.cell?_alloc_at
abbrev qP:=@Int.mul_le_mul_of_nonneg_left
abbrev qQ:=@World.ownsRow_nil
abbrev qR:=@Nat.zero_le
abbrev qS:=@List.mem_cons
abbrev qT:=@World.cell?_setCell_same'
abbrev qU:=@List.getElem?_append_left
abbrev q8:=@Int.le_refl
abbrev q9:=@List.mem_of_getElem?
abbrev vB:=@bodyPost_ret
abbrev vC:=@Nat.zero_add
abbrev vD:=@World.cell?_setCell_same
abbrev vF:=@List.take_add_one
abbrev vG:=@Int.mul_nonneg
abbrev vH:=@List.length_cons
abbrev vI:=@List.mem_append
abbrev vJ:=@List.mem_singleton
abbrev vK:=@List.getElem?_eq_some_iff
abbrev vL:=@info_parts
abbrev vM:=@of_decide_eq_true
abbrev vN:=@List.pairwise_cons
abbrev vO:=@List.length_take
abbrev vP:=@List.take_of_length_le
abbrev vQ:=@World.frozen?_alloc_new
abbrev vR:=@Nat.not_lt_zero
abbrev vT:=@Int.mul_le_mul_of_nonneg_right
abbrev vU:=@List.length_nil
abbrev vV:=@Int.lt_or_le
abbrev vW:=@List.getElem?_append_right
abbrev vX:=@Array.getElem?_eq_none
abbrev vY:=@IntWalk.i64_in
abbrev vZ:=@heap_alloc_new
abbrev xA:=@List.take_length
abbrev xB:=@World.cell?_alloc_lt
abbrev xC:=@List.pairwise_iff_getElem
abbrev xD:=@Option.map_eq_some_iff
abbrev xE:=@of_decide_eq_false
abbrev xF:=@List.getElem?_cons_zero
abbrev xG:=@wp_loop_rounds
abbrev xJ:=@List.length_reverse
abbrev xK:=@Int.mul_comm
abbrev xL:=@rounds_succ
abbrev xM:=@List.getElem?_map
abbrev xN:=@List.mem_iff_getElem?
abbrev xO:=@wpList_append_own_at
abbrev xP:=@Nat.eq_zero_or_pos
abbrev xQ:=@List.getElem_mem
abbrev xR:=@lt_of_block
abbrev xS:=@Nat.lt_succ_of_lt
abbrev xU:=@World.drewN_drewN
abbrev xV:=@Int.mul_left_comm
abbrev xW:=@Int.mul_sub
abbrev xX:=@Array.getElem?_eq_getElem
abbrev xY:=@World.frozen?_of_block
abbrev xZ:=@List.length_map
abbrev x6:=@List.append_nil
abbrev x8:=@List.eq_of_mem_replicate
abbrev x9:=@Nat.le_of_lt
abbrev yA:=@List.nodup_cons
abbrev yB:=@Int.toNat_natCast
abbrev yC:=@List.getElem?_cons_succ
abbrev yD:=@Int.mul_le_mul
abbrev yE:=@World.cell?_of_block
abbrev yF:=@List.filter_cons
abbrev yG:=@List.take_append_of_le_length
abbrev yH:=@List.length_pos_iff
abbrev yI:=@List.getElem?_take_of_lt
abbrev yJ:=@Int.le_of_lt
abbrev yK:=@List.length_drop
abbrev yL:=@List.cons_append
abbrev yM:=@List.mem_of_mem_take
abbrev yN:=@Nat.lt_trichotomy
abbrev yO:=@Array.toList_setIfInBounds
abbrev yP:=@List.getElem_of_mem
abbrev yQ:=@List.filter_eq_self
abbrev yR:=@List.getElem?_take
abbrev yS:=@List.map_cons
abbrev yT:=@Nat.sub_self
abbrev yU:=@Nat.le_succ
abbrev yV:=@Nat.lt_succ_self
abbrev yW:=@run_make
abbrev yX:=@run_underlying
abbrev yY:=@Int.mul_add
abbrev yZ:=@beq_iff_eq
abbrev y6:=@Below.refl
abbrev y8:=@Option.bind_some
abbrev y9:=@cell_of_one
abbrev zA:=@List.filter_append
abbrev zB:=@List.getElem?_set_self
abbrev zC:=@List.nil_append
abbrev zD:=@Nat.lt_irrefl
abbrev zE:=@List.sum_cons
abbrev zG:=@Array.getElem?_toList
end Go.Proofs.YtejlihcdfffafaaGreatDoor
