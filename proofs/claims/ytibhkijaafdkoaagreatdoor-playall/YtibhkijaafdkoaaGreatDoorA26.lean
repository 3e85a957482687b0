/- Own facts, put together: no statement of its own. -/
import Derived.Maps.OwnOps
import Derived.Maps.Views
import Derived.Laws.EntriesVeiled
import Derived.Laws.StructEq
import Derived.Test.YtibhkijaafdkoaaGreatDoorA18
import Derived.Test.YtibhkijaafdkoaaGreatDoorA04
namespace Go.Proofs.YtibhkijaafdkoaaGreatDoor
open Go.RowKit
theorem checkS {P : Program} {k : TypeId} (hk : P.underlying k = some .string) (w : World) (b : Bool) (s : ByteArray) : (Instr.checkKey b 10000 k (.string s)).run P w = .ok () w := by
 show (Instr.checkKey b (9999 + 1) k (.string s)).run P w = _
 unfold Instr.checkKey
 simp [run_underlying hk, Result.andThen]
theorem putS {P : Program} {t k e : TypeId} (ht : P.underlying t = some (.map k e)) (hk : P.underlying k = some .string) {w : World} {b : Nat} {es : Array MapEntry} {clock : Nat} (hb : w.heap[b]? = some (.map es clock)) (s : ByteArray) (v : Value) (hn : Instr.findNow .string (.string s) es.toList 0 = some none) :
  ∃ w', (Instr.mapUpdate t (.map (some b)) (.string s) v).run P w = .ok () w' ∧ w'.heap[b]? = some (.map (es.push { key := .string s, val := v, born := clock }) (clock + 1)) ∧ But (fun k => k = b) w w' := by
 refine ⟨ChangeMaps.setBlock w b (.map (es.push { key := .string s, val := v, born := clock }) (clock + 1)), ?_, ChangeMaps.heap_setBlock_same hb _, ⟨rfl, rfl, rfl, by simp [ChangeMaps.setBlock], fun i _ hi => ChangeMaps.heap_setBlock_other hb _ (fun e => hi e)⟩⟩
 simp [Instr.mapUpdate, run_underlying ht, MapKept.run_getObj_map hb, checkS hk, run_underlying hk, Instr.findKey, hn, MapKept.run_setObj_map _ hb, Result.andThen, ChangeMaps.setBlock]
theorem lookS {P : Program} {t k e : TypeId} (ht : P.underlying t = some (.map k e)) (hk : P.underlying k = some .string) {w : World} {b : Nat} {es : Array MapEntry} {clock : Nat} (hb : w.heap[b]? = some (.map es clock)) (s : ByteArray) (i : Nat) (v : Value) (hn : Instr.findNow .string (.string s) es.toList 0 = some (some (i, v))) (c : Bool) :
  (Instr.lookup t (.map (some b)) (.string s) c).run P w = .ok (if c then .tuple #[v, .bool true] else v) w := by
 cases c <;> simp [Instr.lookup, run_underlying ht, MapKept.run_getObj_map hb, checkS hk, run_underlying hk, Instr.findKey, hn, Result.andThen]
theorem lookS_none {P : Program} {t k e : TypeId} (ht : P.underlying t = some (.map k e)) (hk : P.underlying k = some .string) {w : World} {b : Nat} {es : Array MapEntry} {clock : Nat} (hb : w.heap[b]? = some (.map es clock)) (s : ByteArray) (z : Value) (hz : (zeroValue e).run P w = .ok z w) (hn : Instr.findNow .string (.string s) es.toList 0 = some none) (c : Bool) :
  (Instr.lookup t (.map (some b)) (.string s) c).run P w = .ok (if c then .tuple #[z, .bool false] else z) w := by
 cases c <;> simp [Instr.lookup, run_underlying ht, MapKept.run_getObj_map hb, checkS hk, run_underlying hk, Instr.findKey, hn, hz, Result.andThen]
def sendVal (X : Nat) : Nat → Value
 | 1 => .func (.func 129) #[] #[.pointer (some ⟨X, 0, none⟩)]
 | 2 => .func (.func 86) #[] #[]
 | 3 => .func (.func 87) #[] #[]
 | 4 => .func (.func 26) #[] #[]
 | 5 => .func (.func 88) #[] #[]
 | _ => .nilFunc
def sendObj (X : Nat) : Obj := .map #[{ key := .string ⟨#[102, 105, 102, 111]⟩, val := sendVal X 1, born := 0 }, { key := .string ⟨#[114, 97, 110, 107]⟩, val := sendVal X 2, born := 1 }, { key := .string ⟨#[100, 117, 101]⟩, val := sendVal X 3, born := 2 }, { key := .string ⟨#[114, 111, 117, 110, 100]⟩, val := sendVal X 4, born := 3 }, { key := .string ⟨#[102, 97, 105, 114]⟩, val := sendVal X 5, born := 4 }] 5
structure SendMap (w : World) (M X : Nat) : Prop where
 obj : w.heap[M]? = some (sendObj X)
 box : w.cell? ⟨X, 0, none⟩ = some (.func (.func 85) #[] #[])
theorem SendMap.later {w w' : World} {M X : Nat} (h : SendMap w M X) (hb : Below w.heap.size w w') : SendMap w' M X := ⟨(hb.block M (by
  have := h.obj
  rcases Nat.lt_or_ge M w.heap.size with h' | h'
  · exact h'
  · rw [Array.getElem?_eq_none h'] at this; cases this)).trans h.obj, cell_later hb h.box⟩
theorem find_kind (kb : ByteArray) (X k : Nat) (hk : kindOf kb.toList = k) : Instr.findNow .string (.string kb) [{ key := .string ⟨#[102, 105, 102, 111]⟩, val := sendVal X 1, born := 0 }, { key := .string ⟨#[114, 97, 110, 107]⟩, val := sendVal X 2, born := 1 }, { key := .string ⟨#[100, 117, 101]⟩, val := sendVal X 3, born := 2 }, { key := .string ⟨#[114, 111, 117, 110, 100]⟩, val := sendVal X 4, born := 3 }, { key := .string ⟨#[102, 97, 105, 114]⟩, val := sendVal X 5, born := 4 }] 0 = some (if k = 0 then none else some (k - 1, sendVal X k)) := by
 have t := kindTests kb
 rw [hk] at t
 have h5 : k ≤ 5 := by rw [← hk]; exact kindOf_le _
 have e1 := beq_toListBytes kb ⟨#[102, 105, 102, 111]⟩
 have e2 := beq_toListBytes kb ⟨#[114, 97, 110, 107]⟩
 have e3 := beq_toListBytes kb ⟨#[100, 117, 101]⟩
 have e4 := beq_toListBytes kb ⟨#[114, 111, 117, 110, 100]⟩
 have e5 := beq_toListBytes kb ⟨#[102, 97, 105, 114]⟩
 rw [t.u1] at e1
 rw [t.u2] at e2
 rw [t.u3] at e3
 rw [t.u4] at e4
 rw [t.u5] at e5
 rcases (show k = 0 ∨ k = 1 ∨ k = 2 ∨ k = 3 ∨ k = 4 ∨ k = 5 by omega) with rfl | rfl | rfl | rfl | rfl | rfl <;> simp only [Instr.findNow, Instr.sameNow, e1, e2, e3, e4, e5] <;> rfl
theorem Tryz.sendersU : Tryz.prog.underlying 100 = some (.map 9 99) := by kernel_rfl
theorem Tryz.strU : Tryz.prog.underlying 9 = some .string := by kernel_rfl
theorem Tryz.senderZero (w : World) : (zeroValue 99).run Tryz.prog w = .ok .nilFunc w := by kernel_rfl
theorem SendMap.look {w : World} {M X : Nat} (h : SendMap w M X) (kb : ByteArray) {k : Nat} (hk : kindOf kb.toList = k) (c : Bool) : (Instr.lookup 100 (.map (some M)) (.string kb) c).run Tryz.prog w = .ok (if c then .tuple #[sendVal X k, .bool (decide (k ≠ 0))] else sendVal X k) w := by
 have hf := find_kind kb X k hk
 by_cases h0 : k = 0
 ·
  subst h0
  rw [if_pos rfl] at hf
  exact lookS_none Tryz.sendersU Tryz.strU h.obj kb .nilFunc (Tryz.senderZero w) hf c
 ·
  rw [if_neg h0] at hf
  have := lookS (P := Tryz.prog) Tryz.sendersU Tryz.strU h.obj kb _ _ hf c
  rw [this]
  simp [h0]
theorem withoutNumbers_any (v : Value) (w : World) (f : Nat) (hv : v = .func (.func f) #[] #[]) :
  Calls Tryz.prog 84 #[v] w fun e w' => e = .returned (.func (.func 129) #[] #[.pointer (some ⟨w.heap.size, 0, none⟩)]) ∧ w' = w.alloc (.cells #[v] 148) := by
 subst hv
 go_enter Tryz.func84, Tryz.ntmps84
 go_wp2_with fail
 go_ret
 exact ⟨rfl, rfl⟩
set_option maxRecDepth 100000 in
set_option maxHeartbeats 2000000 in
theorem senders_ok (w : World) : Calls Tryz.prog 51 #[] w fun e w' => ∃ M X, e = .returned (.map (some M)) ∧ SendMap w' M X ∧ Below w.heap.size w w' := by
 have HW : Hid (∀ W, Calls Tryz.prog 84 #[.func (.func 85) #[] #[]] W fun e w' => e = .returned (.func (.func 129) #[] #[.pointer (some ⟨W.heap.size, 0, none⟩)]) ∧ w' = W.alloc (.cells #[.func (.func 85) #[] #[]] 148)) := fun W => withoutNumbers_any _ W _ rfl
 have hb1 : Below w.heap.size w (w.alloc (.map #[] 0)) := (Below.refl _ _).alloc (Nat.le_refl _) _
 have hb2 : Below w.heap.size w ((w.alloc (.map #[] 0)).alloc (.cells #[.func (.func 85) #[] #[]] 148)) := hb1.alloc hb1.size _
 have o0 : ((w.alloc (.map #[] 0)).alloc (.cells #[.func (.func 85) #[] #[]] 148)).heap[w.heap.size]? = some (.map #[] 0) := (((Below.refl (w.alloc (.map #[] 0)).heap.size (w.alloc (.map #[] 0))).alloc (Nat.le_refl _) (.cells #[.func (.func 85) #[] #[]] 148)).block w.heap.size (by simp)).trans (by show (w.heap.push (Obj.map #[] 0))[w.heap.size]? = some (Obj.map #[] 0); simp)
 have x0 : ((w.alloc (.map #[] 0)).alloc (.cells #[.func (.func 85) #[] #[]] 148)).cell? ⟨w.heap.size + 1, 0, none⟩ = some (.func (.func 85) #[] #[]) := by simp
 have hs : (w.alloc (.map #[] 0)).heap.size = w.heap.size + 1 := by simp
 obtain ⟨W0, hW0⟩ : ∃ W, (w.alloc (.map #[] 0)).alloc (.cells #[.func (.func 85) #[] #[]] 148) = W := ⟨_, rfl⟩
 rw [hW0] at hb2 o0 x0
 obtain ⟨W1, r1, o1, b1⟩ := putS Tryz.sendersU Tryz.strU o0 ⟨#[102, 105, 102, 111]⟩ (.func (.func 129) #[] #[.pointer (some ⟨w.heap.size + 1, 0, none⟩)]) (by kernel_rfl)
 obtain ⟨W2, r2, o2, b2⟩ := putS Tryz.sendersU Tryz.strU o1 ⟨#[114, 97, 110, 107]⟩ (.func (.func 86) #[] #[]) (by kernel_rfl)
 obtain ⟨W3, r3, o3, b3⟩ := putS Tryz.sendersU Tryz.strU o2 ⟨#[100, 117, 101]⟩ (.func (.func 87) #[] #[]) (by kernel_rfl)
 obtain ⟨W4, r4, o4, b4⟩ := putS Tryz.sendersU Tryz.strU o3 ⟨#[114, 111, 117, 110, 100]⟩ (.func (.func 26) #[] #[]) (by kernel_rfl)
 obtain ⟨W5, r5, o5, b5⟩ := putS Tryz.sendersU Tryz.strU o4 ⟨#[102, 97, 105, 114]⟩ (.func (.func 88) #[] #[]) (by kernel_rfl)
 have hbt := (((b1.trans b2).trans b3).trans b4).trans b5
 have HE : Hid (SendMap W5 w.heap.size (w.heap.size + 1) ∧ Below w.heap.size w W5) := by
  refine ⟨⟨o5, ?_⟩, hb2.trans (hbt.below hb2.size fun k hk => by rw [hk]; exact Nat.le_refl _)⟩
  rw [hbt.cell (p := ⟨w.heap.size + 1, 0, none⟩) (cell_lt x0) (by show ¬ w.heap.size + 1 = w.heap.size; omega)]
  exact x0
 have hmm := @run_makeMap Tryz.prog
 have HW0 : Hid ((w.alloc (.map #[] 0)).alloc (.cells #[.func (.func 85) #[] #[]] 148) = W0) := hW0
 clear hb1 hb2 o0 x0 o1 o2 o3 o4 o5 b1 b2 b3 b4 b5 hbt hW0
 go_enter Tryz.func51, Tryz.ntmps51
 go_wp2_with fail
 refine (HW.out _).mono ?_
 rintro e w1 ⟨rfl, rfl⟩
 rw [hs, HW0.out]
 go_wp2_with fail
 go_ret
 exact ⟨_, _, rfl, HE.out.1, HE.out.2⟩
end Go.Proofs.YtibhkijaafdkoaaGreatDoor
