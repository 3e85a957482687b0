/- Own facts, put together: no statement of its own. -/
import Derived.Deep.LoopGhost
import Derived.Test.YtnomdlclkpnjpaaGreatDoorR03
import Derived.Test.YtnomdlclkpnjpaaGreatDoorR12
import Derived.Maps.OwnOps
import Derived.Maps.Views
import Derived.Laws.EntriesVeiled
import Derived.Laws.StructEq
import Derived.Test.YtnomdlclkpnjpaaGreatDoorR01
import Derived.Test.YtnomdlclkpnjpaaGreatDoorR11
import Derived.Test.YtnomdlclkpnjpaaGreatDoorR10
import Derived.Test.YtnomdlclkpnjpaaGreatDoorR04
namespace Go.Proofs.YtnomdlclkpnjpaaGreatDoor
open Go.RowKit
theorem isEmpty_any (a : Option Addr) (n cap : Nat) (w : World) (b : Bool) (hb : ((n : Int) == 0) = b) :
  Calls Tryz.prog 62 #[.slice a n cap] w fun e w' => e = .returned (.bool b) ∧ w' = w := by
 go_enter Tryz.func62, Tryz.ntmps62
 go_wp2_with fail
 go_ret
 exact ⟨rfl, rfl⟩
set_option maxHeartbeats 1000000 in
theorem bare_fault (pb : Nat) (v : Value) (w : World) (ad : Nat → Addr) (he : Errs9 w ad) (hp1 : w.cell? ⟨pb, 1, none⟩ = some v) :
  Calls Tryz.prog 98 #[.iface 103 (.pointer (some ⟨pb, 0, none⟩))] w fun e w' => e = .returned v ∧ Below w.heap.size w w' := by
 have HB0 : Hid (Below w.heap.size w (w.alloc (.cells #[.pointer none] 103))) := (Below.refl _ _).alloc (Nat.le_refl _) _
 have HE : Hid (Errs9 w ad) := he
 have HP1 : Hid (w.cell? ⟨pb, 1, none⟩ = some v) := hp1
 clear he hp1
 go_enter Tryz.func98, Tryz.ntmps98
 go_wp2_with fail
 refine (as_hit ⟨pb, 0, none⟩ ⟨w.heap.size, 0, none⟩ (.pointer none) _ (HE.out.below HB0.out).typ (by simp) (by simp)).mono ?_
 rintro e w1 ⟨rfl, hw1⟩
 have hb1 : Below w.heap.size w w1 := by
  rw [hw1]
  exact ((((HB0.out.alloc (by simp) _).alloc (by simp; omega) _).alloc (by simp; omega) _).alloc (by simp; omega) _).setCell (Nat.le_refl _) _
 have ht1 : w1.cell? ⟨w.heap.size, 0, none⟩ = some (.pointer (some ⟨pb, 0, none⟩)) := by
  rw [hw1]
  exact set_at w _ _ _ _ _
 have HB1 : Hid (Below w.heap.size w w1) := hb1
 have hq1 : w1.cell? ⟨pb, 1, none⟩ = some v := cell_later hb1 HP1.out
 clear hw1 hb1
 go_wp2_with fail
 go_ret
 exact ⟨rfl, HB1.out⟩
theorem bare_sent (e : Addr) (w : World) (ad : Nat → Addr) (he : Errs9 w ad) :
  Calls Tryz.prog 98 #[.iface 261 (.pointer (some e))] w fun ev w' => ev = .returned (.iface 261 (.pointer (some e))) ∧ Below w.heap.size w w' := by
 have HB0 : Hid (Below w.heap.size w (w.alloc (.cells #[.pointer none] 103))) := (Below.refl _ _).alloc (Nat.le_refl _) _
 have HE : Hid (Errs9 w ad) := he
 clear he
 go_enter Tryz.func98, Tryz.ntmps98
 go_wp2_with fail
 refine (as_miss e ⟨w.heap.size, 0, none⟩ _ (HE.out.below HB0.out).typ).mono ?_
 rintro e w1 ⟨rfl, hw1⟩
 have HB1 : Hid (Below w.heap.size w w1) := by
  show Below _ _ _
  rw [hw1]
  exact ((HB0.out.alloc (by simp) _).alloc (by simp; omega) _).alloc (by simp; omega) _
 clear hw1
 go_wp2_with fail
 go_ret
 exact ⟨rfl, HB1.out⟩
def BareOf (ad : Nat → Addr) (c : Int) (w : World) (e : Ending) (w' : World) : Prop := ∃ ty v, e = .returned (.iface ty v) ∧ Below w.heap.size w w' ∧ ∃ k : Nat, k < 9 ∧ c = ((k + 1 : Nat) : Int) ∧ ∀ W, Below w'.heap.size w' W → Calls Tryz.prog 98 #[.iface ty v] W fun e W' => e = .returned (.iface 261 (.pointer (some (ad k)))) ∧ Below W.heap.size W W'
theorem check_bare (a : Option Addr) (cap : Nat) (ls : List (Int × Int)) (w : World) (ad : Nat → Addr) (he : Errs9 w ad) (hl : Lies w a ls) (hcap : ls.length ≤ cap) (hm : cap ≤ maxLen) (c p : Int) (h : FaultIs ls c p) (hc : 0 < c) :
  Calls Tryz.prog 68 #[.slice a ls.length cap] w fun e w' => BareOf ad c w e w' := by
 rcases h with ⟨h1, rfl, rfl⟩ | ⟨h1, h6, j, hj, hg, hb, rfl, rfl⟩ | ⟨h, rfl, rfl⟩
 ·
  refine (check_shape a ls.length cap w _ he.c2 (by omega) h1).mono ?_
  rintro e w' ⟨rfl, rfl⟩
  exact ⟨_, _, rfl, Below.refl _ _, 2, by omega, rfl, fun W hW => bare_sent (ad 2) W ad (he.below hW)⟩
 ·
  refine (check_bad a cap ls w (ad 1) he.c1 hl h1 h6 j hj hg hb).mono ?_
  rintro e w' ⟨hbel, B, rfl, h7, h8, h9, h10⟩
  exact ⟨_, _, rfl, hbel, 1, by omega, rfl, fun W hW => bare_fault B _ W ad ((he.below hbel).below hW) (cell_later hW h10)⟩
 · exact absurd hc (by omega)
set_option maxRecDepth 100000 in
set_option maxHeartbeats 2000000 in
theorem curvesCheck_short (ca : Option Addr) (m ccap : Nat) (w : World) (ad : Nat → Addr) (he : Errs9 w ad) (h : m ≠ 8) :
  Calls Tryz.prog 57 #[.slice ca m ccap] w fun e w' => ∃ E, e = .returned E ∧ ErrIs w' E 3 (-1) ∧ Below w.heap.size w w' := by
 have c2 := he.c2
 have HE : Hid (Errs9 w ad) := he
 have hz : ((m : Int) == 8) = false := by simp; omega
 have hz2 : ¬ (m : Int) = 8 := by omega
 clear he
 go_enter Tryz.func57, Tryz.ntmps57
 go_wp2_with fail
 go_ret
 exact ⟨_, rfl, errIs_sent HE.out 2 (by omega), Below.refl _ _⟩
def CurvesEnd (c p : Int) (w : World) (e : Ending) (w' : World) : Prop := ∃ E, e = .returned E ∧ ErrIs w' E c p ∧ Below w.heap.size w w'
set_option maxRecDepth 100000 in
set_option maxHeartbeats 2000000 in
theorem curvesCheck_to (ca : Option Addr) (ccap : Nat) (cs : List (List (Int × Int))) (w : World) (ad : Nat → Addr) (he : Errs9 w ad) (hl : LiesC w ca cs) (h8 : cs.length = 8) (i : Nat) (hi : i ≤ 8) (hto : CurvesTo cs i) (c p : Int) (hbad : (i = 8 ∧ c = 0 ∧ p = -1) ∨ (CurveBad cs i c ∧ p = i)) :
  Calls Tryz.prog 57 #[.slice ca cs.length ccap] w fun e w' => CurvesEnd c p w e w' := by
 have HE : Hid (Errs9 w ad) := he
 have HTo : Hid (CurvesTo cs i) := hto
 have HBad : Hid ((i = 8 ∧ c = 0 ∧ p = -1) ∨ (CurveBad cs i c ∧ p = i)) := hbad
 obtain ⟨b, off, rfl, -, hcc⟩ := hl.place (by omega)
 have HC : Hid (∀ (i : Nat) ls, cs[i]? = some ls → ∃ a' cap, w.cell? ⟨b, off + i, none⟩ = some (.slice a' ls.length cap) ∧ Lies w a' ls ∧ ls.length ≤ cap ∧ cap ≤ maxLen ∧ (a' = none → ls = [] ∧ cap = 0)) := hcc
 have H8 : Hid (cs.length = 8) := h8
 rw [h8]
 clear he hto hbad hl hcc h8
 go_enter Tryz.func57, Tryz.ntmps57
 go_wp2_with fail
 go_loopg [12] 8 (fun gk iv wr => ∃ k : Nat, iv = .int .i64 (k : Int) ∧ k ≤ i ∧ 8 - k ≤ gk ∧ Hid (Below w.heap.size w wr))
 case atStart => exact ⟨0, rfl, Nat.zero_le _, by omega, Below.refl _ _⟩
 case round =>
  obtain ⟨k, rfl, hki, hgk, HB⟩ := hrel
  by_cases hk8 : k < 8
  ·
   have hkz : (k : Int) < 8 := by omega
   obtain ⟨ls, hls, -⟩ := get_some cs k (by rw [H8.out]; exact hk8)
   obtain ⟨a', cap, cj0, hlies, hlc, hlm, -⟩ := HC.out k ls hls
   have cj := cell_later HB.out cj0
   have HG : Hid (cs[k]? = some ls) := hls
   obtain ⟨n, hn⟩ : ∃ n, ls.length = n := ⟨_, rfl⟩
   have HN : Hid (ls.length = n) := hn
   have HL : Hid (Lies w a' ls ∧ ls.length ≤ cap ∧ cap ≤ maxLen) := ⟨hlies, hlc, hlm⟩
   rw [hn] at cj
   clear hls cj0 hlies hlc hlm hn
   by_cases hn0 : n = 0
   ·
    have HEm : Hid (Calls Tryz.prog 62 #[.slice a' n cap] wr fun e w' => e = .returned (.bool true) ∧ w' = wr) := isEmpty_any a' n cap wr true (by simp; exact hn0)
    have HNe : Hid (k < i) := by
     show k < i
     rcases Nat.lt_or_ge k i with h | h
     · exact h
     ·
      obtain rfl : k = i := by omega
      rcases HBad.out with ⟨h1, -⟩ | ⟨⟨ls', p', h1, h2, -⟩, -⟩
      · omega
      ·
       rw [HG.out] at h1
       obtain rfl := Option.some.inj h1
       exact absurd (List.length_eq_zero_iff.1 (HN.out.trans hn0)) h2
    clear hn0
    go_wp2_with fail
    refine HEm.out.mono ?_
    rintro e w1 ⟨rfl, rfl⟩
    go_wp2_with fail
    go_roundg (8 - (k + 1))
    case measure => omega
    case rel => exact ⟨k + 1, by go_num, HNe.out, Nat.le_refl _, HB⟩
   ·
    have HEm : Hid (Calls Tryz.prog 62 #[.slice a' n cap] wr fun e w' => e = .returned (.bool false) ∧ w' = wr) := isEmpty_any a' n cap wr false (by simp; omega)
    by_cases hk : k < i
    ·
     have hok : okCurve ls := by
      rcases HTo.out k ls hk HG.out with h | h
      · exact absurd (by rw [← HN.out, h]; rfl) hn0
      · exact h
     have HCh : Hid (Calls Tryz.prog 68 #[.slice a' n cap] wr fun e w' => e = .returned .nilIface ∧ Below wr.heap.size wr w') := by
      have := check_ok a' cap ls wr (HL.out.1.below HB.out) hok
      rwa [HN.out] at this
     clear hok hn0
     go_wp2_with fail
     refine HEm.out.mono ?_
     rintro e w1 ⟨rfl, rfl⟩
     go_wp2_with fail
     refine HCh.out.mono ?_
     rintro e w2 ⟨rfl, hb2⟩
     have HB2 : Hid (Below w.heap.size w w2) := HB.out.trans (hb2.mono HB.out.size)
     clear hb2
     go_wp2_with fail
     go_roundg (8 - (k + 1))
     case measure => omega
     case rel => exact ⟨k + 1, by go_num, hk, Nat.le_refl _, HB2⟩
    ·
     obtain rfl : k = i := by omega
     obtain ⟨hbc, hpi⟩ : CurveBad cs k c ∧ p = k := by
      rcases HBad.out with ⟨h1, -⟩ | h1
      · omega
      · exact h1
     obtain ⟨ls', p', h1, -, h3, h4⟩ := hbc
     rw [HG.out] at h1
     obtain rfl := Option.some.inj h1
     have HCh : Hid (Calls Tryz.prog 68 #[.slice a' n cap] wr fun e w' => BareOf ad c wr e w') := by
      have := check_bare a' cap ls wr ad (HE.out.below HB.out) (HL.out.1.below HB.out) HL.out.2.1 HL.out.2.2 c p' h3 h4
      rwa [HN.out] at this
     have HP : Hid (p = (k : Int)) := hpi
     clear hpi h3 h4 h1 hn0
     go_wp2_with fail
     refine HEm.out.mono ?_
     rintro e w1 ⟨rfl, rfl⟩
     go_wp2_with fail
     refine HCh.out.mono ?_
     rintro e w2 ⟨ty, v, rfl, hb2, q, hq9, hcq, hbare⟩
     have HBa := (show Hid (Calls Tryz.prog 98 #[.iface ty v] w2 fun e W' => e = .returned (.iface 261 (.pointer (some (ad q)))) ∧ Below w2.heap.size w2 W') from hbare w2 (Below.refl _ _))
     have HB2 : Hid (Below w.heap.size w w2) := HB.out.trans (hb2.mono HB.out.size)
     have HQ : Hid (c = ((q + 1 : Nat) : Int)) := hcq
     clear hb2 hbare hcq
     go_wp2_with fail
     refine HBa.out.mono ?_
     rintro e w3 ⟨rfl, hb3⟩
     have HB3 : Hid (Below w.heap.size w w3) := HB2.out.trans (hb3.mono HB2.out.size)
     clear hb3
     go_wp2_with fail
     go_ret
     have hb4 : Below w.heap.size w (w3.alloc (.cells #[.int .i64 (k : Int), .iface 261 (.pointer (some (ad q)))] 105)) := HB3.out.alloc HB3.out.size _
     refine ⟨_, rfl, ?_, hb4⟩
     rw [HQ.out, HP.out]
     refine ⟨?_, fun h => by omega, fun _ => ⟨_, _, rfl⟩⟩
     have := codeIs_fault (HE.out.below hb4) q hq9 (k : Int) w3.heap.size (by simp) (by simp)
     simpa using this
  ·
   have hkz : ¬ (k : Int) < 8 := by omega
   obtain rfl : i = 8 := by omega
   have HR : Hid (c = 0 ∧ p = -1) := by
    rcases HBad.out with ⟨-, h⟩ | ⟨⟨ls', p', h1, -⟩, -⟩
    · exact h
    ·
     rw [List.getElem?_eq_none (by rw [H8.out]; omega)] at h1
     cases h1
   obtain rfl : k = 8 := by omega
   go_wp2_with fail
   go_ret
   refine ⟨_, rfl, ?_, HB.out⟩
   rw [HR.out.1, HR.out.2]
   exact errIs_nil wr
end Go.Proofs.YtnomdlclkpnjpaaGreatDoor

namespace Go.Proofs.YtnomdlclkpnjpaaGreatDoor
open Go.RowKit
theorem checkS {P : Program} {k : TypeId} (hk : P.underlying k = some .string) (w : World) (b : Bool) (s : ByteArray) : (Instr.checkKey b 10000 k (.string s)).run P w = .ok () w := by
 show (Instr.checkKey b (9999 + 1) k (.string s)).run P w = _
 unfold Instr.checkKey
 simp [run_underlying hk, Result.andThen]
theorem putS {P : Program} {t k e : TypeId} (ht : P.underlying t = some (.map k e)) (hk : P.underlying k = some .string) {w : World} {b : Nat} {es : Array MapEntry} {clock : Nat} (hb : w.heap[b]? = some (.map es clock)) (s : ByteArray) (v : Value) (hn : Instr.findNow .string (.string s) es.toList 0 = some none) :
  ∃ w', (Instr.mapUpdate t (.map (some b)) (.string s) v).run P w = .ok () w' ∧ w'.heap[b]? = some (.map (es.push { key := .string s, val := v, born := clock }) (clock + 1)) ∧ But (fun k => k = b) w w' := by
 refine ⟨ChangeMaps.setBlock w b (.map (es.push { key := .string s, val := v, born := clock }) (clock + 1)), ?_, ChangeMaps.heap_setBlock_same hb _, ⟨rfl, rfl, rfl, by simp [ChangeMaps.setBlock], fun i _ hi => ChangeMaps.heap_setBlock_other hb _ (fun e => hi e)⟩⟩
 simp [Instr.mapUpdate, run_underlying ht, MapKept.run_getObj_map hb, checkS hk, run_underlying hk, Instr.findKey, hn, MapKept.run_setObj_map _ hb, Result.andThen, ChangeMaps.setBlock]
theorem lookS {P : Program} {t k e : TypeId} (ht : P.underlying t = some (.map k e)) (hk : P.underlying k = some .string) {w : World} {b : Nat} {es : Array MapEntry} {clock : Nat} (hb : w.heap[b]? = some (.map es clock)) (s : ByteArray) (i : Nat) (v : Value) (hn : Instr.findNow .string (.string s) es.toList 0 = some (some (i, v))) (c : Bool) :
  (Instr.lookup t (.map (some b)) (.string s) c).run P w = .ok (if c then .tuple #[v, .bool true] else v) w := by
 cases c <;> simp [Instr.lookup, run_underlying ht, MapKept.run_getObj_map hb, checkS hk, run_underlying hk, Instr.findKey, hn, Result.andThen]
theorem lookS_none {P : Program} {t k e : TypeId} (ht : P.underlying t = some (.map k e)) (hk : P.underlying k = some .string) {w : World} {b : Nat} {es : Array MapEntry} {clock : Nat} (hb : w.heap[b]? = some (.map es clock)) (s : ByteArray) (z : Value) (hz : (zeroValue e).run P w = .ok z w) (hn : Instr.findNow .string (.string s) es.toList 0 = some none) (c : Bool) :
  (Instr.lookup t (.map (some b)) (.string s) c).run P w = .ok (if c then .tuple #[z, .bool false] else z) w := by
 cases c <;> simp [Instr.lookup, run_underlying ht, MapKept.run_getObj_map hb, checkS hk, run_underlying hk, Instr.findKey, hn, hz, Result.andThen]
def sendVal (X : Nat) : Nat → Value
 | 1 => .func (.func 124) #[] #[.pointer (some ⟨X, 0, none⟩)]
 | 2 => .func (.func 81) #[] #[]
 | 3 => .func (.func 82) #[] #[]
 | 4 => .func (.func 25) #[] #[]
 | 5 => .func (.func 83) #[] #[]
 | _ => .nilFunc
def sendObj (X : Nat) : Obj := .map #[{ key := .string ⟨#[102, 105, 102, 111]⟩, val := sendVal X 1, born := 0 }, { key := .string ⟨#[114, 97, 110, 107]⟩, val := sendVal X 2, born := 1 }, { key := .string ⟨#[100, 117, 101]⟩, val := sendVal X 3, born := 2 }, { key := .string ⟨#[114, 111, 117, 110, 100]⟩, val := sendVal X 4, born := 3 }, { key := .string ⟨#[102, 97, 105, 114]⟩, val := sendVal X 5, born := 4 }] 5
structure SendMap (w : World) (M X : Nat) : Prop where
 obj : w.heap[M]? = some (sendObj X)
 box : w.cell? ⟨X, 0, none⟩ = some (.func (.func 80) #[] #[])
theorem find_kind (kb : ByteArray) (X k : Nat) (hk : kindOf kb.toList = k) : Instr.findNow .string (.string kb) [{ key := .string ⟨#[102, 105, 102, 111]⟩, val := sendVal X 1, born := 0 }, { key := .string ⟨#[114, 97, 110, 107]⟩, val := sendVal X 2, born := 1 }, { key := .string ⟨#[100, 117, 101]⟩, val := sendVal X 3, born := 2 }, { key := .string ⟨#[114, 111, 117, 110, 100]⟩, val := sendVal X 4, born := 3 }, { key := .string ⟨#[102, 97, 105, 114]⟩, val := sendVal X 5, born := 4 }] 0 = some (if k = 0 then none else some (k - 1, sendVal X k)) := by
 have t := kindTests kb
 rw [hk] at t
 have h5 : k ≤ 5 := by rw [← hk]; exact kindOf_le _
 have e1 := beq_toListBytes kb ⟨#[102, 105, 102, 111]⟩
 have e2 := beq_toListBytes kb ⟨#[114, 97, 110, 107]⟩
 have e3 := beq_toListBytes kb ⟨#[100, 117, 101]⟩
 have e4 := beq_toListBytes kb ⟨#[114, 111, 117, 110, 100]⟩
 have e5 := beq_toListBytes kb ⟨#[102, 97, 105, 114]⟩
 rw [t.u1] at e1
 rw [t.u2] at e2
 rw [t.u3] at e3
 rw [t.u4] at e4
 rw [t.u5] at e5
 rcases (show k = 0 ∨ k = 1 ∨ k = 2 ∨ k = 3 ∨ k = 4 ∨ k = 5 by omega) with rfl | rfl | rfl | rfl | rfl | rfl <;> simp only [Instr.findNow, Instr.sameNow, e1, e2, e3, e4, e5] <;> rfl
theorem Tryz.sendersU : Tryz.prog.underlying 93 = some (.map 9 92) := by kernel_rfl
theorem Tryz.strU : Tryz.prog.underlying 9 = some .string := by kernel_rfl
theorem Tryz.senderZero (w : World) : (zeroValue 92).run Tryz.prog w = .ok .nilFunc w := by kernel_rfl
theorem SendMap.look {w : World} {M X : Nat} (h : SendMap w M X) (kb : ByteArray) {k : Nat} (hk : kindOf kb.toList = k) (c : Bool) : (Instr.lookup 93 (.map (some M)) (.string kb) c).run Tryz.prog w = .ok (if c then .tuple #[sendVal X k, .bool (decide (k ≠ 0))] else sendVal X k) w := by
 have hf := find_kind kb X k hk
 by_cases h0 : k = 0
 ·
  subst h0
  rw [if_pos rfl] at hf
  exact lookS_none Tryz.sendersU Tryz.strU h.obj kb .nilFunc (Tryz.senderZero w) hf c
 ·
  rw [if_neg h0] at hf
  have := lookS (P := Tryz.prog) Tryz.sendersU Tryz.strU h.obj kb _ _ hf c
  rw [this]
  simp [h0]
theorem withoutNumbers_any (v : Value) (w : World) (f : Nat) (hv : v = .func (.func f) #[] #[]) :
  Calls Tryz.prog 79 #[v] w fun e w' => e = .returned (.func (.func 124) #[] #[.pointer (some ⟨w.heap.size, 0, none⟩)]) ∧ w' = w.alloc (.cells #[v] 139) := by
 subst hv
 go_enter Tryz.func79, Tryz.ntmps79
 go_wp2_with fail
 go_ret
 exact ⟨rfl, rfl⟩
set_option maxRecDepth 100000 in
set_option maxHeartbeats 2000000 in
theorem senders_ok (w : World) : Calls Tryz.prog 47 #[] w fun e w' => ∃ M X, e = .returned (.map (some M)) ∧ SendMap w' M X ∧ Below w.heap.size w w' := by
 have HW : Hid (∀ W, Calls Tryz.prog 79 #[.func (.func 80) #[] #[]] W fun e w' => e = .returned (.func (.func 124) #[] #[.pointer (some ⟨W.heap.size, 0, none⟩)]) ∧ w' = W.alloc (.cells #[.func (.func 80) #[] #[]] 139)) := fun W => withoutNumbers_any _ W _ rfl
 have hb1 : Below w.heap.size w (w.alloc (.map #[] 0)) := (Below.refl _ _).alloc (Nat.le_refl _) _
 have hb2 : Below w.heap.size w ((w.alloc (.map #[] 0)).alloc (.cells #[.func (.func 80) #[] #[]] 139)) := hb1.alloc hb1.size _
 have o0 : ((w.alloc (.map #[] 0)).alloc (.cells #[.func (.func 80) #[] #[]] 139)).heap[w.heap.size]? = some (.map #[] 0) := (((Below.refl (w.alloc (.map #[] 0)).heap.size (w.alloc (.map #[] 0))).alloc (Nat.le_refl _) (.cells #[.func (.func 80) #[] #[]] 139)).block w.heap.size (by simp)).trans (by show (w.heap.push (Obj.map #[] 0))[w.heap.size]? = some (Obj.map #[] 0); simp)
 have x0 : ((w.alloc (.map #[] 0)).alloc (.cells #[.func (.func 80) #[] #[]] 139)).cell? ⟨w.heap.size + 1, 0, none⟩ = some (.func (.func 80) #[] #[]) := by simp
 have hs : (w.alloc (.map #[] 0)).heap.size = w.heap.size + 1 := by simp
 obtain ⟨W0, hW0⟩ : ∃ W, (w.alloc (.map #[] 0)).alloc (.cells #[.func (.func 80) #[] #[]] 139) = W := ⟨_, rfl⟩
 rw [hW0] at hb2 o0 x0
 obtain ⟨W1, r1, o1, b1⟩ := putS Tryz.sendersU Tryz.strU o0 ⟨#[102, 105, 102, 111]⟩ (.func (.func 124) #[] #[.pointer (some ⟨w.heap.size + 1, 0, none⟩)]) (by kernel_rfl)
 obtain ⟨W2, r2, o2, b2⟩ := putS Tryz.sendersU Tryz.strU o1 ⟨#[114, 97, 110, 107]⟩ (.func (.func 81) #[] #[]) (by kernel_rfl)
 obtain ⟨W3, r3, o3, b3⟩ := putS Tryz.sendersU Tryz.strU o2 ⟨#[100, 117, 101]⟩ (.func (.func 82) #[] #[]) (by kernel_rfl)
 obtain ⟨W4, r4, o4, b4⟩ := putS Tryz.sendersU Tryz.strU o3 ⟨#[114, 111, 117, 110, 100]⟩ (.func (.func 25) #[] #[]) (by kernel_rfl)
 obtain ⟨W5, r5, o5, b5⟩ := putS Tryz.sendersU Tryz.strU o4 ⟨#[102, 97, 105, 114]⟩ (.func (.func 83) #[] #[]) (by kernel_rfl)
 have hbt := (((b1.trans b2).trans b3).trans b4).trans b5
 have HE : Hid (SendMap W5 w.heap.size (w.heap.size + 1) ∧ Below w.heap.size w W5) := by
  refine ⟨⟨o5, ?_⟩, hb2.trans (hbt.below hb2.size fun k hk => by rw [hk]; exact Nat.le_refl _)⟩
  rw [hbt.cell (p := ⟨w.heap.size + 1, 0, none⟩) (cell_lt x0) (by show ¬ w.heap.size + 1 = w.heap.size; omega)]
  exact x0
 have hmm := @run_makeMap Tryz.prog
 have HW0 : Hid ((w.alloc (.map #[] 0)).alloc (.cells #[.func (.func 80) #[] #[]] 139) = W0) := hW0
 clear hb1 hb2 o0 x0 o1 o2 o3 o4 o5 b1 b2 b3 b4 b5 hbt hW0
 go_enter Tryz.func47, Tryz.ntmps47
 go_wp2_with fail
 refine (HW.out _).mono ?_
 rintro e w1 ⟨rfl, rfl⟩
 rw [hs, HW0.out]
 go_wp2_with fail
 go_ret
 exact ⟨_, _, rfl, HE.out.1, HE.out.2⟩
end Go.Proofs.YtnomdlclkpnjpaaGreatDoor

namespace Go.Proofs.YtnomdlclkpnjpaaGreatDoor
open Go.RowKit
theorem linkCheck_ok (a : Option Addr) (cap : Nat) (ps : List Pk) (per : Int) (w : World) (hl : LiesP w a ps) (ho : OkPks ps) (h1 : 1 ≤ per) (h2 : per ≤ 1000) :
  Calls Tryz.prog 48 #[.slice a ps.length cap, .int .i64 per] w fun e w' => e = .returned .nilIface ∧ Below w.heap.size w w' := by
 have HC : Hid (Calls Tryz.prog 45 #[.slice a ps.length cap] w fun e w' => e = .returned .nilIface ∧ Below w.heap.size w w') := pcheck_ok a cap ps w hl ho
 clear hl ho
 go_enter Tryz.func48, Tryz.ntmps48
 go_wp2_with fail
 refine HC.out.mono ?_
 rintro e w1 ⟨rfl, hb⟩
 have HB : Hid (Below w.heap.size w w1) := hb
 clear hb
 go_wp2_with fail
 go_ret
 exact ⟨rfl, HB.out⟩
theorem linkCheck_err {R : TypeId → Value → World → Prop} (a : Option Addr) (n cap : Nat) (per : Int) (w : World) (h : Calls Tryz.prog 45 #[.slice a n cap] w fun e w' => ∃ ty v, e = .returned (.iface ty v) ∧ R ty v w') :
  Calls Tryz.prog 48 #[.slice a n cap, .int .i64 per] w fun e w' => ∃ ty v, e = .returned (.iface ty v) ∧ R ty v w' := by
 have HC : Hid (Calls Tryz.prog 45 #[.slice a n cap] w fun e w' => ∃ ty v, e = .returned (.iface ty v) ∧ R ty v w') := h
 clear h
 go_enter Tryz.func48, Tryz.ntmps48
 go_wp2_with fail
 refine HC.out.mono ?_
 rintro e w1 ⟨ty, v, rfl, hR⟩
 have HR : Hid (R ty v w1) := hR
 clear hR
 go_wp2_with fail
 go_ret
 exact ⟨ty, v, rfl, HR.out⟩
theorem linkCheck_per (a : Option Addr) (cap : Nat) (ps : List Pk) (per : Int) (w : World) (ad : Nat → Addr) (he : ErrsBO w ad) (hl : LiesP w a ps) (ho : OkPks ps) (h : per < 1 ∨ 1000 < per) :
  Calls Tryz.prog 48 #[.slice a ps.length cap, .int .i64 per] w fun e w' => e = .returned (.iface 261 (.pointer (some (ad 1)))) ∧ Below w.heap.size w w' := by
 have HC : Hid (Calls Tryz.prog 45 #[.slice a ps.length cap] w fun e w' => e = .returned .nilIface ∧ Below w.heap.size w w') := pcheck_ok a cap ps w hl ho
 have HE : Hid (ErrsBO w ad) := he
 clear hl ho he
 by_cases h1 : per < 1
 ·
  clear h
  go_enter Tryz.func48, Tryz.ntmps48
  go_wp2_with fail
  refine HC.out.mono ?_
  rintro e w1 ⟨rfl, hb⟩
  have c1 := cell_later hb HE.out.c1
  have HB : Hid (Below w.heap.size w w1) := hb
  clear hb
  go_wp2_with fail
  go_ret
  exact ⟨rfl, HB.out⟩
 ·
  have h2 : 1000 < per := by omega
  clear h
  go_enter Tryz.func48, Tryz.ntmps48
  go_wp2_with fail
  refine HC.out.mono ?_
  rintro e w1 ⟨rfl, hb⟩
  have c1 := cell_later hb HE.out.c1
  have HB : Hid (Below w.heap.size w w1) := hb
  clear hb
  go_wp2_with fail
  go_ret
  exact ⟨rfl, HB.out⟩
set_option maxHeartbeats 1000000 in
theorem sendOne_ok (a : Option Addr) (cap : Nat) (ps : List Pk) (per now : Int) (k : Nat) (p : Pk) (w : World) (hl : LiesP w a ps) (hn : ps.length ≤ 300) (hk : ps[k]? = some p) (hp : okPk p = true) (h1 : 1 ≤ per) (h2 : per ≤ 1000) (n0 : 0 ≤ now) (n1 : now ≤ 1100000000000000) :
  Calls Tryz.prog 94 #[.slice a ps.length cap, .int .i64 per, .int .i64 k, .int .i64 now] w fun e w' => e = .returned (.agg #[.int .i64 k, .int .i64 now, .int .i64 (now + per * p.size)]) ∧ Below w.heap.size w w' := by
 have hkl := lt_of_get hk
 obtain ⟨b, off, rfl, hlt, hc⟩ := hl.place (by omega)
 have c1 := (hc k p hk).2.1
 obtain ⟨-, -, s1, s2, -, -⟩ := okPk_true hp
 have a1 : 0 ≤ per * p.size := Int.mul_nonneg (by omega) (by omega)
 have a2 : per * p.size ≤ 1000 * 1500 := Int.mul_le_mul (by omega) s2 (by omega) (by omega)
 have c1' : (w.alloc (.cells #[.int .i64 0, .int .i64 0, .int .i64 0] 71)).cell? ⟨b, off + k * 3 + 1, none⟩ = some (.int .i64 p.size) := cell_later ((Below.refl _ _).alloc (Nat.le_refl _) _) c1
 generalize p.size = y at *
 generalize hm : per * y = m at *
 have HM : Hid (per * y = m) := hm
 have hw : IntKind.i64.wrap (per * y) = m := by rw [hm]; exact IntWalk.i64_in (by omega) (by omega)
 clear hl hc hp hk hm
 go_enter Tryz.func94, Tryz.ntmps94
 go_wp2_with fail
 exact bodyPost_ret (v := .agg #[.int .i64 k, .int .i64 now, .int .i64 (now + m)]) (by simp [results, Tryz.results94, go_sem]) rfl ⟨rfl, (Below.refl _ _).alloc (Nat.le_refl _) _⟩
end Go.Proofs.YtnomdlclkpnjpaaGreatDoor

namespace Go.Proofs.YtnomdlclkpnjpaaGreatDoor
open Go.RowKit
def LiesS (w : World) (a : Option Addr) (ps : List Sn) : Prop :=
 ps = [] ∨ ∃ b off, a = some ⟨b, off, none⟩ ∧ b < w.heap.size ∧ ∀ (i : Nat) p, ps[i]? = some p → w.cell? ⟨b, off + i * 3, none⟩ = some (.int .i64 p.num) ∧ w.cell? ⟨b, off + i * 3 + 1, none⟩ = some (.int .i64 p.beg) ∧ w.cell? ⟨b, off + i * 3 + 2, none⟩ = some (.int .i64 p.fin)
theorem LiesS.place {w : World} {a : Option Addr} {ps : List Sn} (h : LiesS w a ps) (h1 : 1 ≤ ps.length) :
  ∃ b off, a = some ⟨b, off, none⟩ ∧ b < w.heap.size ∧ ∀ (i : Nat) p, ps[i]? = some p → w.cell? ⟨b, off + i * 3, none⟩ = some (.int .i64 p.num) ∧ w.cell? ⟨b, off + i * 3 + 1, none⟩ = some (.int .i64 p.beg) ∧ w.cell? ⟨b, off + i * 3 + 2, none⟩ = some (.int .i64 p.fin) := by
 rcases h with rfl | h
 · simp at h1
 · exact h
theorem LiesS.but {S : Nat → Prop} {w w' : World} {a : Option Addr} {ps : List Sn} (h : LiesS w a ps) (hb : But S w w') (hs : ∀ ad, a = some ad → ¬ S ad.block) : LiesS w' a ps := by
 rcases h with rfl | ⟨b, off, rfl, hlt, hc⟩
 · exact .inl rfl
 ·
  have hn : ¬ S b := hs _ rfl
  refine .inr ⟨b, off, rfl, Nat.lt_of_lt_of_le hlt hb.size, fun i p hi => ?_⟩
  have := hc i p hi
  exact ⟨by rw [hb.cell (p := ⟨b, off + i * 3, none⟩) hlt hn]; exact this.1, by rw [hb.cell (p := ⟨b, off + i * 3 + 1, none⟩) hlt hn]; exact this.2.1, by rw [hb.cell (p := ⟨b, off + i * 3 + 2, none⟩) hlt hn]; exact this.2.2⟩
theorem LiesS.below {w w' : World} {a : Option Addr} {ps : List Sn} (h : LiesS w a ps) (hb : Below w.heap.size w w') : LiesS w' a ps :=
 h.but (S := fun _ => False) (.ofBelow hb) (fun _ _ h => h)
def cellsS (ps : List Sn) : List Value := ps.flatMap fun p => [.int .i64 p.num, .int .i64 p.beg, .int .i64 p.fin]
theorem cellsS_cons (p : Sn) (r : List Sn) : cellsS (p :: r) = .int .i64 p.num :: .int .i64 p.beg :: .int .i64 p.fin :: cellsS r := rfl
theorem cellsS_append (a b : List Sn) : cellsS (a ++ b) = cellsS a ++ cellsS b := by simp [cellsS]
theorem cellsS_get (ps : List Sn) : ∀ (i : Nat) p, ps[i]? = some p → (cellsS ps)[i * 3]? = some (.int .i64 p.num) ∧ (cellsS ps)[i * 3 + 1]? = some (.int .i64 p.beg) ∧ (cellsS ps)[i * 3 + 2]? = some (.int .i64 p.fin) := by
 induction ps with
 | nil => intro i p h; simp at h
 | cons q r ih =>
  intro i p h
  rw [cellsS_cons]
  cases i with
  | zero => simp at h; subst h; exact ⟨rfl, rfl, rfl⟩
  | succ i =>
   have := ih i p (by simpa using h)
   rw [show (i + 1) * 3 = i * 3 + 1 + 1 + 1 by omega]
   exact ⟨by simpa using this.1, by simpa using this.2.1, by simpa using this.2.2⟩
theorem cellsS_at (ps : List Sn) : ∀ j u, (cellsS ps)[j]? = some u → ∃ (i : Nat) (p : Sn), ps[i]? = some p ∧ ((j = i * 3 ∧ u = .int .i64 p.num) ∨ (j = i * 3 + 1 ∧ u = .int .i64 p.beg) ∨ (j = i * 3 + 2 ∧ u = .int .i64 p.fin)) := by
 induction ps with
 | nil => intro j u h; simp [cellsS] at h
 | cons p r ih =>
  intro j u h
  rw [cellsS_cons] at h
  match j, h with
  | 0, h => exact ⟨0, p, rfl, .inl ⟨rfl, by simpa using h.symm⟩⟩
  | 1, h => exact ⟨0, p, rfl, .inr (.inl ⟨rfl, by simpa using h.symm⟩)⟩
  | 2, h => exact ⟨0, p, rfl, .inr (.inr ⟨rfl, by simpa using h.symm⟩)⟩
  | j + 3, h =>
   obtain ⟨i, q, hi, hj⟩ := ih j u (by simpa using h)
   refine ⟨i + 1, q, by simpa using hi, ?_⟩
   rcases hj with ⟨e, f⟩ | ⟨e, f⟩ | ⟨e, f⟩
   · exact .inl ⟨by omega, f⟩
   · exact .inr (.inl ⟨by omega, f⟩)
   · exact .inr (.inr ⟨by omega, f⟩)
theorem cellsS_one (ps : List Sn) : ∀ u ∈ cellsS ps, u.oneCell' = true := by
 intro u hu
 obtain ⟨j, hj⟩ := List.mem_iff_getElem?.1 hu
 obtain ⟨i, p, -, h⟩ := cellsS_at ps j u hj
 rcases h with ⟨-, rfl⟩ | ⟨-, rfl⟩ | ⟨-, rfl⟩ <;> rfl
def OwnS (w : World) (B : Nat) (v : Value) (ps : List Sn) : Prop := w.ownsRow B 71 3 v ps.length (cellsS ps)
theorem OwnS.open {w : World} {B : Nat} {v : Value} {ps : List Sn} (h : OwnS w B v ps) :
  ∃ a cap, v = .slice a ps.length cap ∧ ps.length ≤ cap ∧ cap ≤ maxLen ∧ LiesS w a ps ∧ (∀ ad, a = some ad → B ≤ ad.block) ∧ (a = none → ps = [] ∧ cap = 0) := by
 obtain ⟨hlen, ⟨rfl, h0⟩ | ⟨g, cap, cur, rfl, hB, hg, hn, hm, hc, ht⟩⟩ := h
 · exact ⟨none, 0, by rw [h0], by omega, by simp [maxLen], .inl (List.length_eq_zero_iff.1 h0), (fun ad e => by cases e), fun _ => ⟨List.length_eq_zero_iff.1 h0, rfl⟩⟩
 ·
  refine ⟨_, cap, rfl, hn, hm, .inr ⟨g, 0, rfl, ?_, fun i p hi => ?_⟩, (fun ad e => by cases e; exact hB), fun e => by cases e⟩
  ·
   rcases Nat.lt_or_ge g w.heap.size with h | h
   · exact h
   · simp [Array.getElem?_eq_none h] at hg
  ·
   have hh : w.ownsRow B 71 3 (.slice (some ⟨g, 0, none⟩) ps.length cap) ps.length (cellsS ps) := ⟨hlen, .inr ⟨g, cap, cur, rfl, hB, hg, hn, hm, hc, ht⟩⟩
   have hil : i < ps.length := by
    rcases Nat.lt_or_ge i ps.length with h | h
    · exact h
    · simp [List.getElem?_eq_none h] at hi
   have := cellsS_get ps i p hi
   rw [hh.cellAt _ (by omega), hh.cellAt _ (by omega), hh.cellAt _ (by omega), Nat.zero_add]
   exact this
theorem Tryz.infoSent : (Tryz.prog.info? 71).map (fun i => (i.zero, i.size, i.bytes)) = some (some (.agg #[.int .i64 0, .int .i64 0, .int .i64 0]), 3, 24) := by kernel_rfl
end Go.Proofs.YtnomdlclkpnjpaaGreatDoor
