/- Own facts, put together: no statement of its own. -/
import Derived.Laws.OwnMore
import Derived.Sort.Row
import Derived.Test.YtibhkijaafdkoaaGreatDoorA04
import Derived.Deep.AppendLies
import Derived.Laws.StructEq
import Derived.BigQuiet
import Derived.Deep.LoopGhost
namespace Go.Proofs.YtibhkijaafdkoaaGreatDoor
open Go.RowKit Go.Sort
def ints (xs : List Int) : List Value := xs.map (Value.int .i64)
theorem ints_length (xs : List Int) : (ints xs).length = xs.length := by simp [ints]
theorem ints_get {xs : List Int} {j : Nat} {x : Int} (h : xs[j]? = some x) : (ints xs)[j]? = some (.int .i64 x) := by simp [ints, h]
theorem ints_one (xs : List Int) : ∀ u ∈ ints xs, u.oneCell' = true := by
 intro u hu
 obtain ⟨x, -, rfl⟩ := List.mem_map.1 hu
 rfl
theorem holds_of_own {w : World} {B : Nat} {e : TypeId} {g cap : Nat} {zs : List Int} (h : w.ownsRow B e 1 (.slice (some ⟨g, 0, none⟩) zs.length cap) zs.length (ints zs)) : Holds (Value.int .i64) w g 0 zs.toArray := by
 intro j hj
 have hj' : j < zs.length := by simpa using hj
 refine ⟨?_, h.frozenAt _⟩
 rw [Nat.zero_add, h.cellAt j (by omega), ints_get (List.getElem?_eq_getElem hj')]
 congr 2
 rw [getElem!_pos _ j hj]
 simp
theorem own_deleted {w : World} {B : Nat} {e : TypeId} {g cap : Nat} {zs : List Int} (h : w.ownsRow B e 1 (.slice (some ⟨g, 0, none⟩) zs.length cap) zs.length (ints zs)) (i q : Nat) (hi : i < zs.length) :
  (putRow (Value.int .i64) (Sort.ahead w q) g 0 (zs.take i ++ zs.drop (i + 1) ++ List.replicate (i + 1 - i) 0).toArray).ownsRow B e 1 (.slice (some ⟨g, 0, none⟩) (zs.length - 1) cap) (zs.length - 1) (ints (zs.eraseIdx i)) ∧
   But (fun k => k = g) w (putRow (Value.int .i64) (Sort.ahead w q) g 0 (zs.take i ++ zs.drop (i + 1) ++ List.replicate (i + 1 - i) 0).toArray) := by
 have hel : (zs.eraseIdx i).length = zs.length - 1 := by rw [List.length_eraseIdx, if_pos hi]
 rcases h.2 with ⟨h', _⟩ | ⟨g', cap', cur, h', hB, hg, hn, hm, hcs, ht⟩
 · simp at h'
 ·
  simp only [Value.slice.injEq, Option.some.injEq, Addr.mk.injEq, and_true, true_and] at h'
  obtain ⟨rfl, rfl⟩ := h'
  refine ⟨⟨by rw [ints_length, hel, Nat.mul_one], .inr ⟨g, cap, putCells (Value.int .i64) 0 (zs.take i ++ zs.drop (i + 1) ++ List.replicate (i + 1 - i) 0).toArray cur, rfl, hB, ?_, by omega, hm, by simp [putCells, hcs], ?_⟩⟩, ⟨rfl, rfl, rfl, by simp, fun k hk hs => ?_⟩⟩
  ·
   simp only [putRow, mapBlock, Array.getElem?_modify, heap_ahead, hg]
   rfl
  ·
   apply List.ext_getElem?
   intro k
   rw [List.getElem?_take, Nat.mul_one]
   by_cases hk : k < zs.length - 1
   ·
    rw [if_pos hk]
    have hz : (zs.eraseIdx i)[k]? = some ((zs.eraseIdx i)[k]'(by omega)) := List.getElem?_eq_getElem (by omega)
    rw [ints_get hz]
    have hcur : cur[k]? = some cur[k] := Array.getElem?_eq_getElem (by omega)
    have hsz : (zs.take i ++ zs.drop (i + 1) ++ List.replicate (i + 1 - i) (0 : Int)).length = zs.length := by
     simp only [List.length_append, List.length_take, List.length_drop, List.length_replicate]
     omega
    simp only [putCells, Array.getElem?_toList, Array.getElem?_mapIdx, hcur, Option.map_some]
    rw [if_pos ⟨Nat.zero_le _, by rw [List.size_toArray, hsz]; omega⟩]
    congr 2
    rw [Nat.sub_zero, getElem!_pos _ k (by rw [List.size_toArray, hsz]; omega)]
    have e1 : zs.take i ++ zs.drop (i + 1) = zs.eraseIdx i := (List.eraseIdx_eq_take_drop_succ ..).symm
    simp only [e1, List.getElem_toArray]
    rw [List.getElem_append_left (by omega)]
   · rw [if_neg hk, List.getElem?_eq_none (by rw [ints_length]; omega)]
  ·
   simp only [putRow, mapBlock, Array.getElem?_modify, heap_ahead]
   rw [if_neg (fun h => hs h.symm)]
end Go.Proofs.YtibhkijaafdkoaaGreatDoor

namespace Go.Proofs.YtibhkijaafdkoaaGreatDoor
open Go.RowKit
theorem own_lies {w : World} {B e : Nat} {v : Value} {zs : List Int} (h : w.ownsRow B e 1 v zs.length (ints zs)) : ∃ a cap, v = .slice a zs.length cap ∧ zs.length ≤ cap ∧ cap ≤ maxLen ∧ LiesN w a zs := by
 have hh := h
 obtain ⟨h1, ⟨rfl, h0⟩ | ⟨g, cap, cur, rfl, hB, hg, hn, hm, hc, ht⟩⟩ := h
 · exact ⟨none, 0, by rw [h0], by omega, by simp [maxLen], .inl (List.length_eq_zero_iff.1 h0)⟩
 ·
  refine ⟨_, cap, rfl, hn, hm, .inr ⟨g, 0, rfl, lt_of_block hg, fun i x hx => ?_⟩⟩
  rw [Nat.zero_add, hh.cellAt i (by have := (List.getElem?_eq_some_iff.1 hx).1; omega)]
  exact ints_get hx
end Go.Proofs.YtibhkijaafdkoaaGreatDoor

namespace Go.Proofs.YtibhkijaafdkoaaGreatDoor
open Go.RowKit
theorem OwnP.mono {w : World} {B B' : Nat} {v : Value} {ps : List Pk} (h : OwnP w B v ps) (hb : B' ≤ B) : OwnP w B' v ps := ownsRow_mono h hb
theorem OwnP.later {w w' : World} {B : Nat} {v : Value} {ps : List Pk} (h : OwnP w B v ps) (hb : Below w.heap.size w w') : OwnP w' B v ps := ownsRow_of_block h fun g _ hg => hb.block g hg
theorem run_append_pks (w : World) (ty : TypeId) (B : Nat) (v : Value) (ps qs : List Pk) (xa : Option Addr) (xcap : Nat) (hown : OwnP w B v ps) (hl : LiesP w xa qs) (hxa : xa = none → qs = [] ∧ xcap = 0) (hn : ps.length + qs.length ≤ 1000) (hB : B ≤ w.heap.size) :
  ∃ v' w', (Builtin.append_ #[43, 43] ty #[v, .slice xa qs.length xcap]).run Tryz.prog w = .ok v' w' ∧ OwnP w' B v' (ps ++ qs) ∧ Below B w w' := by
 obtain ⟨i0, hi, hz0, hz1, hz2⟩ := info_parts Tryz.infoPkt
 cases xa with
 | none =>
  obtain ⟨rfl, rfl⟩ := hxa rfl
  exact ⟨v, w, run_append_owned_none (P := Tryz.prog) w B 43 ty 52 i0 3 Tryz.underlying43 hi v ps.length (cellsP ps) hown, by rw [List.append_nil]; exact hown, Below.refl _ _⟩
 | some ad =>
  obtain ⟨v', w', hrun, h1, h2, -⟩ := run_append_own (P := Tryz.prog) w B 43 ty 52 i0 (.agg #[.int .i64 0, .int .i64 0, .int .i64 0]) 3 24 Tryz.underlying43 hi hz0 hz1 hz2 rfl (by decide) v ps.length (cellsP ps) hown ad qs.length xcap (cellsP qs) (cellsP_length qs) (liesP_news hl) (cellsP_one qs) (by unfold maxLen; omega) (by omega) hB
  refine ⟨v', w', hrun, ?_, (Below.refl _ _).grown h2 hB fun k hk => (ownsRow_lt hown hk).1⟩
  unfold OwnP
  rw [List.length_append, cellsP_append]
  exact h1
theorem wpList_append_pks (w : World) {ops : Array Oper} {rest : List Oper} {o : Oper} {a : Act} {Q : Exit → Act → World → Prop} (hgd : o.guard = none) (s x : Operand)
  (ho : o.op = .call { callee := .builtin .append, args := #[s, x], argTypes := #[43, 43] })
  (B : Nat) (v : Value) (ps qs : List Pk) (xa : Option Addr) (m xcap : Nat) (hm : qs.length = m) (hs : a.eval s = v) (hx : a.eval x = .slice xa m xcap) (hown : OwnP w B v ps) (hl : LiesP w xa qs) (hxa : xa = none → qs = [] ∧ xcap = 0) (hn : ps.length + qs.length ≤ 1000) (hB : B ≤ w.heap.size)
  (hK : ∀ v' w', OwnP w' B v' (ps ++ qs) ∧ Below B w w' → wpList Tryz.prog ops Q rest (a.put o.dst v') w') : wpList Tryz.prog ops Q (o :: rest) a w := by
 subst hm
 refine wpList_plain hgd fun K hK' => ?_
 obtain ⟨v', w', hrun, g1, g2⟩ := run_append_pks w o.type B v ps qs xa xcap hown hl hxa hn hB
 unfold Oper.wp
 simp [execOp, ho, resolve, invoke, builtin, hs, hx, hrun, Result.andThen]
 exact hK' _ _ (hK v' w' ⟨g1, g2⟩)
structure Both (w : World) (B : Nat) (v1 v2 : Value) (ps : List Pk) (ns : List Int) : Prop where
 pks : OwnP w B v1 ps
 nums : w.ownsRow B 3 1 v2 ns.length (ints ns)
 apart : ∀ g, v1.ownBlock = some g → v2.ownBlock ≠ some g
theorem both_nil (w : World) (B : Nat) : Both w B (.slice none 0 0) (.slice none 0 0) [] [] := ⟨World.ownsRow_nil _ _ _ _, World.ownsRow_nil _ _ _ _, fun g h => by cases h⟩
theorem Both.later {w w' : World} {B : Nat} {v1 v2 : Value} {ps : List Pk} {ns : List Int} (h : Both w B v1 v2 ps ns) (hb : Below w.heap.size w w') : Both w' B v1 v2 ps ns := ⟨h.pks.later hb, ownsRow_of_block h.nums fun g _ hg => hb.block g hg, h.apart⟩
theorem wpList_both_num (w : World) {ops : Array Oper} {rest : List Oper} {o : Oper} {a : Act} {Q : Exit → Act → World → Prop} (hgd : o.guard = none) (s x : Operand)
  (ho : o.op = .call { callee := .builtin .append, args := #[s, x], argTypes := #[23, 23] })
  (B : Nat) (v1 v2 : Value) (ps : List Pk) (ns : List Int) (z : Int) (ad : Addr) (hs : a.eval s = v2) (hx : a.eval x = .slice (some ad) 1 1) (hown : Both w B v1 v2 ps ns) (hl : w.cell? ad = some (.int .i64 z)) (hn : ns.length ≤ 1000) (hB : B ≤ w.heap.size)
  (hK : ∀ v' w', Both w' B v1 v' ps (ns ++ [z]) ∧ Below B w w' → wpList Tryz.prog ops Q rest (a.put o.dst v') w') : wpList Tryz.prog ops Q (o :: rest) a w := by
 obtain ⟨i0, hi, hz0, hz1, hz2⟩ := info_parts Tryz.infoInt
 refine wpList_append_lies w hgd s x 23 ho B 3 i0 (.int .i64 0) 1 8 Tryz.underlying23 hi hz0 hz1 hz2 rfl (by decide) v2 ns.length (ints ns) hs hown.nums ad 1 1 (ints [z]) hx rfl ?_ (ints_one _) (by decide) (by unfold maxLen; omega) (by omega) hB _ rfl ?_
 ·
  intro j u hj
  cases j with
  | zero =>
   have : u = .int .i64 z := by simpa [ints] using hj.symm
   rw [this]
   simpa [Addr.add] using hl
  | succ j => simp [ints] at hj
 intro g cap w' h1 h2 h3 h4
 refine hK _ _ ⟨⟨?_, ?_, ?_⟩, (Below.refl _ _).grown h2 hB fun k hk => (ownsRow_lt hown.nums hk).1⟩
 ·
  exact World.ownsRow.kept hown.pks h2 (by
   cases e : v1.ownBlock with
   | none => exact .inl rfl
   | some k => exact .inr fun e' => hown.apart k e e'.symm)
 ·
  rw [List.length_append, show ints (ns ++ [z]) = ints ns ++ ints [z] by simp [ints]]
  exact h1
 ·
  intro k hk e
  obtain rfl : g = k := Option.some.inj e
  rcases h3 with h3 | h3
  · exact hown.apart g hk h3
  ·
   have := (ownsRow_lt hown.pks hk).2
   omega
theorem liesP_new (w : World) (x y z : Int) : LiesP (w.alloc (.cells #[.int .i64 x, .int .i64 y, .int .i64 z] 52)) (some ⟨w.heap.size, 0, none⟩) [⟨x, y, z⟩] := by
 refine .inr ⟨w.heap.size, 0, rfl, by simp, fun j q hj => ?_⟩
 cases j with
 | zero =>
  obtain rfl := Option.some.inj hj
  exact ⟨by simp, by simp, by simp⟩
 | succ j => simp at hj
end Go.Proofs.YtibhkijaafdkoaaGreatDoor

namespace Go.Proofs.YtibhkijaafdkoaaGreatDoor
open Go.RowKit
def eqP (x y z x' y' z' : Int) : Bool := x == x' && (y == y' && z == z')
theorem Tryz.pktHeld : Tryz.prog.stoodInHeld 52 = false := by kernel_rfl
theorem Tryz.pktGuard : Tryz.prog.eqGuardType Tryz.prog.depth 52 = false := by kernel_rfl
theorem Tryz.pktFields : Tryz.prog.underlying 52 = some (.struct (Tryz.prog.fieldsOf 52)) := by
 simp only [Program.fieldsOf, Tryz.underlying52]
theorem Tryz.pktFieldsIs : (Tryz.prog.fieldsOf 52).toList = [{ name := "Flow", type := 3, offset := 0, embedded := false, tag := "", pkgPath := "", byteOffset := 0 }, { name := "Size", type := 3, offset := 1, embedded := false, tag := "", pkgPath := "", byteOffset := 8 }, { name := "At", type := 3, offset := 2, embedded := false, tag := "", pkgPath := "", byteOffset := 16 }] := by
 simp only [Program.fieldsOf, Tryz.underlying52]
theorem Tryz.pktPart0 (w : World) (x y z : Int) : (part 3 #[.int .i64 x, .int .i64 y, .int .i64 z] 0).run Tryz.prog w = .ok (.int .i64 x) w := by kernel_rfl
theorem Tryz.pktPart1 (w : World) (x y z : Int) : (part 3 #[.int .i64 x, .int .i64 y, .int .i64 z] 1).run Tryz.prog w = .ok (.int .i64 y) w := by kernel_rfl
theorem Tryz.pktPart2 (w : World) (x y z : Int) : (part 3 #[.int .i64 x, .int .i64 y, .int .i64 z] 2).run Tryz.prog w = .ok (.int .i64 z) w := by kernel_rfl
end Go.Proofs.YtibhkijaafdkoaaGreatDoor

namespace Go.Proofs.YtibhkijaafdkoaaGreatDoor
open Go.RowKit
set_option maxRecDepth 100000 in
set_option maxHeartbeats 2000000 in
theorem playPackets_is (a : Option Addr) (cap : Nat) (zs : List Int) (w : World) (hl : LiesN w a zs) (hn : zs.length ≤ 1000) (hz : ∀ (i : Nat) v, zs[i]? = some v → v < 9223372036854775808) :
  Calls Tryz.prog 32 #[.slice a zs.length cap] w fun e w' => ∃ v, e = .returned v ∧ OwnP w' w.heap.size v (roll zs) ∧ Below w.heap.size w w' := by
 have HL : Hid (LiesN w a zs ∧ ∀ (i : Nat) v, zs[i]? = some v → v < 9223372036854775808) := ⟨hl, hz⟩
 have HR : Hid (∀ k, k ≤ zs.length → Rolled (rollTo zs k) k) := rolled_to zs
 obtain ⟨n, hnn⟩ : ∃ n, zs.length = n := ⟨_, rfl⟩
 have HN : Hid (zs.length = n) := hnn
 rw [hnn] at hn ⊢
 clear hl hnn hz
 go_enter Tryz.func32, Tryz.ntmps32
 go_wp2_with fail
 go_loopg [3, 4, 9] n (fun gk ov tv iv wr => ∃ (k m : Nat) (oa : Option Addr) (ocap : Nat) (t : Int), ov = .slice oa m ocap ∧ tv = .int .i64 t ∧ iv = .int .i64 (k : Int) ∧ k ≤ n ∧ m ≤ 300 ∧ 0 ≤ t ∧ t ≤ 1800 ∧ n - k ≤ gk ∧ Hid (m = (rollTo zs k).1.length ∧ t = (rollTo zs k).2 ∧ OwnP wr w.heap.size (.slice oa m ocap) (rollTo zs k).1 ∧ Below w.heap.size w wr))
 case atStart => exact ⟨0, 0, none, 0, 0, rfl, rfl, rfl, Nat.zero_le _, Nat.zero_le _, Int.le_refl _, by omega, Nat.le_refl _, rfl, rfl, World.ownsRow_nil _ _ _ _, Below.refl _ _⟩
 case round =>
  obtain ⟨k, m, oa, ocap, t, rfl, rfl, rfl, hkn, hm3, ht0, ht1, hgk, H⟩ := hrel
  by_cases hlt : k < n
  ·
   have hltz : (k : Int) < (n : Int) := by omega
   obtain ⟨v, hv, -⟩ := get_some zs k (by rw [HN.out]; exact hlt)
   obtain ⟨b, off, rfl, -, hc⟩ := HL.out.1.place (by rw [HN.out]; omega)
   have ck := cell_later H.out.2.2.2 (hc k v hv)
   by_cases hm : m < 300
   ·
    have hmz : (m : Int) < 300 := by omega
    have HS : Hid (rollTo zs (k + 1) = rollStep (rollTo zs k) v) := rollTo_succ hv
    by_cases hv0 : v < 0
    ·
     have HE : Hid (m = (rollTo zs (k + 1)).1.length ∧ t = (rollTo zs (k + 1)).2 ∧ OwnP wr w.heap.size (.slice oa m ocap) (rollTo zs (k + 1)).1 ∧ Below w.heap.size w wr) := by rw [HS.out, rollStep_no (.inl hv0)]; exact H.out
     clear H HS hc hv
     go_wp2_with fail
     go_roundg (n - (k + 1))
     case measure => omega
     case rel => exact ⟨k + 1, m, oa, ocap, t, rfl, rfl, by go_num, hlt, hm3, ht0, ht1, Nat.le_refl _, HE⟩
    ·
     have hv1 : 0 ≤ v := by omega
     have hv2 := HL.out.2 k v hv
     have hD0 : 0 ≤ v % 7 := by omega
     have hD1 : v % 7 < 7 := by omega
     have hr := HR.out k (by rw [HN.out]; omega)
     have hmt : t ≤ 6 * (m : Int) := by have h1 := hr.high; rw [← H.out.1, ← H.out.2.1] at h1; exact h1
     have HE : Hid (rollTo zs (k + 1) = ((rollTo zs k).1 ++ [⟨v / 7 % 3, 1 + v / 21 % 300, t + v % 7⟩], t + v % 7)) := by
      show _ = _
      rw [HS.out, rollStep_yes hv1 (by rw [← H.out.1]; exact hm), ← H.out.2.1, Int.add_comm 1]
     have hbx : Below wr.heap.size wr (wr.alloc (.cells #[.int .i64 (v / 7 % 3), .int .i64 (1 + v / 21 % 300), .int .i64 (t + v % 7)] 52)) := (Below.refl _ _).alloc (Nat.le_refl _) _
     have HX : Hid (OwnP (wr.alloc (.cells #[.int .i64 (v / 7 % 3), .int .i64 (1 + v / 21 % 300), .int .i64 (t + v % 7)] 52)) w.heap.size (.slice oa m ocap) (rollTo zs k).1 ∧ LiesP (wr.alloc (.cells #[.int .i64 (v / 7 % 3), .int .i64 (1 + v / 21 % 300), .int .i64 (t + v % 7)] 52)) (some ⟨wr.heap.size, 0, none⟩) [⟨v / 7 % 3, 1 + v / 21 % 300, t + v % 7⟩] ∧ Below w.heap.size w (wr.alloc (.cells #[.int .i64 (v / 7 % 3), .int .i64 (1 + v / 21 % 300), .int .i64 (t + v % 7)] 52)) ∧ (rollTo zs k).1.length = m) := ⟨H.out.2.2.1.later hbx, liesP_new wr (v / 7 % 3) (1 + v / 21 % 300) (t + v % 7), H.out.2.2.2.trans (hbx.mono H.out.2.2.2.size), H.out.1.symm⟩
     clear hc hv hr H HS hbx
     go_wp2_with (at_builtin; refine wpList_append_pks _ rfl _ _ rfl w.heap.size (.slice oa m ocap) (rollTo zs k).1 [⟨v / 7 % 3, 1 + v / 21 % 300, t + v % 7⟩] (some ⟨wr.heap.size, 0, none⟩) 1 1 rfl rfl rfl HX.out.1 HX.out.2.1 (fun h => by cases h) (by rw [HX.out.2.2.2]; simp; omega) HX.out.2.2.1.size ?_; rintro v7 w7 ⟨hbo7, hb7⟩; obtain ⟨oa7, ocap7, e7, -⟩ := hbo7.open; rw [List.length_append, HX.out.2.2.2] at e7; have H7 : Hid (OwnP w7 w.heap.size v7 ((rollTo zs k).1 ++ [⟨v / 7 % 3, 1 + v / 21 % 300, t + v % 7⟩]) ∧ Below w.heap.size w w7 ∧ v7 = .slice oa7 (m + 1) ocap7) := ⟨hbo7, HX.out.2.2.1.trans hb7, e7⟩; clear hbo7 hb7 e7)
     go_roundg (n - (k + 1))
     case measure => omega
     case rel =>
      refine ⟨k + 1, m + 1, oa7, ocap7, t + v % 7, H7.out.2.2, rfl, by go_num, hlt, by omega, by omega, by omega, Nat.le_refl _, ?_⟩
      show _ ∧ _
      rw [HE.out]
      refine ⟨by simp [HX.out.2.2.2], rfl, ?_, H7.out.2.1⟩
      rw [← H7.out.2.2]
      exact H7.out.1
   ·
    have hmz : ((m : Int) == 300) = true := by rw [beq_iff_eq]; omega
    have HE : Hid (rollTo zs n = rollTo zs k) := roll_full zs k n (by omega) (by rw [HN.out]; exact Nat.le_refl _) (by rw [← H.out.1]; omega)
    go_wp2_with fail
    go_ret
    refine ⟨_, rfl, ?_, H.out.2.2.2⟩
    show OwnP wr w.heap.size (.slice oa m ocap) (rollTo zs zs.length).1
    rw [HN.out, HE.out]
    exact H.out.2.2.1
  ·
   have hltz : ¬ (k : Int) < (n : Int) := by omega
   obtain rfl : k = n := by omega
   go_wp2_with fail
   go_ret
   refine ⟨_, rfl, ?_, H.out.2.2.2⟩
   show OwnP wr w.heap.size (.slice oa m ocap) (rollTo zs zs.length).1
   rw [HN.out]
   exact H.out.2.2.1
theorem Tryz.eqlPkt (w : World) (x y z x' y' z' : Int) : (binOp .eql 52 (.agg #[.int .i64 x, .int .i64 y, .int .i64 z]) (.agg #[.int .i64 x', .int .i64 y', .int .i64 z'])).run Tryz.prog w = .ok (.bool (eqP x y z x' y' z')) w := by
 rw [run_eql_struct, run_equalIn_struct _ 9999 _ _ _ Tryz.pktFields Tryz.pktHeld, Tryz.pktFieldsIs]
 have h1 : ("Flow" : String) ≠ "_" := by decide
 have h2 : ("Size" : String) ≠ "_" := by decide
 have h3 : ("At" : String) ≠ "_" := by decide
 simp only [Op.eqFields, if_pos h1, if_pos h2, if_pos h3, Sem.run_bind, Tryz.pktPart0, Tryz.pktPart1, Tryz.pktPart2, Result.andThen_ok, run_equalIn_int _ 9998 3 .i64 .i64 _ _ Tryz.underlying3, Sem.run_ite, Sem.run_pure, eqP]
 cases x == x' <;> cases y == y' <;> cases z == z' <;> rfl
theorem liesN_two (w : World) (x y : Int) (t : TypeId) : LiesN (w.alloc (.cells #[.int .i64 x, .int .i64 y] t)) (some ⟨w.heap.size, 0, none⟩) [x, y] :=
 .inr ⟨w.heap.size, 0, rfl, by simp, fun i v hi => by
  rw [World.cell?_alloc_at _ _ _ _ rfl]
  match i, hi with
  | 0, hi => cases hi; rfl
  | 1, hi => cases hi; rfl
  | i + 2, hi => simp at hi⟩
theorem roll_two : roll [-1, 22] = [⟨0, 2, 1⟩] := rfl
set_option maxRecDepth 100000 in
set_option maxHeartbeats 1000000 in
theorem rolled_is (w : World) : Calls Tryz.prog 31 #[] w fun e w' => e = .returned (.bool true) ∧ Below w.heap.size w w' := by
 have hb1 : Below w.heap.size w (w.alloc (.cells #[.int .i64 (-1), .int .i64 22] 3)) := (Below.refl _ _).alloc (Nat.le_refl _) _
 have HP : Hid (Below w.heap.size w (w.alloc (.cells #[.int .i64 (-1), .int .i64 22] 3)) ∧ Calls Tryz.prog 32 #[.slice (some ⟨w.heap.size, 0, none⟩) 2 2] (w.alloc (.cells #[.int .i64 (-1), .int .i64 22] 3)) fun e w' => ∃ b o cap, e = .returned (.slice (some ⟨b, o, none⟩) 1 cap) ∧ w'.cell? ⟨b, o, none⟩ = some (.int .i64 0) ∧ w'.cell? ⟨b, o + 1, none⟩ = some (.int .i64 2) ∧ w'.cell? ⟨b, o + 2, none⟩ = some (.int .i64 1) ∧ Below (w.alloc (.cells #[.int .i64 (-1), .int .i64 22] 3)).heap.size (w.alloc (.cells #[.int .i64 (-1), .int .i64 22] 3)) w') := by
  refine ⟨hb1, ?_⟩
  refine (playPackets_is (some ⟨w.heap.size, 0, none⟩) 2 [-1, 22] _ (liesN_two w (-1) 22 3) (by decide) (fun i v h => ?_)).mono ?_
  ·
   match i, h with
   | 0, h => cases h; decide
   | 1, h => cases h; decide
   | i + 2, h => simp at h
  rintro e w' ⟨v, rfl, o, hb⟩
  rw [roll_two] at o
  obtain ⟨a, cap, rfl, -, -, l, -, -⟩ := o.open
  obtain ⟨b, off, rfl, -, hc⟩ := l.place (by simp)
  have h0 := hc 0 _ rfl
  simp only [Nat.zero_mul, Nat.add_zero] at h0
  exact ⟨b, off, cap, rfl, h0.1, h0.2.1, h0.2.2, hb⟩
 have q1 := Tryz.eqlPkt
 have g1 := fun (w : World) op x y xs ys => run_eqGuard_agg (P := Tryz.prog) w op 52 x y xs ys Tryz.pktGuard
 have heq : eqP 0 2 1 0 2 1 = true := by decide
 clear hb1
 go_enter Tryz.func31, Tryz.ntmps31
 go_wp2_with fail
 refine HP.out.2.mono ?_
 rintro e w1 ⟨b, o, cap, rfl, c0, c1, c2, hb⟩
 have HB : Hid (Below w.heap.size w w1) := HP.out.1.trans (hb.mono HP.out.1.size)
 clear hb
 go_wp2_with fail
 go_ret
 exact ⟨rfl, HB.out⟩
end Go.Proofs.YtibhkijaafdkoaaGreatDoor

namespace Go.Proofs.YtibhkijaafdkoaaGreatDoor
def Ahead (at_ : Nat → Int) (a b : Nat) : Prop := at_ a < at_ b ∨ (at_ a = at_ b ∧ a < b)
structure IsOrder (at_ : Nat → Int) (n : Nat) (L : List Nat) : Prop where
 sorted : L.Pairwise (Ahead at_)
 mem : ∀ j, j ∈ L ↔ j < n
section
variable {at_ bt : Nat → Int} {n : Nat} {L M : List Nat}
theorem Ahead.ne {a b : Nat} (h : Ahead at_ a b) : a ≠ b := fun e => by subst e; rcases h with h | ⟨-, h⟩ <;> omega
theorem Ahead.not {a b : Nat} (h : Ahead at_ a b) : ¬ Ahead at_ b a := fun k => by unfold Ahead at h k; omega
theorem sorted_same : ∀ {L M : List Nat}, L.Pairwise (Ahead at_) → M.Pairwise (Ahead at_) → (∀ j, j ∈ L ↔ j ∈ M) → L = M
 | [], [], _, _, _ => rfl
 | [], b :: M, _, _, h => by have := (h b).2 (List.mem_cons_self ..); cases this
 | a :: L, [], _, _, h => by have := (h a).1 (List.mem_cons_self ..); cases this
 | a :: L, b :: M, hL, hM, h => by
  obtain ⟨l1, l2⟩ := List.pairwise_cons.1 hL
  obtain ⟨m1, m2⟩ := List.pairwise_cons.1 hM
  have hab : a = b := by
   by_cases e : a = b
   · exact e
   ·
    have h1 : a ∈ M := by
     rcases List.mem_cons.1 ((h a).1 (List.mem_cons_self ..)) with h' | h'
     · exact absurd h' e
     · exact h'
    have h2 : b ∈ L := by
     rcases List.mem_cons.1 ((h b).2 (List.mem_cons_self ..)) with h' | h'
     · exact absurd h'.symm e
     · exact h'
    exact absurd (l1 b h2) (m1 a h1).not
  subst hab
  have na : a ∉ L := fun hm => (l1 a hm).ne rfl
  have nb : a ∉ M := fun hm => (m1 a hm).ne rfl
  have := sorted_same l2 m2 (fun j => ⟨fun hj => by
   rcases List.mem_cons.1 ((h j).1 (List.mem_cons_of_mem _ hj)) with e | e
   · exact absurd (by rw [← e]; exact hj) na
   · exact e, fun hj => by
   rcases List.mem_cons.1 ((h j).2 (List.mem_cons_of_mem _ hj)) with e | e
   · exact absurd (by rw [← e]; exact hj) nb
   · exact e⟩)
  rw [this]
theorem IsOrder.nodup (h : IsOrder at_ n L) : L.Nodup := by
 refine List.pairwise_iff_getElem.2 fun i j hi hj hij => (List.pairwise_iff_getElem.1 h.sorted i j hi hj hij).ne
theorem IsOrder.length (h : IsOrder at_ n L) : L.length = n := by
 have h1 := few_of (B := List.range n) h.nodup (fun a ha => List.mem_range.2 ((h.mem a).1 ha))
 have h2 := few_of (A := List.range n) (B := L) List.nodup_range (fun a ha => (h.mem a).2 (List.mem_range.1 ha))
 simp only [List.length_range] at h1 h2
 omega
theorem IsOrder.start (at_ : Nat → Int) : IsOrder at_ 0 [] := ⟨List.Pairwise.nil, fun j => ⟨(fun h => by cases h), fun h => absurd h (Nat.not_lt_zero _)⟩⟩
theorem IsOrder.range (hm : ∀ i j, i < j → j < n → at_ i ≤ at_ j) : IsOrder at_ n (List.range n) := by
 refine ⟨List.pairwise_iff_getElem.2 fun i j hi hj hij => ?_, fun j => List.mem_range⟩
 rw [List.length_range] at hi hj
 rw [List.getElem_range, List.getElem_range]
 have := hm i j hij hj
 unfold Ahead
 omega
end
end Go.Proofs.YtibhkijaafdkoaaGreatDoor
