/- Own facts, put together: no statement of its own. -/
import Derived.Test.YtibhkijaafdkoaaGreatDoorB01
import Derived.Deep.RegionLaw
import Derived.Deep.RegionHeld
import Derived.Sort.Grow
import Derived.Test.YtibhkijaafdkoaaGreatDoorB02
import Derived.Shelf.SlSortCmp.WholeK
import Derived.Ground.SlsfProg
import Derived.Test.YtibhkijaafdkoaaGreatDoorChecked
import Derived.Lib.OwnBridge
import Derived.Deep.AppendLies
namespace Go.Proofs.YtibhkijaafdkoaaGreatDoor
open Go.RowKit
def cmpI (a b : Int) : Int := if a < b then -1 else if b < a then 1 else 0
theorem cmpI_lt {a b : Int} : cmpI a b < 0 ↔ a < b := by unfold cmpI; split; omega; split <;> omega
theorem cmpI_zero {a b : Int} : cmpI a b = 0 ↔ a = b := by unfold cmpI; split; omega; split <;> omega
theorem compare_any (a b : Int) (w : World) : Calls Tryz.prog 83 #[.int .i64 a, .int .i64 b] w fun e w' => e = .returned (.int .i64 (cmpI a b)) ∧ w' = w := by
 by_cases h1 : a < b
 ·
  have HC : Hid (cmpI a b = -1) := by show _ = _; unfold cmpI; rw [if_pos h1]
  go_enter Tryz.func83, Tryz.ntmps83
  go_wp2
  go_ret
  exact ⟨congrArg (fun z => Ending.returned (.int .i64 z)) HC.out.symm, rfl⟩
 ·
  by_cases h2 : b < a
  ·
   have HC : Hid (cmpI a b = 1) := by show _ = _; unfold cmpI; rw [if_neg h1, if_pos h2]
   go_enter Tryz.func83, Tryz.ntmps83
   go_wp2
   go_ret
   exact ⟨congrArg (fun z => Ending.returned (.int .i64 z)) HC.out.symm, rfl⟩
  ·
   have HC : Hid (cmpI a b = 0) := by show _ = _; unfold cmpI; rw [if_neg h1, if_neg h2]
   go_enter Tryz.func83, Tryz.ntmps83
   go_wp2
   go_ret
   exact ⟨congrArg (fun z => Ending.returned (.int .i64 z)) HC.out.symm, rfl⟩
end Go.Proofs.YtibhkijaafdkoaaGreatDoor

namespace Go.Proofs.YtibhkijaafdkoaaGreatDoor
open Go.RowKit Go.Sort
def cmpL (x y : Int × Int) : Int := if cmpI y.2 x.2 = 0 then cmpI y.1 x.1 else cmpI y.2 x.2
theorem or_any (c1 c2 : Int) (B : Nat) (w : World) (h1 : w.cell? ⟨B, 0, none⟩ = some (.int .i64 c1)) (h2 : w.cell? ⟨B, 1, none⟩ = some (.int .i64 c2)) :
  Calls Tryz.prog 169 #[.slice (some ⟨B, 0, none⟩) 2 2] w fun e w' => e = .returned (.int .i64 (if c1 = 0 then c2 else c1)) ∧ w' = w := by
 by_cases hc : c1 = 0
 ·
  subst hc
  by_cases hd : c2 = 0
  ·
   subst hd
   go_enter Tryz.func169, Tryz.ntmps169
   go_wp2
   refine wp_loop_rounds 3 ?_
   rw [rounds_succ]
   go_wp2
   rw [rounds_succ]
   go_wp2
   rw [rounds_succ]
   go_wp2
   go_ret
   exact ⟨rfl, rfl⟩
  ·
   have hd' : (c2 == 0) = false := by simpa using hd
   go_enter Tryz.func169, Tryz.ntmps169
   go_wp2
   refine wp_loop_rounds 2 ?_
   rw [rounds_succ]
   go_wp2
   rw [rounds_succ]
   go_wp2
   go_ret
   exact ⟨rfl, rfl⟩
 ·
  have hc' : (c1 == 0) = false := by simpa using hc
  rw [if_neg hc]
  go_enter Tryz.func169, Tryz.ntmps169
  go_wp2
  refine wp_loop_rounds 1 ?_
  rw [rounds_succ]
  go_wp2
  go_ret
  exact ⟨rfl, rfl⟩
theorem twoB_three (w : World) (o1 o2 : Obj) (u v : Value) (t : TypeId) : (((w.alloc o1).alloc o2).alloc (.cells #[u, v] t)).cell? ⟨w.heap.size + 1 + 1, 0, none⟩ = some u ∧ (((w.alloc o1).alloc o2).alloc (.cells #[u, v] t)).cell? ⟨w.heap.size + 1 + 1, 1, none⟩ = some v := by
 rw [World.cell?_alloc_at _ _ _ _ (by simp), World.cell?_alloc_at _ _ _ _ (by simp)]
 exact ⟨rfl, rfl⟩
theorem third_at (w : World) (o1 o2 : Obj) (u v : Value) (t : TypeId) : (((w.alloc o1).alloc o2).alloc (.cells #[u, v] t)).drew.cell? ⟨w.heap.size + 1 + 1, 0, none⟩ = some u ∧ (((w.alloc o1).alloc o2).alloc (.cells #[u, v] t)).drew.cell? ⟨w.heap.size + 1 + 1, 1, none⟩ = some v := by
 have h0 := (twoB_three w o1 o2 u v t).1
 have h1 := (twoB_three w o1 o2 u v t).2
 exact ⟨h0, h1⟩
theorem three_grow (w : World) (o1 o2 o3 : Obj) : (((w.alloc o1).alloc o2).alloc o3).drew = grow (w.drewN 1) #[o1, o2, o3] := by
 rw [alloc_eq_grow, alloc_eq_grow, alloc_eq_grow, grow_grow, grow_grow]
 rfl
set_option maxRecDepth 100000 in
set_option maxHeartbeats 400000 in
theorem order_call (x y : Int × Int) (w : World) :
  Calls Tryz.prog 168 #[.agg #[.int .i64 x.1, .int .i64 x.2], .agg #[.int .i64 y.1, .int .i64 y.2]] w fun e w' => e = .returned (.int .i64 (cmpL x y)) ∧ ∃ q os', w' = grow (w.drewN q) os' := by
 obtain ⟨x1, x2⟩ := x
 obtain ⟨y1, y2⟩ := y
 have HL : Hid (cmpL (x1, x2) (y1, y2) = if cmpI y2 x2 = 0 then cmpI y1 x1 else cmpI y2 x2) := rfl
 have hc1 := fun W => compare_any y2 x2 W
 have hc2 := fun W => compare_any y1 x1 W
 obtain ⟨r1, hr1⟩ : ∃ r, cmpI y2 x2 = r := ⟨_, rfl⟩
 obtain ⟨r2, hr2⟩ : ∃ r, cmpI y1 x1 = r := ⟨_, rfl⟩
 rw [hr1] at hc1
 rw [hr2] at hc2
 have HR : Hid (cmpI y2 x2 = r1 ∧ cmpI y1 x1 = r2) := ⟨hr1, hr2⟩
 have H1 : Hid (∀ W : World, Calls Tryz.prog 83 #[.int .i64 y2, .int .i64 x2] W fun e w' => e = .returned (.int .i64 r1) ∧ w' = W) := hc1
 have H2 : Hid (∀ W : World, Calls Tryz.prog 83 #[.int .i64 y1, .int .i64 x1] W fun e w' => e = .returned (.int .i64 r2) ∧ w' = W) := hc2
 have h3 := fun B W => or_any r1 r2 B W
 obtain ⟨R, hR⟩ : ∃ R, (if r1 = 0 then r2 else r1) = R := ⟨_, rfl⟩
 rw [hR] at h3
 have HQ : Hid ((if r1 = 0 then r2 else r1) = R) := hR
 have H3 : Hid (∀ B (W : World), W.cell? ⟨B, 0, none⟩ = some (.int .i64 r1) → W.cell? ⟨B, 1, none⟩ = some (.int .i64 r2) → Calls Tryz.prog 169 #[.slice (some ⟨B, 0, none⟩) 2 2] W fun e w' => e = .returned (.int .i64 R) ∧ w' = W) := h3
 clear hc1 hc2 hr1 hr2 h3 hR
 go_enter Tryz.func168, Tryz.ntmps168
 go_wp2_with fail
 go_region_held (fun w' => w'.cell? ⟨w.heap.size, 0, none⟩ = some (.int .i64 x1) ∧ w'.cell? ⟨w.heap.size, 1, none⟩ = some (.int .i64 x2) ∧ w'.cell? ⟨w.heap.size + 1, 0, none⟩ = some (.int .i64 y1) ∧ w'.cell? ⟨w.heap.size + 1, 1, none⟩ = some (.int .i64 y2)) (go_keep)
  (first
  | (go_at_call_of 83 (Value.int IntKind.i64 y2); refine (H1.out _).mono ?_; rintro e w' ⟨rfl, rfl⟩)
  | (go_at_call_of 83 (Value.int IntKind.i64 y1); refine (H2.out _).mono ?_; rintro e w' ⟨rfl, rfl⟩)
  | (go_at_call 169; refine (H3.out _ _ (third_at _ _ _ _ _ _).1 (third_at _ _ _ _ _ _).2).mono ?_; rintro e w' ⟨rfl, rfl⟩))
 all_goals (go_wp2_with fail; go_ret)
 all_goals exact ⟨congrArg (fun z => Ending.returned (.int .i64 z)) (by rw [HL.out, HR.out.1, HR.out.2, HQ.out]), 1, _, three_grow _ _ _ _⟩
end Go.Proofs.YtibhkijaafdkoaaGreatDoor

namespace Go.Proofs
open Go.Shelf
def Tryz.sortL_ren : Go.Shelf.Ren := ⟨fun | 6 => 167 | 15 => 176 | 14 => 175 | 28 => 189 | 29 => 190 | 20 => 181 | 21 => 182 | 22 => 183 | 23 => 184 | 24 => 185 | 25 => 186 | 26 => 187 | 27 => 188 | 46 => 193 | 47 => 194 | 48 => 195 | 49 => 196 | 50 => 197 | 57 => 198 | n => n, fun | 22 => 38 | 24 => 133 | 25 => 236 | 3 => 3 | 39 => 241 | 0 => 0 | 53 => 259 | 55 => 261 | 4 => 4 | 46 => 253 | 45 => 252 | 50 => 249 | 5 => 5 | 9 => 9 | 66 => 263 | 70 => 267 | 76 => 269 | 77 => 87 | n => n, fun | n => n⟩
theorem Tryz.sortL : Go.Proofs.SlLaysF0.n6 Tryz.prog Tryz.sortL_ren := {
 mixed := by kernel_rfl
 f6 := ⟨Tryz.f167.name, by decide, Tryz.func167.trans (congrArg some (by kernel_rfl))⟩
 f14 := ⟨Tryz.f175.name, by decide, Tryz.func175.trans (congrArg some (by kernel_rfl))⟩
 f15 := Tryz.func176.trans (congrArg some (by kernel_rfl))
 f20 := ⟨Tryz.f181.name, by decide, Tryz.func181.trans (congrArg some (by kernel_rfl))⟩
 f21 := ⟨Tryz.f182.name, by decide, Tryz.func182.trans (congrArg some (by kernel_rfl))⟩
 f22 := ⟨Tryz.f183.name, by decide, Tryz.func183.trans (congrArg some (by kernel_rfl))⟩
 f23 := ⟨Tryz.f184.name, by decide, Tryz.func184.trans (congrArg some (by kernel_rfl))⟩
 f24 := ⟨Tryz.f185.name, by decide, Tryz.func185.trans (congrArg some (by kernel_rfl))⟩
 f25 := ⟨Tryz.f186.name, by decide, Tryz.func186.trans (congrArg some (by kernel_rfl))⟩
 f26 := ⟨Tryz.f187.name, by decide, Tryz.func187.trans (congrArg some (by kernel_rfl))⟩
 f27 := ⟨Tryz.f188.name, by decide, Tryz.func188.trans (congrArg some (by kernel_rfl))⟩
 f28 := Tryz.func189.trans (congrArg some (by kernel_rfl))
 f29 := Tryz.func190.trans (congrArg some (by kernel_rfl))
 f46 := ⟨Tryz.f193.name, by decide, Tryz.func193.trans (congrArg some (by kernel_rfl))⟩
 f47 := Tryz.func194.trans (congrArg some (by kernel_rfl))
 f48 := Tryz.func195.trans (congrArg some (by kernel_rfl))
 f49 := ⟨Tryz.f196.name, by decide, Tryz.func196.trans (congrArg some (by kernel_rfl))⟩
 f50 := ⟨Tryz.f197.name, by decide, Tryz.func197.trans (congrArg some (by kernel_rfl))⟩
 f57 := ⟨Tryz.f198.name, by decide, Tryz.func198.trans (congrArg some (by kernel_rfl))⟩
 t0 := Tryz.underlying0
 a0 := Tryz.isAgg0
 z0 := Tryz.sizeOf0
 v0 := Tryz.zeroValue0
 t3 := Tryz.underlying3
 a3 := Tryz.isAgg3
 z3 := Tryz.sizeOf3
 v3 := Tryz.zeroValue3
 t4 := Tryz.underlying4
 a4 := Tryz.isAgg4
 z4 := Tryz.sizeOf4
 v4 := Tryz.zeroValue4
 t5 := Tryz.underlying5
 a5 := Tryz.isAgg5
 z5 := Tryz.sizeOf5
 v5 := Tryz.zeroValue5
 t9 := Tryz.underlying9
 a9 := Tryz.isAgg9
 z9 := Tryz.sizeOf9
 v9 := Tryz.zeroValue9
 t22 := Tryz.underlying38
 a22 := Tryz.isAgg38
 z22 := Tryz.sizeOf38
 v22 := Tryz.zeroValue38
 t25 := Tryz.underlying236
 a25 := Tryz.isAgg236
 z25 := Tryz.sizeOf236
 v25 := Tryz.zeroValue236
 t39 := Tryz.underlying241
 a39 := Tryz.isAgg241
 z39 := Tryz.sizeOf241
 v39 := Tryz.zeroValue241
 t45 := Tryz.underlying252
 a45 := Tryz.isAgg252
 z45 := Tryz.sizeOf252
 v45 := Tryz.zeroValue252
 t46 := Tryz.underlying253
 a46 := Tryz.isAgg253
 z46 := Tryz.sizeOf253
 v46 := Tryz.zeroValue253
 t50 := Tryz.underlying249
 a50 := Tryz.isAgg249
 z50 := Tryz.sizeOf249
 v50 := Tryz.zeroValue249
 t53 := Tryz.underlying259
 a53 := Tryz.isAgg259
 z53 := Tryz.sizeOf259
 v53 := Tryz.zeroValue259
 t55 := Tryz.underlying261
 a55 := Tryz.isAgg261
 z55 := Tryz.sizeOf261
 v55 := Tryz.zeroValue261
 t66 := Tryz.underlying263
 a66 := Tryz.isAgg263
 z66 := Tryz.sizeOf263
 v66 := Tryz.zeroValue263
 t70 := Tryz.underlying267
 a70 := Tryz.isAgg267
 z70 := Tryz.sizeOf267
 v70 := Tryz.zeroValue267
 t76 := Tryz.underlying269
 a76 := Tryz.isAgg269
 z76 := Tryz.sizeOf269
 v76 := Tryz.zeroValue269
 t77 := Tryz.underlying87
 a77 := Tryz.isAgg87
 z77 := Tryz.sizeOf87
 v77 := Tryz.zeroValue87 }
end Go.Proofs

namespace Go.Proofs.YtibhkijaafdkoaaGreatDoor
open Go.RowKit Go.Shelf
open Go.Sort hiding Below
set_option maxRecDepth 100000 in
set_option maxHeartbeats 400000 in
theorem clone_ok (ad : Addr) (cap : Nat) (ls : List (Int × Int)) (w : World) (hl : Lies w (some ad) ls) (hn : ls.length ≤ 1000) :
  Calls Tryz.prog 166 #[.slice (some ad) ls.length cap] w fun e w' => ∃ v, e = .returned v ∧ OwnL w' w.heap.size v ls ∧ Below w.heap.size w w' := by
 obtain ⟨i0, hi, hz0, hz1, hz2⟩ := info_parts Tryz.infoLine
 have hb0 : Below w.heap.size w (w.alloc (.cells #[] 133)) := (Below.refl _ _).alloc (Nat.le_refl _) _
 have H1 : Hid (∀ j u, (cellsL ls)[j]? = some u → (w.alloc (.cells #[] 133)).cell? (ad.add j) = some u) := lies_news (hl.below hb0)
 have H2 : Hid ((cellsL ls).length = ls.length * 2) := cellsL_length ls
 have H3 : Hid (∀ u ∈ cellsL ls, u.oneCell' = true) := cellsL_one ls
 have H4 : Hid ((w.alloc (.cells #[] 133)).ownsRow w.heap.size 133 2 (.slice (some ⟨w.heap.size, 0, none⟩) 0 0) 0 []) := World.ownsRow_lit w #[] 0 (Nat.le_refl _) (by simp [maxLen]) (by simp)
 have HB0 : Hid (Below w.heap.size w (w.alloc (.cells #[] 133))) := hb0
 clear hl hb0
 have hnil := fun wx => Go.Lib.run_eql_slice_nil (P := Tryz.prog) wx 38 133 (some ad) ls.length cap 0 0 Tryz.underlying38
 go_enter Tryz.func166, Tryz.ntmps166
 go_wp2_with (at_builtin; refine wpList_append_own _ rfl _ _ 38 rfl w.heap.size 133 i0 (.agg #[.int .i64 0, .int .i64 0]) 2 16 Tryz.underlying38 hi hz0 hz1 hz2 rfl (by decide) (.slice (some ⟨w.heap.size, 0, none⟩) 0 0) 0 [] rfl H4.out ad ls.length cap (cellsL ls) rfl H2.out H1.out H3.out (by unfold maxLen; omega) (by omega) (by simp) ?_; intro v' w3 hown' hgrow3 hnil3)
 go_ret
 refine ⟨_, rfl, by simpa [OwnL] using hown', ?_⟩
 exact HB0.out.grown hgrow3 (by simp) (fun k hk => by injection hk with hk; subst hk; exact Nat.le_refl _)
def encL (x : Int × Int) : List Value := [.int .i64 x.1, .int .i64 x.2]
theorem ltL (x y : Int × Int) : ltOf cmpL x y = decide (y.2 < x.2 ∨ (y.2 = x.2 ∧ y.1 < x.1)) := by
 unfold ltOf cmpL
 by_cases h : y.2 = x.2
 ·
  rw [if_pos (cmpI_zero.2 h)]
  rw [decide_eq_decide, cmpI_lt]
  omega
 ·
  rw [if_neg (fun e => h (cmpI_zero.1 e))]
  rw [decide_eq_decide, cmpI_lt]
  omega
theorem swoL : SWO (ltOf cmpL) where
 irrefl x := by rw [ltL]; simp
 trans x y z h1 h2 := by rw [ltL] at *; simp at *; omega
 ntrans x y z h1 h2 := by rw [ltL] at *; simp at *; omega
theorem Tryz.isAggLine (w : World) : (isAgg 133).run Tryz.prog w = .ok true w := by kernel_rfl
theorem Tryz.sizeOfLine (w : World) : (Go.sizeOf 133).run Tryz.prog w = .ok 2 w := by kernel_rfl
theorem holdsK_of_own {w : World} {B g cap : Nat} {ls : List (Int × Int)} (h : OwnL w B (.slice (some ⟨g, 0, none⟩) ls.length cap) ls) : HoldsK encL 2 w g 0 ls.toArray := by
 intro j hj
 rw [size_flatK] at hj
 have hj' : j < ls.length * 2 := by simpa using hj
 rw [get_flatK _ _ _ _ hj]
 have hc := World.ownsRow.cellAt h j hj'
 have hf := World.ownsRow.frozenAt h j
 rw [Nat.zero_add]
 refine ⟨?_, hf⟩
 rw [hc]
 have hi : j / 2 < ls.length := by omega
 have hg := cellsL_get ls (j / 2) (ls[j / 2]).1 (ls[j / 2]).2 (by simp [hi])
 have he : (ls.toArray)[j / 2]! = ls[j / 2] := by simp [hi]
 rw [he]
 rcases (show j % 2 = 0 ∨ j % 2 = 1 by omega) with h0 | h1
 ·
  rw [h0]
  have e : j / 2 * 2 = j := by omega
  rw [e] at hg
  exact hg.1
 ·
  rw [h1]
  have e : j / 2 * 2 + 1 = j := by omega
  rw [e] at hg
  exact hg.2
theorem lies_of_holdsK {w : World} {g : Nat} {ls : List (Int × Int)} (h : HoldsK encL 2 w g 0 ls.toArray) (hg : g < w.heap.size) : Lies w (some ⟨g, 0, none⟩) ls := by
 refine .inr ⟨g, 0, rfl, hg, fun i x y hi => ?_⟩
 have hil : i < ls.length := by
  rcases Nat.lt_or_ge i ls.length with h | h
  · exact h
  · simp [List.getElem?_eq_none h] at hi
 have h0 := (h.cell (i := i) (c := 0) (by simpa using hil) (by decide)).1
 have h1 := (h.cell (i := i) (c := 1) (by simpa using hil) (by decide)).1
 have he : (ls.toArray)[i]! = (x, y) := by
  simp [hil] at hi
  simp [hil, hi]
 rw [he] at h0 h1
 exact ⟨h0, h1⟩
theorem below_grow {B : Nat} {w0 w : World} (h : Go.RowKit.Below B w0 w) (os : Array Obj) (hB : B ≤ w.heap.size) : Go.RowKit.Below B w0 (grow w os) :=
 h.trans ⟨rfl, rfl, rfl, by simp, fun k hk => by show (w.heap ++ os)[k]? = _; rw [Array.getElem?_append_left (by omega)]⟩
def SortedL (ls : List (Int × Int)) : Prop := ∀ (i j : Nat) (x y : Int × Int), i < j → ls[i]? = some x → ls[j]? = some y → y.2 < x.2 ∨ (y.2 = x.2 ∧ y.1 ≤ x.1)
set_option maxRecDepth 100000 in
set_option maxHeartbeats 400000 in
theorem steepest_ok (ad : Addr) (cap : Nat) (ls : List (Int × Int)) (w : World) (hl : Lies w (some ad) ls) (h1 : 1 ≤ ls.length) (hn : ls.length ≤ 1000) :
  Calls Tryz.prog 144 #[.slice (some ad) ls.length cap] w fun e w' => ∃ g cap' ls', e = .returned (.slice (some ⟨g, 0, none⟩) ls'.length cap') ∧ ls'.Perm ls ∧ SortedL ls' ∧ Lies w' (some ⟨g, 0, none⟩) ls' ∧ Below w.heap.size w w' := by
 have HC := (show Hid (Calls Tryz.prog 166 #[.slice (some ad) ls.length cap] w fun e w' => ∃ v, e = .returned v ∧ OwnL w' w.heap.size v ls ∧ Below w.heap.size w w') from clone_ok ad cap ls w hl hn)
 clear hl
 go_enter Tryz.func144, Tryz.ntmps144
 go_wp2_with fail
 refine HC.out.mono ?_
 rintro e w1 ⟨v, rfl, ho, hb⟩
 obtain ⟨g, cap1, rfl, hg⟩ : ∃ g cap1, v = .slice (some ⟨g, 0, none⟩) ls.length cap1 ∧ w.heap.size ≤ g ∧ g < w1.heap.size := by
  obtain ⟨g, cap1, hv, hb1, hb2⟩ := World.ownsRow.form ho h1
  exact ⟨g, cap1, hv, hb1, hb2⟩
 have hH := holdsK_of_own ho
 have eg : ∀ args w, (callFunc 168 args).run Tryz.prog w = .ok (.enter 168 args) w := enters_of Tryz.func168 (by kernel_rfl) rfl
 have hcon := AnyQ.slices_SortFunc Tryz.sortL 2 Tryz.isAggLine Tryz.sizeOfLine encL (fun _ => rfl) (fun x v hv => by simp [encL] at hv; rcases hv with rfl | rfl <;> rfl) cmpL swoL 168 #[] g 0 cap1 ls.toArray w1 eg (fun _ _ _ _ x y => order_call x y _) hH hg.2 (by simp; omega)
 change Calls Tryz.prog 167 _ _ _ at hcon
 rw [List.size_toArray] at hcon
 have HS := (show Hid (Calls Tryz.prog 167 #[.slice (some ⟨g, 0, none⟩) ls.length cap1, .func (.func 168) #[] #[]] w1 fun e w' => e = .returned (.tuple #[]) ∧ ∃ d' n os, PermIn 0 ls.length ls.toArray d' ∧ SortedIn (ltOf cmpL) 0 ls.length d' ∧ w' = sortWorldK encL 2 w1 g 0 n d' os) from hcon)
 have HH : Hid (HoldsK encL 2 w1 g 0 ls.toArray) := hH
 have HB : Hid (Below w.heap.size w w1) := hb
 clear hcon hH ho hb eg
 go_wp2_with fail
 refine HS.out.mono ?_
 rintro e w2 ⟨rfl, d', n, os, hp, hs, hw2⟩
 have hsz : d'.size = ls.length := by have := hp.1; simpa using this
 have hH2 : HoldsK encL 2 w2 g 0 d' := by
  rw [hw2]
  exact holdsK_grow _ _ _ _ _ _ _ (by simp [putRowK, putRow, mapBlock]; exact hg.2) (holdsK_putRowK _ _ _ _ _ ls.toArray d' HH.out (by simpa using hsz))
 have hb2 : Below w.heap.size w w2 := by
  rw [hw2]
  have h1 : Below w.heap.size w (putRowK encL 2 (Sort.ahead w1 n) g 0 d') := Go.Lib.below_putRow HB.out hg.1
  exact below_grow h1 os (by have := HB.out.size; have := h1.size; exact this)
 have hg2 : g < w2.heap.size := by
  rw [hw2]
  simp [sortWorldK, putRowK, putRow, mapBlock]
  omega
 have hd : d'.toList.toArray = d' := by simp
 have hlen : d'.toList.length = ls.length := by simpa using hsz
 have hperm : d'.toList.Perm ls := by
  have := hp.2.2
  rw [Array.extract_eq_self_of_le (by omega), Array.extract_eq_self_of_le (by simp)] at this
  simpa using this
 have hsort : SortedL d'.toList := by
  intro i j x y hij hx hy
  have hjl : j < d'.toList.length := by
   rcases Nat.lt_or_ge j d'.toList.length with h | h
   · exact h
   · simp [List.getElem?_eq_none h] at hy
  have := hs i j (Nat.zero_le _) hij (by omega)
  rw [ltL] at this
  have hx' : d'[i]! = x := by rw [Array.getElem?_toList] at hx; rw [getElem!_def, hx]
  have hy' : d'[j]! = y := by rw [Array.getElem?_toList] at hy; rw [getElem!_def, hy]
  rw [hx', hy'] at this
  have := of_decide_eq_false this
  omega
 have HR : Hid (d'.toList.Perm ls ∧ SortedL d'.toList ∧ Lies w2 (some ⟨g, 0, none⟩) d'.toList ∧ Below w.heap.size w w2) := ⟨hperm, hsort, lies_of_holdsK (by rw [hd]; exact hH2) hg2, hb2⟩
 have HN : Hid (d'.toList.length = ls.length) := hlen
 clear hw2 hH2 hb2 hg2 hd hlen hperm hsort hp hs hsz
 go_wp2_with fail
 go_ret
 exact ⟨g, cap1, d'.toList, by rw [HN.out]; rfl, HR.out.1, HR.out.2.1, HR.out.2.2.1, HR.out.2.2.2⟩
end Go.Proofs.YtibhkijaafdkoaaGreatDoor

namespace Go.Proofs.YtibhkijaafdkoaaGreatDoor
open Go.RowKit
set_option maxHeartbeats 400000 in
theorem first_busy (low high : Int) (k1 k2 : Value) (p : Int → Bool) (w0 w : World) (hw : Below w0.heap.size w0 w) (h0 : 0 ≤ low) (h1 : low ≤ high) (h2 : high ≤ 1099511627777)
  (hcall : ∀ (n : Int) (W : World), low ≤ n → n < high → Below w0.heap.size w0 W → Calls Tryz.prog 47 #[.int .i64 n, k1, k2] W fun e w' => e = .returned (.bool (p n)) ∧ Below W.heap.size W w') :
  Calls Tryz.prog 46 #[.int .i64 low, .int .i64 high, .func (.func 47) #[] #[k1, k2]] w fun e w' => ∃ r : Int, e = .returned (.int .i64 r) ∧ low ≤ r ∧ r ≤ high ∧ (r = high ∨ p r = true) ∧ (r = low ∨ p (r - 1) = false) ∧ Below w0.heap.size w0 w' := by
 have HC : Hid (∀ (n : Int) (W : World), low ≤ n → n < high → Below w0.heap.size w0 W → Calls Tryz.prog 47 #[.int .i64 n, k1, k2] W fun e w' => e = .returned (.bool (p n)) ∧ Below W.heap.size W w') := hcall
 clear hcall
 go_enter Tryz.func46, Tryz.ntmps46
 go_wp2_with fail
 go_loopw [0, 1] (fun l h wr => ∃ a b : Int, l = .int .i64 a ∧ h = .int .i64 b ∧ low ≤ a ∧ a ≤ b ∧ b ≤ high ∧ (b = high ∨ p b = true) ∧ (a = low ∨ p (a - 1) = false) ∧ Below w0.heap.size w0 wr) (fun l h _ => (intOf h - intOf l).toNat)
 case atStart => exact ⟨low, high, rfl, rfl, Int.le_refl _, h1, Int.le_refl _, .inl rfl, .inl rfl, hw⟩
 case round =>
  obtain ⟨a, b, rfl, rfl, i1, i2, i3, i4, i5, hb⟩ := hrel
  have HI : Hid ((b = high ∨ p b = true) ∧ (a = low ∨ p (a - 1) = false) ∧ Below w0.heap.size w0 wr) := ⟨i4, i5, hb⟩
  clear i4 i5 hb
  by_cases hab : a < b
  ·
   obtain ⟨m, hm⟩ : ∃ m, a + (b - a) / 2 = m := ⟨_, rfl⟩
   have m1 : a ≤ m := by omega
   have m2 : m < b := by omega
   have HM : Hid (a + (b - a) / 2 = m) := hm
   clear hm
   cases hpm : p m with
   | true =>
    have HP : Hid (p m = true) := hpm
    clear hpm
    go_wp2_with fail
    rw [HM.out]
    refine (HC.out m _ (by omega) (by omega) HI.out.2.2).mono ?_
    rintro e w1 ⟨rfl, hb1⟩
    rw [HP.out]
    have HB1 : Hid (Below w0.heap.size w0 w1) := HI.out.2.2.trans (hb1.mono HI.out.2.2.size)
    clear hb1
    go_wp2_with fail
    go_roundw
    case rel => exact ⟨a, m, rfl, rfl, i1, m1, by omega, .inr HP.out, HI.out.2.1, HB1.out⟩
    case measure => simp [intOf]; omega
   | false =>
    have HP : Hid (p m = false) := hpm
    clear hpm
    go_wp2_with fail
    rw [HM.out]
    refine (HC.out m _ (by omega) (by omega) HI.out.2.2).mono ?_
    rintro e w1 ⟨rfl, hb1⟩
    rw [HP.out]
    have HB1 : Hid (Below w0.heap.size w0 w1) := HI.out.2.2.trans (hb1.mono HI.out.2.2.size)
    clear hb1
    go_wp2_with fail
    go_roundw
    case rel => exact ⟨m + 1, b, rfl, rfl, by omega, by omega, i3, HI.out.1, .inr (by rw [show m + 1 - 1 = m by omega]; exact HP.out), HB1.out⟩
    case measure => simp [intOf]; omega
  ·
   go_wp2_with fail
   go_ret
   obtain ⟨i4, i5, hb⟩ := HI.out
   have e : a = b := by omega
   subst e
   exact ⟨a, rfl, i1, i3, i4, i5, hb⟩
set_option maxHeartbeats 400000 in
theorem first_turn (low high : Int) (k1 k2 : Value) (p : Int → Bool) (w0 w : World) (hw : Below w0.heap.size w0 w) (h0 : 0 ≤ low) (h1 : low ≤ high) (h2 : high ≤ 1099511627777)
  (hcall : ∀ (n : Int) (W : World), low ≤ n → n < high → Below w0.heap.size w0 W → Calls Tryz.prog 74 #[.int .i64 n, k1, k2] W fun e w' => e = .returned (.bool (p n)) ∧ Below W.heap.size W w') :
  Calls Tryz.prog 46 #[.int .i64 low, .int .i64 high, .func (.func 74) #[] #[k1, k2]] w fun e w' => ∃ r : Int, e = .returned (.int .i64 r) ∧ low ≤ r ∧ r ≤ high ∧ (r = high ∨ p r = true) ∧ (r = low ∨ p (r - 1) = false) ∧ Below w0.heap.size w0 w' := by
 have HC : Hid (∀ (n : Int) (W : World), low ≤ n → n < high → Below w0.heap.size w0 W → Calls Tryz.prog 74 #[.int .i64 n, k1, k2] W fun e w' => e = .returned (.bool (p n)) ∧ Below W.heap.size W w') := hcall
 clear hcall
 go_enter Tryz.func46, Tryz.ntmps46
 go_wp2_with fail
 go_loopw [0, 1] (fun l h wr => ∃ a b : Int, l = .int .i64 a ∧ h = .int .i64 b ∧ low ≤ a ∧ a ≤ b ∧ b ≤ high ∧ (b = high ∨ p b = true) ∧ (a = low ∨ p (a - 1) = false) ∧ Below w0.heap.size w0 wr) (fun l h _ => (intOf h - intOf l).toNat)
 case atStart => exact ⟨low, high, rfl, rfl, Int.le_refl _, h1, Int.le_refl _, .inl rfl, .inl rfl, hw⟩
 case round =>
  obtain ⟨a, b, rfl, rfl, i1, i2, i3, i4, i5, hb⟩ := hrel
  have HI : Hid ((b = high ∨ p b = true) ∧ (a = low ∨ p (a - 1) = false) ∧ Below w0.heap.size w0 wr) := ⟨i4, i5, hb⟩
  clear i4 i5 hb
  by_cases hab : a < b
  ·
   obtain ⟨m, hm⟩ : ∃ m, a + (b - a) / 2 = m := ⟨_, rfl⟩
   have m1 : a ≤ m := by omega
   have m2 : m < b := by omega
   have HM : Hid (a + (b - a) / 2 = m) := hm
   clear hm
   cases hpm : p m with
   | true =>
    have HP : Hid (p m = true) := hpm
    clear hpm
    go_wp2_with fail
    rw [HM.out]
    refine (HC.out m _ (by omega) (by omega) HI.out.2.2).mono ?_
    rintro e w1 ⟨rfl, hb1⟩
    rw [HP.out]
    have HB1 : Hid (Below w0.heap.size w0 w1) := HI.out.2.2.trans (hb1.mono HI.out.2.2.size)
    clear hb1
    go_wp2_with fail
    go_roundw
    case rel => exact ⟨a, m, rfl, rfl, i1, m1, by omega, .inr HP.out, HI.out.2.1, HB1.out⟩
    case measure => simp [intOf]; omega
   | false =>
    have HP : Hid (p m = false) := hpm
    clear hpm
    go_wp2_with fail
    rw [HM.out]
    refine (HC.out m _ (by omega) (by omega) HI.out.2.2).mono ?_
    rintro e w1 ⟨rfl, hb1⟩
    rw [HP.out]
    have HB1 : Hid (Below w0.heap.size w0 w1) := HI.out.2.2.trans (hb1.mono HI.out.2.2.size)
    clear hb1
    go_wp2_with fail
    go_roundw
    case rel => exact ⟨m + 1, b, rfl, rfl, by omega, by omega, i3, HI.out.1, .inr (by rw [show m + 1 - 1 = m by omega]; exact HP.out), HB1.out⟩
    case measure => simp [intOf]; omega
  ·
   go_wp2_with fail
   go_ret
   obtain ⟨i4, i5, hb⟩ := HI.out
   have e : a = b := by omega
   subst e
   exact ⟨a, rfl, i1, i3, i4, i5, hb⟩
end Go.Proofs.YtibhkijaafdkoaaGreatDoor

namespace Go.Proofs.YtibhkijaafdkoaaGreatDoor
theorem leastAt_le (t : Int) (l : List (Int × Int)) : ∀ m : Int, leastAt t m l ≤ m ∧ ∀ p, p ∈ l → leastAt t m l ≤ lineAt t p.1 p.2 := by
 induction l with
 | nil => intro m; exact ⟨Int.le_refl _, fun p hp => by cases hp⟩
 | cons q r ih =>
  intro m
  have := ih (min m (lineAt t q.1 q.2))
  refine ⟨?_, fun p hp => ?_⟩
  ·
   show leastAt t (min m (lineAt t q.1 q.2)) r ≤ m
   have := this.1; omega
  ·
   show leastAt t (min m (lineAt t q.1 q.2)) r ≤ _
   rcases List.mem_cons.1 hp with rfl | hp
   · have := this.1; omega
   · exact this.2 p hp
theorem leastAt_is (t : Int) (l : List (Int × Int)) : ∀ m : Int, leastAt t m l = m ∨ ∃ p, p ∈ l ∧ leastAt t m l = lineAt t p.1 p.2 := by
 induction l with
 | nil => intro m; exact .inl rfl
 | cons q r ih =>
  intro m
  show leastAt t (min m (lineAt t q.1 q.2)) r = m ∨ ∃ p, p ∈ q :: r ∧ leastAt t (min m (lineAt t q.1 q.2)) r = lineAt t p.1 p.2
  rcases ih (min m (lineAt t q.1 q.2)) with h | ⟨p, hp, h⟩
  ·
   rw [h]
   by_cases hm : m ≤ lineAt t q.1 q.2
   · exact .inl (by omega)
   · exact .inr ⟨q, List.mem_cons_self .., by omega⟩
  · exact .inr ⟨p, List.mem_cons_of_mem _ hp, h⟩
theorem curveAt_le (t : Int) (ls : List (Int × Int)) (p : Int × Int) (hp : p ∈ ls) : curveAt t ls ≤ lineAt t p.1 p.2 := by
 cases ls with
 | nil => cases hp
 | cons q r =>
  have := leastAt_le t r (lineAt t q.1 q.2)
  rcases List.mem_cons.1 hp with rfl | hp
  · exact this.1
  · exact this.2 p hp
theorem curveAt_is (t : Int) (ls : List (Int × Int)) (h : 1 ≤ ls.length) : ∃ p, p ∈ ls ∧ curveAt t ls = lineAt t p.1 p.2 := by
 cases ls with
 | nil => simp at h
 | cons q r =>
  rcases leastAt_is t r (lineAt t q.1 q.2) with h | ⟨p, hp, h⟩
  · exact ⟨q, List.mem_cons_self .., h⟩
  · exact ⟨p, List.mem_cons_of_mem _ hp, h⟩
end Go.Proofs.YtibhkijaafdkoaaGreatDoor
