/- Own facts, put together: no statement of its own. -/
import Derived.Shelf.SlSortCmp.WholeK
import Derived.Ground.SlsfProg
import Derived.Test.YtibhkijaafdkoaaGreatDoorChecked
import Derived.Lib.OwnBridge
import Derived.Deep.AppendLies
import Derived.Test.YtibhkijaafdkoaaGreatDoorK02
import Derived.Test.YtibhkijaafdkoaaGreatDoorK01
namespace Go.Proofs
open Go.Shelf
def Tryz.sortL_ren : Go.Shelf.Ren := ⟨fun | 6 => 167 | 15 => 176 | 14 => 175 | 28 => 189 | 29 => 190 | 20 => 181 | 21 => 182 | 22 => 183 | 23 => 184 | 24 => 185 | 25 => 186 | 26 => 187 | 27 => 188 | 46 => 193 | 47 => 194 | 48 => 195 | 49 => 196 | 50 => 197 | 57 => 198 | n => n, fun | 22 => 38 | 24 => 133 | 25 => 236 | 3 => 3 | 39 => 241 | 0 => 0 | 53 => 259 | 55 => 261 | 4 => 4 | 46 => 253 | 45 => 252 | 50 => 249 | 5 => 5 | 9 => 9 | 66 => 263 | 70 => 267 | 76 => 269 | 77 => 87 | n => n, fun | n => n⟩
theorem Tryz.sortL : Go.Proofs.SlLaysF0.n6 Tryz.prog Tryz.sortL_ren := {
 mixed := by kernel_rfl
 f6 := ⟨Tryz.f167.name, by decide, Tryz.func167.trans (congrArg some (by kernel_rfl))⟩
 f14 := ⟨Tryz.f175.name, by decide, Tryz.func175.trans (congrArg some (by kernel_rfl))⟩
 f15 := Tryz.func176.trans (congrArg some (by kernel_rfl))
 f20 := ⟨Tryz.f181.name, by decide, Tryz.func181.trans (congrArg some (by kernel_rfl))⟩
 f21 := ⟨Tryz.f182.name, by decide, Tryz.func182.trans (congrArg some (by kernel_rfl))⟩
 f22 := ⟨Tryz.f183.name, by decide, Tryz.func183.trans (congrArg some (by kernel_rfl))⟩
 f23 := ⟨Tryz.f184.name, by decide, Tryz.func184.trans (congrArg some (by kernel_rfl))⟩
 f24 := ⟨Tryz.f185.name, by decide, Tryz.func185.trans (congrArg some (by kernel_rfl))⟩
 f25 := ⟨Tryz.f186.name, by decide, Tryz.func186.trans (congrArg some (by kernel_rfl))⟩
 f26 := ⟨Tryz.f187.name, by decide, Tryz.func187.trans (congrArg some (by kernel_rfl))⟩
 f27 := ⟨Tryz.f188.name, by decide, Tryz.func188.trans (congrArg some (by kernel_rfl))⟩
 f28 := Tryz.func189.trans (congrArg some (by kernel_rfl))
 f29 := Tryz.func190.trans (congrArg some (by kernel_rfl))
 f46 := ⟨Tryz.f193.name, by decide, Tryz.func193.trans (congrArg some (by kernel_rfl))⟩
 f47 := Tryz.func194.trans (congrArg some (by kernel_rfl))
 f48 := Tryz.func195.trans (congrArg some (by kernel_rfl))
 f49 := ⟨Tryz.f196.name, by decide, Tryz.func196.trans (congrArg some (by kernel_rfl))⟩
 f50 := ⟨Tryz.f197.name, by decide, Tryz.func197.trans (congrArg some (by kernel_rfl))⟩
 f57 := ⟨Tryz.f198.name, by decide, Tryz.func198.trans (congrArg some (by kernel_rfl))⟩
 t0 := Tryz.underlying0
 a0 := Tryz.isAgg0
 z0 := Tryz.sizeOf0
 v0 := Tryz.zeroValue0
 t3 := Tryz.underlying3
 a3 := Tryz.isAgg3
 z3 := Tryz.sizeOf3
 v3 := Tryz.zeroValue3
 t4 := Tryz.underlying4
 a4 := Tryz.isAgg4
 z4 := Tryz.sizeOf4
 v4 := Tryz.zeroValue4
 t5 := Tryz.underlying5
 a5 := Tryz.isAgg5
 z5 := Tryz.sizeOf5
 v5 := Tryz.zeroValue5
 t9 := Tryz.underlying9
 a9 := Tryz.isAgg9
 z9 := Tryz.sizeOf9
 v9 := Tryz.zeroValue9
 t22 := Tryz.underlying38
 a22 := Tryz.isAgg38
 z22 := Tryz.sizeOf38
 v22 := Tryz.zeroValue38
 t25 := Tryz.underlying236
 a25 := Tryz.isAgg236
 z25 := Tryz.sizeOf236
 v25 := Tryz.zeroValue236
 t39 := Tryz.underlying241
 a39 := Tryz.isAgg241
 z39 := Tryz.sizeOf241
 v39 := Tryz.zeroValue241
 t45 := Tryz.underlying252
 a45 := Tryz.isAgg252
 z45 := Tryz.sizeOf252
 v45 := Tryz.zeroValue252
 t46 := Tryz.underlying253
 a46 := Tryz.isAgg253
 z46 := Tryz.sizeOf253
 v46 := Tryz.zeroValue253
 t50 := Tryz.underlying249
 a50 := Tryz.isAgg249
 z50 := Tryz.sizeOf249
 v50 := Tryz.zeroValue249
 t53 := Tryz.underlying259
 a53 := Tryz.isAgg259
 z53 := Tryz.sizeOf259
 v53 := Tryz.zeroValue259
 t55 := Tryz.underlying261
 a55 := Tryz.isAgg261
 z55 := Tryz.sizeOf261
 v55 := Tryz.zeroValue261
 t66 := Tryz.underlying263
 a66 := Tryz.isAgg263
 z66 := Tryz.sizeOf263
 v66 := Tryz.zeroValue263
 t70 := Tryz.underlying267
 a70 := Tryz.isAgg267
 z70 := Tryz.sizeOf267
 v70 := Tryz.zeroValue267
 t76 := Tryz.underlying269
 a76 := Tryz.isAgg269
 z76 := Tryz.sizeOf269
 v76 := Tryz.zeroValue269
 t77 := Tryz.underlying87
 a77 := Tryz.isAgg87
 z77 := Tryz.sizeOf87
 v77 := Tryz.zeroValue87 }
end Go.Proofs

namespace Go.Proofs.YtibhkijaafdkoaaGreatDoor
open Go.RowKit Go.Shelf
open Go.Sort hiding Below
set_option maxRecDepth 100000 in
set_option maxHeartbeats 400000 in
theorem clone_ok (ad : Addr) (cap : Nat) (ls : List (Int × Int)) (w : World) (hl : Lies w (some ad) ls) (hn : ls.length ≤ 1000) :
  Calls Tryz.prog 166 #[.slice (some ad) ls.length cap] w fun e w' => ∃ v, e = .returned v ∧ OwnL w' w.heap.size v ls ∧ Below w.heap.size w w' := by
 obtain ⟨i0, hi, hz0, hz1, hz2⟩ := info_parts Tryz.infoLine
 have hb0 : Below w.heap.size w (w.alloc (.cells #[] 133)) := (Below.refl _ _).alloc (Nat.le_refl _) _
 have H1 : Hid (∀ j u, (cellsL ls)[j]? = some u → (w.alloc (.cells #[] 133)).cell? (ad.add j) = some u) := lies_news (hl.below hb0)
 have H2 : Hid ((cellsL ls).length = ls.length * 2) := cellsL_length ls
 have H3 : Hid (∀ u ∈ cellsL ls, u.oneCell' = true) := cellsL_one ls
 have H4 : Hid ((w.alloc (.cells #[] 133)).ownsRow w.heap.size 133 2 (.slice (some ⟨w.heap.size, 0, none⟩) 0 0) 0 []) := World.ownsRow_lit w #[] 0 (Nat.le_refl _) (by simp [maxLen]) (by simp)
 have HB0 : Hid (Below w.heap.size w (w.alloc (.cells #[] 133))) := hb0
 clear hl hb0
 have hnil := fun wx => Go.Lib.run_eql_slice_nil (P := Tryz.prog) wx 38 133 (some ad) ls.length cap 0 0 Tryz.underlying38
 go_enter Tryz.func166, Tryz.ntmps166
 go_wp2_with (at_builtin; refine wpList_append_own _ rfl _ _ 38 rfl w.heap.size 133 i0 (.agg #[.int .i64 0, .int .i64 0]) 2 16 Tryz.underlying38 hi hz0 hz1 hz2 rfl (by decide) (.slice (some ⟨w.heap.size, 0, none⟩) 0 0) 0 [] rfl H4.out ad ls.length cap (cellsL ls) rfl H2.out H1.out H3.out (by unfold maxLen; omega) (by omega) (by simp) ?_; intro v' w3 hown' hgrow3 hnil3)
 go_ret
 refine ⟨_, rfl, by simpa [OwnL] using hown', ?_⟩
 exact HB0.out.grown hgrow3 (by simp) (fun k hk => by injection hk with hk; subst hk; exact Nat.le_refl _)
def encL (x : Int × Int) : List Value := [.int .i64 x.1, .int .i64 x.2]
theorem ltL (x y : Int × Int) : ltOf cmpL x y = decide (y.2 < x.2 ∨ (y.2 = x.2 ∧ y.1 < x.1)) := by
 unfold ltOf cmpL
 by_cases h : y.2 = x.2
 ·
  rw [if_pos (cmpI_zero.2 h)]
  rw [decide_eq_decide, cmpI_lt]
  omega
 ·
  rw [if_neg (fun e => h (cmpI_zero.1 e))]
  rw [decide_eq_decide, cmpI_lt]
  omega
theorem swoL : SWO (ltOf cmpL) where
 irrefl x := by rw [ltL]; simp
 trans x y z h1 h2 := by rw [ltL] at *; simp at *; omega
 ntrans x y z h1 h2 := by rw [ltL] at *; simp at *; omega
theorem Tryz.isAggLine (w : World) : (isAgg 133).run Tryz.prog w = .ok true w := by kernel_rfl
theorem Tryz.sizeOfLine (w : World) : (Go.sizeOf 133).run Tryz.prog w = .ok 2 w := by kernel_rfl
theorem holdsK_of_own {w : World} {B g cap : Nat} {ls : List (Int × Int)} (h : OwnL w B (.slice (some ⟨g, 0, none⟩) ls.length cap) ls) : HoldsK encL 2 w g 0 ls.toArray := by
 intro j hj
 rw [size_flatK] at hj
 have hj' : j < ls.length * 2 := by simpa using hj
 rw [get_flatK _ _ _ _ hj]
 have hc := World.ownsRow.cellAt h j hj'
 have hf := World.ownsRow.frozenAt h j
 rw [Nat.zero_add]
 refine ⟨?_, hf⟩
 rw [hc]
 have hi : j / 2 < ls.length := by omega
 have hg := cellsL_get ls (j / 2) (ls[j / 2]).1 (ls[j / 2]).2 (by simp [hi])
 have he : (ls.toArray)[j / 2]! = ls[j / 2] := by simp [hi]
 rw [he]
 rcases (show j % 2 = 0 ∨ j % 2 = 1 by omega) with h0 | h1
 ·
  rw [h0]
  have e : j / 2 * 2 = j := by omega
  rw [e] at hg
  exact hg.1
 ·
  rw [h1]
  have e : j / 2 * 2 + 1 = j := by omega
  rw [e] at hg
  exact hg.2
theorem lies_of_holdsK {w : World} {g : Nat} {ls : List (Int × Int)} (h : HoldsK encL 2 w g 0 ls.toArray) (hg : g < w.heap.size) : Lies w (some ⟨g, 0, none⟩) ls := by
 refine .inr ⟨g, 0, rfl, hg, fun i x y hi => ?_⟩
 have hil : i < ls.length := by
  rcases Nat.lt_or_ge i ls.length with h | h
  · exact h
  · simp [List.getElem?_eq_none h] at hi
 have h0 := (h.cell (i := i) (c := 0) (by simpa using hil) (by decide)).1
 have h1 := (h.cell (i := i) (c := 1) (by simpa using hil) (by decide)).1
 have he : (ls.toArray)[i]! = (x, y) := by
  simp [hil] at hi
  simp [hil, hi]
 rw [he] at h0 h1
 exact ⟨h0, h1⟩
theorem below_grow {B : Nat} {w0 w : World} (h : Go.RowKit.Below B w0 w) (os : Array Obj) (hB : B ≤ w.heap.size) : Go.RowKit.Below B w0 (grow w os) :=
 h.trans ⟨rfl, rfl, rfl, by simp, fun k hk => by show (w.heap ++ os)[k]? = _; rw [Array.getElem?_append_left (by omega)]⟩
def SortedL (ls : List (Int × Int)) : Prop := ∀ (i j : Nat) (x y : Int × Int), i < j → ls[i]? = some x → ls[j]? = some y → y.2 < x.2 ∨ (y.2 = x.2 ∧ y.1 ≤ x.1)
set_option maxRecDepth 100000 in
set_option maxHeartbeats 400000 in
theorem steepest_ok (ad : Addr) (cap : Nat) (ls : List (Int × Int)) (w : World) (hl : Lies w (some ad) ls) (h1 : 1 ≤ ls.length) (hn : ls.length ≤ 1000) :
  Calls Tryz.prog 144 #[.slice (some ad) ls.length cap] w fun e w' => ∃ g cap' ls', e = .returned (.slice (some ⟨g, 0, none⟩) ls'.length cap') ∧ ls'.Perm ls ∧ SortedL ls' ∧ Lies w' (some ⟨g, 0, none⟩) ls' ∧ Below w.heap.size w w' := by
 have HC := (show Hid (Calls Tryz.prog 166 #[.slice (some ad) ls.length cap] w fun e w' => ∃ v, e = .returned v ∧ OwnL w' w.heap.size v ls ∧ Below w.heap.size w w') from clone_ok ad cap ls w hl hn)
 clear hl
 go_enter Tryz.func144, Tryz.ntmps144
 go_wp2_with fail
 refine HC.out.mono ?_
 rintro e w1 ⟨v, rfl, ho, hb⟩
 obtain ⟨g, cap1, rfl, hg⟩ : ∃ g cap1, v = .slice (some ⟨g, 0, none⟩) ls.length cap1 ∧ w.heap.size ≤ g ∧ g < w1.heap.size := by
  obtain ⟨g, cap1, hv, hb1, hb2⟩ := World.ownsRow.form ho h1
  exact ⟨g, cap1, hv, hb1, hb2⟩
 have hH := holdsK_of_own ho
 have eg : ∀ args w, (callFunc 168 args).run Tryz.prog w = .ok (.enter 168 args) w := enters_of Tryz.func168 (by kernel_rfl) rfl
 have hcon := AnyQ.slices_SortFunc Tryz.sortL 2 Tryz.isAggLine Tryz.sizeOfLine encL (fun _ => rfl) (fun x v hv => by simp [encL] at hv; rcases hv with rfl | rfl <;> rfl) cmpL swoL 168 #[] g 0 cap1 ls.toArray w1 eg (fun _ _ _ _ x y => order_call x y _) hH hg.2 (by simp; omega)
 change Calls Tryz.prog 167 _ _ _ at hcon
 rw [List.size_toArray] at hcon
 have HS := (show Hid (Calls Tryz.prog 167 #[.slice (some ⟨g, 0, none⟩) ls.length cap1, .func (.func 168) #[] #[]] w1 fun e w' => e = .returned (.tuple #[]) ∧ ∃ d' n os, PermIn 0 ls.length ls.toArray d' ∧ SortedIn (ltOf cmpL) 0 ls.length d' ∧ w' = sortWorldK encL 2 w1 g 0 n d' os) from hcon)
 have HH : Hid (HoldsK encL 2 w1 g 0 ls.toArray) := hH
 have HB : Hid (Below w.heap.size w w1) := hb
 clear hcon hH ho hb eg
 go_wp2_with fail
 refine HS.out.mono ?_
 rintro e w2 ⟨rfl, d', n, os, hp, hs, hw2⟩
 have hsz : d'.size = ls.length := by have := hp.1; simpa using this
 have hH2 : HoldsK encL 2 w2 g 0 d' := by
  rw [hw2]
  exact holdsK_grow _ _ _ _ _ _ _ (by simp [putRowK, putRow, mapBlock]; exact hg.2) (holdsK_putRowK _ _ _ _ _ ls.toArray d' HH.out (by simpa using hsz))
 have hb2 : Below w.heap.size w w2 := by
  rw [hw2]
  have h1 : Below w.heap.size w (putRowK encL 2 (Sort.ahead w1 n) g 0 d') := Go.Lib.below_putRow HB.out hg.1
  exact below_grow h1 os (by have := HB.out.size; have := h1.size; exact this)
 have hg2 : g < w2.heap.size := by
  rw [hw2]
  simp [sortWorldK, putRowK, putRow, mapBlock]
  omega
 have hd : d'.toList.toArray = d' := by simp
 have hlen : d'.toList.length = ls.length := by simpa using hsz
 have hperm : d'.toList.Perm ls := by
  have := hp.2.2
  rw [Array.extract_eq_self_of_le (by omega), Array.extract_eq_self_of_le (by simp)] at this
  simpa using this
 have hsort : SortedL d'.toList := by
  intro i j x y hij hx hy
  have hjl : j < d'.toList.length := by
   rcases Nat.lt_or_ge j d'.toList.length with h | h
   · exact h
   · simp [List.getElem?_eq_none h] at hy
  have := hs i j (Nat.zero_le _) hij (by omega)
  rw [ltL] at this
  have hx' : d'[i]! = x := by rw [Array.getElem?_toList] at hx; rw [getElem!_def, hx]
  have hy' : d'[j]! = y := by rw [Array.getElem?_toList] at hy; rw [getElem!_def, hy]
  rw [hx', hy'] at this
  have := of_decide_eq_false this
  omega
 have HR : Hid (d'.toList.Perm ls ∧ SortedL d'.toList ∧ Lies w2 (some ⟨g, 0, none⟩) d'.toList ∧ Below w.heap.size w w2) := ⟨hperm, hsort, lies_of_holdsK (by rw [hd]; exact hH2) hg2, hb2⟩
 have HN : Hid (d'.toList.length = ls.length) := hlen
 clear hw2 hH2 hb2 hg2 hd hlen hperm hsort hp hs hsz
 go_wp2_with fail
 go_ret
 exact ⟨g, cap1, d'.toList, by rw [HN.out]; rfl, HR.out.1, HR.out.2.1, HR.out.2.2.1, HR.out.2.2.2⟩
end Go.Proofs.YtibhkijaafdkoaaGreatDoor

namespace Go.Proofs.YtibhkijaafdkoaaGreatDoor
open Go.RowKit
set_option maxHeartbeats 400000 in
theorem first_busy (low high : Int) (k1 k2 : Value) (p : Int → Bool) (w0 w : World) (hw : Below w0.heap.size w0 w) (h0 : 0 ≤ low) (h1 : low ≤ high) (h2 : high ≤ 1099511627777)
  (hcall : ∀ (n : Int) (W : World), low ≤ n → n < high → Below w0.heap.size w0 W → Calls Tryz.prog 47 #[.int .i64 n, k1, k2] W fun e w' => e = .returned (.bool (p n)) ∧ Below W.heap.size W w') :
  Calls Tryz.prog 46 #[.int .i64 low, .int .i64 high, .func (.func 47) #[] #[k1, k2]] w fun e w' => ∃ r : Int, e = .returned (.int .i64 r) ∧ low ≤ r ∧ r ≤ high ∧ (r = high ∨ p r = true) ∧ (r = low ∨ p (r - 1) = false) ∧ Below w0.heap.size w0 w' := by
 have HC : Hid (∀ (n : Int) (W : World), low ≤ n → n < high → Below w0.heap.size w0 W → Calls Tryz.prog 47 #[.int .i64 n, k1, k2] W fun e w' => e = .returned (.bool (p n)) ∧ Below W.heap.size W w') := hcall
 clear hcall
 go_enter Tryz.func46, Tryz.ntmps46
 go_wp2_with fail
 go_loopw [0, 1] (fun l h wr => ∃ a b : Int, l = .int .i64 a ∧ h = .int .i64 b ∧ low ≤ a ∧ a ≤ b ∧ b ≤ high ∧ (b = high ∨ p b = true) ∧ (a = low ∨ p (a - 1) = false) ∧ Below w0.heap.size w0 wr) (fun l h _ => (intOf h - intOf l).toNat)
 case atStart => exact ⟨low, high, rfl, rfl, Int.le_refl _, h1, Int.le_refl _, .inl rfl, .inl rfl, hw⟩
 case round =>
  obtain ⟨a, b, rfl, rfl, i1, i2, i3, i4, i5, hb⟩ := hrel
  have HI : Hid ((b = high ∨ p b = true) ∧ (a = low ∨ p (a - 1) = false) ∧ Below w0.heap.size w0 wr) := ⟨i4, i5, hb⟩
  clear i4 i5 hb
  by_cases hab : a < b
  ·
   obtain ⟨m, hm⟩ : ∃ m, a + (b - a) / 2 = m := ⟨_, rfl⟩
   have m1 : a ≤ m := by omega
   have m2 : m < b := by omega
   have HM : Hid (a + (b - a) / 2 = m) := hm
   clear hm
   cases hpm : p m with
   | true =>
    have HP : Hid (p m = true) := hpm
    clear hpm
    go_wp2_with fail
    rw [HM.out]
    refine (HC.out m _ (by omega) (by omega) HI.out.2.2).mono ?_
    rintro e w1 ⟨rfl, hb1⟩
    rw [HP.out]
    have HB1 : Hid (Below w0.heap.size w0 w1) := HI.out.2.2.trans (hb1.mono HI.out.2.2.size)
    clear hb1
    go_wp2_with fail
    go_roundw
    case rel => exact ⟨a, m, rfl, rfl, i1, m1, by omega, .inr HP.out, HI.out.2.1, HB1.out⟩
    case measure => simp [intOf]; omega
   | false =>
    have HP : Hid (p m = false) := hpm
    clear hpm
    go_wp2_with fail
    rw [HM.out]
    refine (HC.out m _ (by omega) (by omega) HI.out.2.2).mono ?_
    rintro e w1 ⟨rfl, hb1⟩
    rw [HP.out]
    have HB1 : Hid (Below w0.heap.size w0 w1) := HI.out.2.2.trans (hb1.mono HI.out.2.2.size)
    clear hb1
    go_wp2_with fail
    go_roundw
    case rel => exact ⟨m + 1, b, rfl, rfl, by omega, by omega, i3, HI.out.1, .inr (by rw [show m + 1 - 1 = m by omega]; exact HP.out), HB1.out⟩
    case measure => simp [intOf]; omega
  ·
   go_wp2_with fail
   go_ret
   obtain ⟨i4, i5, hb⟩ := HI.out
   have e : a = b := by omega
   subst e
   exact ⟨a, rfl, i1, i3, i4, i5, hb⟩
set_option maxHeartbeats 400000 in
theorem first_turn (low high : Int) (k1 k2 : Value) (p : Int → Bool) (w0 w : World) (hw : Below w0.heap.size w0 w) (h0 : 0 ≤ low) (h1 : low ≤ high) (h2 : high ≤ 1099511627777)
  (hcall : ∀ (n : Int) (W : World), low ≤ n → n < high → Below w0.heap.size w0 W → Calls Tryz.prog 74 #[.int .i64 n, k1, k2] W fun e w' => e = .returned (.bool (p n)) ∧ Below W.heap.size W w') :
  Calls Tryz.prog 46 #[.int .i64 low, .int .i64 high, .func (.func 74) #[] #[k1, k2]] w fun e w' => ∃ r : Int, e = .returned (.int .i64 r) ∧ low ≤ r ∧ r ≤ high ∧ (r = high ∨ p r = true) ∧ (r = low ∨ p (r - 1) = false) ∧ Below w0.heap.size w0 w' := by
 have HC : Hid (∀ (n : Int) (W : World), low ≤ n → n < high → Below w0.heap.size w0 W → Calls Tryz.prog 74 #[.int .i64 n, k1, k2] W fun e w' => e = .returned (.bool (p n)) ∧ Below W.heap.size W w') := hcall
 clear hcall
 go_enter Tryz.func46, Tryz.ntmps46
 go_wp2_with fail
 go_loopw [0, 1] (fun l h wr => ∃ a b : Int, l = .int .i64 a ∧ h = .int .i64 b ∧ low ≤ a ∧ a ≤ b ∧ b ≤ high ∧ (b = high ∨ p b = true) ∧ (a = low ∨ p (a - 1) = false) ∧ Below w0.heap.size w0 wr) (fun l h _ => (intOf h - intOf l).toNat)
 case atStart => exact ⟨low, high, rfl, rfl, Int.le_refl _, h1, Int.le_refl _, .inl rfl, .inl rfl, hw⟩
 case round =>
  obtain ⟨a, b, rfl, rfl, i1, i2, i3, i4, i5, hb⟩ := hrel
  have HI : Hid ((b = high ∨ p b = true) ∧ (a = low ∨ p (a - 1) = false) ∧ Below w0.heap.size w0 wr) := ⟨i4, i5, hb⟩
  clear i4 i5 hb
  by_cases hab : a < b
  ·
   obtain ⟨m, hm⟩ : ∃ m, a + (b - a) / 2 = m := ⟨_, rfl⟩
   have m1 : a ≤ m := by omega
   have m2 : m < b := by omega
   have HM : Hid (a + (b - a) / 2 = m) := hm
   clear hm
   cases hpm : p m with
   | true =>
    have HP : Hid (p m = true) := hpm
    clear hpm
    go_wp2_with fail
    rw [HM.out]
    refine (HC.out m _ (by omega) (by omega) HI.out.2.2).mono ?_
    rintro e w1 ⟨rfl, hb1⟩
    rw [HP.out]
    have HB1 : Hid (Below w0.heap.size w0 w1) := HI.out.2.2.trans (hb1.mono HI.out.2.2.size)
    clear hb1
    go_wp2_with fail
    go_roundw
    case rel => exact ⟨a, m, rfl, rfl, i1, m1, by omega, .inr HP.out, HI.out.2.1, HB1.out⟩
    case measure => simp [intOf]; omega
   | false =>
    have HP : Hid (p m = false) := hpm
    clear hpm
    go_wp2_with fail
    rw [HM.out]
    refine (HC.out m _ (by omega) (by omega) HI.out.2.2).mono ?_
    rintro e w1 ⟨rfl, hb1⟩
    rw [HP.out]
    have HB1 : Hid (Below w0.heap.size w0 w1) := HI.out.2.2.trans (hb1.mono HI.out.2.2.size)
    clear hb1
    go_wp2_with fail
    go_roundw
    case rel => exact ⟨m + 1, b, rfl, rfl, by omega, by omega, i3, HI.out.1, .inr (by rw [show m + 1 - 1 = m by omega]; exact HP.out), HB1.out⟩
    case measure => simp [intOf]; omega
  ·
   go_wp2_with fail
   go_ret
   obtain ⟨i4, i5, hb⟩ := HI.out
   have e : a = b := by omega
   subst e
   exact ⟨a, rfl, i1, i3, i4, i5, hb⟩
end Go.Proofs.YtibhkijaafdkoaaGreatDoor

namespace Go.Proofs.YtibhkijaafdkoaaGreatDoor
theorem leastAt_le (t : Int) (l : List (Int × Int)) : ∀ m : Int, leastAt t m l ≤ m ∧ ∀ p, p ∈ l → leastAt t m l ≤ lineAt t p.1 p.2 := by
 induction l with
 | nil => intro m; exact ⟨Int.le_refl _, fun p hp => by cases hp⟩
 | cons q r ih =>
  intro m
  have := ih (min m (lineAt t q.1 q.2))
  refine ⟨?_, fun p hp => ?_⟩
  ·
   show leastAt t (min m (lineAt t q.1 q.2)) r ≤ m
   have := this.1; omega
  ·
   show leastAt t (min m (lineAt t q.1 q.2)) r ≤ _
   rcases List.mem_cons.1 hp with rfl | hp
   · have := this.1; omega
   · exact this.2 p hp
theorem leastAt_is (t : Int) (l : List (Int × Int)) : ∀ m : Int, leastAt t m l = m ∨ ∃ p, p ∈ l ∧ leastAt t m l = lineAt t p.1 p.2 := by
 induction l with
 | nil => intro m; exact .inl rfl
 | cons q r ih =>
  intro m
  show leastAt t (min m (lineAt t q.1 q.2)) r = m ∨ ∃ p, p ∈ q :: r ∧ leastAt t (min m (lineAt t q.1 q.2)) r = lineAt t p.1 p.2
  rcases ih (min m (lineAt t q.1 q.2)) with h | ⟨p, hp, h⟩
  ·
   rw [h]
   by_cases hm : m ≤ lineAt t q.1 q.2
   · exact .inl (by omega)
   · exact .inr ⟨q, List.mem_cons_self .., by omega⟩
  · exact .inr ⟨p, List.mem_cons_of_mem _ hp, h⟩
theorem curveAt_le (t : Int) (ls : List (Int × Int)) (p : Int × Int) (hp : p ∈ ls) : curveAt t ls ≤ lineAt t p.1 p.2 := by
 cases ls with
 | nil => cases hp
 | cons q r =>
  have := leastAt_le t r (lineAt t q.1 q.2)
  rcases List.mem_cons.1 hp with rfl | hp
  · exact this.1
  · exact this.2 p hp
theorem curveAt_is (t : Int) (ls : List (Int × Int)) (h : 1 ≤ ls.length) : ∃ p, p ∈ ls ∧ curveAt t ls = lineAt t p.1 p.2 := by
 cases ls with
 | nil => simp at h
 | cons q r =>
  rcases leastAt_is t r (lineAt t q.1 q.2) with h | ⟨p, hp, h⟩
  · exact ⟨q, List.mem_cons_self .., h⟩
  · exact ⟨p, List.mem_cons_of_mem _ hp, h⟩
theorem curveAt_bd (t : Int) (ls : List (Int × Int)) (h : okCurve ls) (t0 : 0 ≤ t) (t1 : t ≤ 1099511627776) : 1 ≤ curveAt t ls ∧ curveAt t ls ≤ 109951162797600000 := by
 obtain ⟨p, hp, e⟩ := curveAt_is t ls h.1
 rw [e]
 exact lineAt_bd (h.2.2 p hp) t0 t1
end Go.Proofs.YtibhkijaafdkoaaGreatDoor

namespace Go.Proofs.YtibhkijaafdkoaaGreatDoor
def miss (x n : Int) : Int := max (n - x) 0
def laterB (p q : Int × Int) (n : Int) : Bool :=
 if miss q.1 n = 0 then decide (0 < miss p.1 n) else decide (miss q.1 n * p.2 < miss p.1 n * q.2)
def lastOf (n : Int) : Int × Int → List (Int × Int) → Int × Int
 | x, [] => x
 | x, y :: r => lastOf n (if laterB y x n = true then y else x) r
def lastC (n : Int) : List (Int × Int) → Int × Int
 | [] => (0, 0)
 | p :: r => lastOf n p r
def comesAt (p : Int × Int) (n : Int) : Int := if miss p.1 n = 0 then 0 else (miss p.1 n * 1000 + p.2 - 1) / p.2
theorem miss_nonneg (x n : Int) : 0 ≤ miss x n := by unfold miss; omega
theorem laterB_false {p q : Int × Int} {n : Int} (h : laterB p q n = false) : (miss q.1 n = 0 → miss p.1 n = 0) ∧ (miss q.1 n ≠ 0 → miss p.1 n * q.2 ≤ miss q.1 n * p.2) := by
 unfold laterB at h
 have := miss_nonneg p.1 n
 split at h
 · next hq => exact ⟨fun _ => by have := of_decide_eq_false h; omega, fun h' => absurd hq h'⟩
 · next hq => exact ⟨fun h' => absurd h' hq, fun _ => by have := of_decide_eq_false h; omega⟩
theorem laterB_mk {p q : Int × Int} {n : Int} (h1 : miss q.1 n = 0 → miss p.1 n = 0) (h2 : miss q.1 n ≠ 0 → miss p.1 n * q.2 ≤ miss q.1 n * p.2) : laterB p q n = false := by
 unfold laterB
 split
 · next hq => have := h1 hq; exact decide_eq_false (by omega)
 · next hq => have := h2 hq; exact decide_eq_false (by omega)
theorem laterB_true {p q : Int × Int} {n : Int} (h : laterB p q n = true) : (miss q.1 n = 0 → 0 < miss p.1 n) ∧ (miss q.1 n ≠ 0 → miss q.1 n * p.2 < miss p.1 n * q.2) := by
 unfold laterB at h
 split at h
 · next hq => exact ⟨fun _ => of_decide_eq_true h, fun h' => absurd hq h'⟩
 · next hq => exact ⟨fun h' => absurd h' hq, fun _ => of_decide_eq_true h⟩
theorem laterB_self (p : Int × Int) (n : Int) : laterB p p n = false := laterB_mk (fun h => h) (fun _ => Int.le_refl _)
theorem later_num {m k l u v t : Int} (hm : 0 ≤ m) (hk : 0 < k) (hl : 0 ≤ l) (h1 : m * u ≤ k * v) (h2 : k * t < l * u) : m * t ≤ l * v := by
 rcases Int.lt_or_le (l * v) (m * t) with h | h
 ·
  have a := Int.mul_lt_mul_of_pos_left h hk
  have b := Int.mul_le_mul_of_nonneg_left h1 hl
  have c := Int.mul_le_mul_of_nonneg_left (Int.le_of_lt h2) hm
  have e1 : k * (m * t) = m * (k * t) := by ac_rfl
  have e2 : m * (l * u) = l * (m * u) := by ac_rfl
  have e3 : l * (k * v) = k * (l * v) := by ac_rfl
  omega
 · exact h
theorem later_step {x y z : Int × Int} {n : Int} (hy : 0 ≤ y.2) (hz : 0 ≤ z.2) (h1 : laterB y x n = false) (h2 : laterB z x n = true) : laterB y z n = false := by
 obtain ⟨a1, a2⟩ := laterB_false h1
 obtain ⟨b1, b2⟩ := laterB_true h2
 have my := miss_nonneg y.1 n
 have mz := miss_nonneg z.1 n
 have mx := miss_nonneg x.1 n
 by_cases h0 : miss x.1 n = 0
 ·
  have hm := a1 h0
  refine laterB_mk (fun _ => hm) (fun _ => ?_)
  rw [hm, Int.zero_mul]
  exact Int.mul_nonneg mz hy
 ·
  have p1 := a2 h0
  have p2 := b2 h0
  refine laterB_mk (fun hzz => ?_) (fun _ => later_num my (by omega) mz p1 p2)
  rw [hzz, Int.zero_mul] at p2
  have := Int.mul_nonneg mx hz
  omega
theorem lastOf_mem (n : Int) (r : List (Int × Int)) : ∀ x, lastOf n x r = x ∨ lastOf n x r ∈ r := by
 induction r with
 | nil => intro x; exact .inl rfl
 | cons y r ih =>
  intro x
  show lastOf n (if laterB y x n = true then y else x) r = x ∨ lastOf n (if laterB y x n = true then y else x) r ∈ y :: r
  rcases ih (if laterB y x n = true then y else x) with h | h
  ·
   rw [h]
   split
   · exact .inr (List.mem_cons_self ..)
   · exact .inl rfl
  · exact .inr (List.mem_cons_of_mem _ h)
theorem lastC_mem (n : Int) (ls : List (Int × Int)) (h : 1 ≤ ls.length) : lastC n ls ∈ ls := by
 cases ls with
 | nil => simp at h
 | cons p r =>
  show lastOf n p r ∈ p :: r
  rcases lastOf_mem n r p with h | h
  · rw [h]; exact List.mem_cons_self ..
  · exact List.mem_cons_of_mem _ h
theorem lastOf_max (n : Int) (r : List (Int × Int)) : ∀ x, (∀ p, p ∈ x :: r → 0 ≤ p.2) → ∀ y, (0 ≤ y.2 ∧ laterB y x n = false) ∨ y ∈ r → laterB y (lastOf n x r) n = false := by
 induction r with
 | nil =>
  intro x _ y hy
  rcases hy with hy | hy
  · exact hy.2
  · cases hy
 | cons z r ih =>
  intro x hpos y hy
  show laterB y (lastOf n (if laterB z x n = true then z else x) r) n = false
  have hz := hpos z (List.mem_cons_of_mem _ (List.mem_cons_self ..))
  by_cases h : laterB z x n = true
  ·
   rw [if_pos h]
   refine ih z (fun p hp => hpos p (List.mem_cons_of_mem _ hp)) y ?_
   rcases hy with hy | hy
   · exact .inl ⟨hy.1, later_step hy.1 hz hy.2 h⟩
   ·
    rcases List.mem_cons.1 hy with rfl | hy
    · exact .inl ⟨hz, laterB_self _ _⟩
    · exact .inr hy
  ·
   rw [if_neg h]
   have h' : laterB z x n = false := by simpa using h
   refine ih x (fun p hp => hpos p (by rcases List.mem_cons.1 hp with rfl | hp; exact List.mem_cons_self ..; exact List.mem_cons_of_mem _ (List.mem_cons_of_mem _ hp))) y ?_
   rcases hy with hy | hy
   · exact .inl hy
   ·
    rcases List.mem_cons.1 hy with rfl | hy
    · exact .inl ⟨hz, h'⟩
    · exact .inr hy
theorem lastC_max (n : Int) (ls : List (Int × Int)) (hp : ∀ p, p ∈ ls → 0 ≤ p.2) (y : Int × Int) (hy : y ∈ ls) : laterB y (lastC n ls) n = false := by
 cases ls with
 | nil => cases hy
 | cons p r =>
  refine lastOf_max n r p hp y ?_
  rcases List.mem_cons.1 hy with rfl | hy
  · exact .inl ⟨hp _ (List.mem_cons_self ..), laterB_self _ _⟩
  · exact .inr hy
theorem ceil_le {m r t : Int} (hr : 0 < r) : (m * 1000 + r - 1) / r ≤ t ↔ m * 1000 ≤ r * t := by
 have h1 := Int.mul_ediv_self_le (x := m * 1000 + r - 1) (k := r) (by omega)
 have h2 := Int.lt_mul_ediv_self_add (x := m * 1000 + r - 1) (k := r) hr
 generalize (m * 1000 + r - 1) / r = q at *
 constructor
 ·
  intro h
  have := Int.mul_le_mul_of_nonneg_left h (Int.le_of_lt hr)
  omega
 ·
  intro h
  rcases Int.lt_or_le t q with h' | h'
  ·
   have := Int.mul_le_mul_of_nonneg_left (show t + 1 ≤ q by omega) (Int.le_of_lt hr)
   rw [Int.mul_add] at this
   omega
  · exact h'
theorem line_has {t x y n : Int} : n ≤ lineAt t x y ↔ 1000 * (n - x) ≤ y * t := by
 unfold lineAt
 omega
theorem miss_pos {x n : Int} (h : miss x n ≠ 0) : miss x n = n - x ∧ 0 < n - x := by unfold miss at *; omega
theorem miss_zero {x n : Int} (h : miss x n = 0) : n ≤ x := by unfold miss at h; omega
theorem has_at (ls : List (Int × Int)) (n : Int) (h : okCurve ls) (hn : miss (lastC n ls).1 n = 0 ∨ 0 < (lastC n ls).2) : 0 ≤ comesAt (lastC n ls) n ∧ n ≤ curveAt (comesAt (lastC n ls) n) ls := by
 have hpos : ∀ p, p ∈ ls → 0 ≤ p.2 := fun p hp => (okLine_true (h.2.2 p hp)).2.2.1
 have hmax := lastC_max n ls hpos
 generalize lastC n ls = z at *
 have hc : 0 ≤ comesAt z n := by
  unfold comesAt
  split
  · exact Int.le_refl _
  ·
   next hz =>
   obtain ⟨e1, e2⟩ := miss_pos hz
   rcases hn with hn | hn
   · exact absurd hn hz
   · exact Int.ediv_nonneg (by omega) (by omega)
 refine ⟨hc, ?_⟩
 obtain ⟨p, hp, e⟩ := curveAt_is (comesAt z n) ls h.1
 rw [e, line_has]
 obtain ⟨a1, a2⟩ := laterB_false (hmax p hp)
 by_cases hz : miss z.1 n = 0
 ·
  have := miss_zero (a1 hz)
  have := Int.mul_nonneg (hpos p hp) hc
  omega
 ·
  have hr : 0 < z.2 := by
   rcases hn with hn | hn
   · exact absurd hn hz
   · exact hn
  have hcz : z.2 * comesAt z n ≥ miss z.1 n * 1000 := by
   have := (ceil_le (m := miss z.1 n) (t := comesAt z n) hr).1 (by unfold comesAt; rw [if_neg hz]; exact Int.le_refl _)
   exact this
  have hle := a2 hz
  have hmp : n - p.1 ≤ miss p.1 n := by unfold miss; omega
  have hpp := hpos p hp
  generalize comesAt z n = C at *
  generalize miss z.1 n = k at *
  generalize miss p.1 n = m at *
  -- z.2 * (p.2 * C) = p.2 * (z.2 * C) ≥ p.2 * (k * 1000) ≥ 1000 * (m * z.2)
  rcases Int.lt_or_le (p.2 * C) (1000 * (n - p.1)) with hlt | hge
  ·
   have b1 := Int.mul_le_mul_of_nonneg_left (show k * 1000 ≤ z.2 * C from hcz) hpp
   have b2 : p.2 * (k * 1000) = 1000 * (k * p.2) := by ac_rfl
   have b3 : p.2 * (z.2 * C) = z.2 * (p.2 * C) := by ac_rfl
   have b4 : m * z.2 = z.2 * m := Int.mul_comm _ _
   have b5 := Int.mul_lt_mul_of_pos_left (show p.2 * C < 1000 * m by omega) hr
   have b6 : z.2 * (1000 * m) = 1000 * (z.2 * m) := by ac_rfl
   omega
  · exact hge
def turns (per : Int) (ls : List (Int × Int)) (n : Int) : Bool := decide (0 < miss (lastC n ls).1 n ∧ (lastC n ls).2 * per ≤ 1000)
theorem wait_ahead {per t n k : Int} {ls : List (Int × Int)} (h : okCurve ls) (hper : 1 ≤ per) (t0 : 0 ≤ t) (hk : turns per ls k = false) (hn : n ≤ k) (hc : n ≤ curveAt t ls) :
  (miss (lastC k ls).1 k = 0 ∨ 0 < (lastC k ls).2) ∧ per * n - t ≤ per * k - comesAt (lastC k ls) k := by
 have hm := lastC_mem k ls h.1
 have hok := okLine_true (h.2.2 _ hm)
 have hl := Int.le_trans hc (curveAt_le t ls _ hm)
 have hk' : ¬ (0 < miss (lastC k ls).1 k ∧ (lastC k ls).2 * per ≤ 1000) := of_decide_eq_false hk
 generalize lastC k ls = z at *
 have hmul := Int.mul_le_mul_of_nonneg_left hn (show 0 ≤ per by omega)
 have mn := miss_nonneg z.1 k
 by_cases hz : miss z.1 k = 0
 ·
  refine ⟨.inl hz, ?_⟩
  unfold comesAt
  rw [if_pos hz]
  omega
 ·
  have hfast : 1000 < z.2 * per := by
   rcases Int.lt_or_le 1000 (z.2 * per) with h | h
   · exact h
   · exact absurd ⟨by omega, h⟩ hk'
  have hr : 0 < z.2 := by
   rcases Int.lt_or_le 0 z.2 with h | h
   · exact h
   ·
    have : z.2 = 0 := by omega
    rw [this, Int.zero_mul] at hfast
    omega
  refine ⟨.inr hr, ?_⟩
  obtain ⟨e1, e2⟩ := miss_pos hz
  have : comesAt z k ≤ t + per * (k - n) := by
   unfold comesAt
   rw [if_neg hz, ceil_le hr, e1, Int.mul_add]
   have b1 := line_has.1 hl
   have b2 := Int.mul_le_mul_of_nonneg_right (show 1000 ≤ z.2 * per by omega) (show 0 ≤ k - n by omega)
   have b3 : z.2 * per * (k - n) = z.2 * (per * (k - n)) := Int.mul_assoc _ _ _
   omega
  rw [Int.mul_sub] at this
  omega
theorem wait_behind {per t n k : Int} {ls : List (Int × Int)} (h : okCurve ls) (hk : turns per ls k = true) (hn : k ≤ n) (hc : n ≤ curveAt t ls) :
  0 < (lastC k ls).2 ∧ per * n - t ≤ per * k - comesAt (lastC k ls) k := by
 have hm := lastC_mem k ls h.1
 have hok := okLine_true (h.2.2 _ hm)
 have hl := Int.le_trans hc (curveAt_le t ls _ hm)
 have hk' : 0 < miss (lastC k ls).1 k ∧ (lastC k ls).2 * per ≤ 1000 := of_decide_eq_true hk
 generalize lastC k ls = z at *
 have hz : miss z.1 k ≠ 0 := by omega
 obtain ⟨e1, e2⟩ := miss_pos hz
 have b1 := line_has.1 hl
 have hr : 0 < z.2 := by
  rcases Int.lt_or_le 0 z.2 with h | h
  · exact h
  ·
   have : z.2 = 0 := by omega
   rw [this, Int.zero_mul] at b1
   omega
 refine ⟨hr, ?_⟩
 have : comesAt z k ≤ t - per * (n - k) := by
  unfold comesAt
  rw [if_neg hz, ceil_le hr, e1, Int.mul_sub]
  have b2 := Int.mul_le_mul_of_nonneg_right hk'.2 (show 0 ≤ n - k by omega)
  have b3 : z.2 * per * (n - k) = z.2 * (per * (n - k)) := Int.mul_assoc _ _ _
  omega
 rw [Int.mul_sub] at this
 omega
end Go.Proofs.YtibhkijaafdkoaaGreatDoor
