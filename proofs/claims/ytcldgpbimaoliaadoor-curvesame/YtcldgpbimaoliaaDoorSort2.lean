/- The lines in their order: slices.Clone, slices.SortFunc, steepestFirst. -/
import Derived.Test.YtcldgpbimaoliaaDoorSort1
import Derived.Test.YtcldgpbimaoliaaDoorSortLay
import Derived.Lib.OwnBridge
import Derived.Deep.AppendLies
namespace Go.Proofs.YtcldgpbimaoliaaDoor
open Go.RowKit Go.Shelf
open Go.Sort hiding Below

set_option maxRecDepth 100000 in
set_option maxHeartbeats 400000 in
theorem clone_ok (ad : Addr) (cap : Nat) (ls : List (Int × Int)) (w : World) (hl : Lies w (some ad) ls) (hn : ls.length ≤ 1000) :
    Calls Tryd.prog 97 #[.slice (some ad) ls.length cap] w fun e w' => ∃ v, e = .returned v ∧ OwnL w' w.heap.size v ls ∧ Below w.heap.size w w' := by
  obtain ⟨i0, hi, hz0, hz1, hz2⟩ := info_parts Tryd.infoLine
  have hb0 : Below w.heap.size w (w.alloc (.cells #[] 54)) := (Below.refl _ _).alloc (Nat.le_refl _) _
  have H1 : Hid (∀ j u, (cellsL ls)[j]? = some u → (w.alloc (.cells #[] 54)).cell? (ad.add j) = some u) := lies_news (hl.below hb0)
  have H2 : Hid ((cellsL ls).length = ls.length * 2) := cellsL_length ls
  have H3 : Hid (∀ u ∈ cellsL ls, u.oneCell' = true) := cellsL_one ls
  have H4 : Hid ((w.alloc (.cells #[] 54)).ownsRow w.heap.size 54 2 (.slice (some ⟨w.heap.size, 0, none⟩) 0 0) 0 []) := World.ownsRow_lit w #[] 0 (Nat.le_refl _) (by simp [maxLen]) (by simp)
  have HB0 : Hid (Below w.heap.size w (w.alloc (.cells #[] 54))) := hb0
  clear hl hb0
  have hnil := fun wx => Go.Lib.run_eql_slice_nil (P := Tryd.prog) wx 35 54 (some ad) ls.length cap 0 0 Tryd.underlying35
  go_enter Tryd.func97, Tryd.ntmps97
  go_wp2_with (at_builtin; refine wpList_append_own _ rfl _ _ 35 rfl w.heap.size 54 i0 (.agg #[.int .i64 0, .int .i64 0]) 2 16 Tryd.underlying35 hi hz0 hz1 hz2 rfl (by decide) (.slice (some ⟨w.heap.size, 0, none⟩) 0 0) 0 [] rfl H4.out ad ls.length cap (cellsL ls) rfl H2.out H1.out H3.out (by unfold maxLen; omega) (by omega) (by simp) ?_; intro v' w3 hown' hgrow3 hnil3)
  go_ret
  refine ⟨_, rfl, by simpa [OwnL] using hown', ?_⟩
  exact HB0.out.grown hgrow3 (by simp) (fun k hk => by injection hk with hk; subst hk; exact Nat.le_refl _)

/-- A line's two cells. -/
def encL (x : Int × Int) : List Value := [.int .i64 x.1, .int .i64 x.2]
theorem cmpI_lt {a b : Int} : cmpI a b < 0 ↔ a < b := by unfold cmpI; split; omega; split <;> omega
theorem cmpI_zero {a b : Int} : cmpI a b = 0 ↔ a = b := by unfold cmpI; split; omega; split <;> omega
/-- Is x ahead of y? -/
theorem ltL (x y : Int × Int) : ltOf cmpL x y = decide (y.2 < x.2 ∨ (y.2 = x.2 ∧ y.1 < x.1)) := by
  unfold ltOf cmpL
  by_cases h : y.2 = x.2
  · rw [if_pos (cmpI_zero.2 h)]
    rw [decide_eq_decide, cmpI_lt]
    omega
  · rw [if_neg (fun e => h (cmpI_zero.1 e))]
    rw [decide_eq_decide, cmpI_lt]
    omega
theorem swoL : SWO (ltOf cmpL) where
  irrefl x := by rw [ltL]; simp
  trans x y z h1 h2 := by rw [ltL] at *; simp at *; omega
  ntrans x y z h1 h2 := by rw [ltL] at *; simp at *; omega
theorem Tryd.isAggLine (w : World) : (isAgg 54).run Tryd.prog w = .ok true w := by kernel_rfl
theorem Tryd.sizeOfLine (w : World) : (Go.sizeOf 54).run Tryd.prog w = .ok 2 w := by kernel_rfl

theorem holdsK_of_own {w : World} {B g cap : Nat} {ls : List (Int × Int)} (h : OwnL w B (.slice (some ⟨g, 0, none⟩) ls.length cap) ls) : HoldsK encL 2 w g 0 ls.toArray := by
  intro j hj
  rw [size_flatK] at hj
  have hj' : j < ls.length * 2 := by simpa using hj
  rw [get_flatK _ _ _ _ hj]
  have hc := World.ownsRow.cellAt h j hj'
  have hf := World.ownsRow.frozenAt h j
  rw [Nat.zero_add]
  refine ⟨?_, hf⟩
  rw [hc]
  have hi : j / 2 < ls.length := by omega
  have hg := cellsL_get ls (j / 2) (ls[j / 2]).1 (ls[j / 2]).2 (by simp [hi])
  have he : (ls.toArray)[j / 2]! = ls[j / 2] := by simp [hi]
  rw [he]
  rcases (show j % 2 = 0 ∨ j % 2 = 1 by omega) with h0 | h1
  · rw [h0]
    have e : j / 2 * 2 = j := by omega
    rw [e] at hg
    exact hg.1
  · rw [h1]
    have e : j / 2 * 2 + 1 = j := by omega
    rw [e] at hg
    exact hg.2
theorem lies_of_holdsK {w : World} {g : Nat} {ls : List (Int × Int)} (h : HoldsK encL 2 w g 0 ls.toArray) (hg : g < w.heap.size) : Lies w (some ⟨g, 0, none⟩) ls := by
  refine .inr ⟨g, 0, rfl, hg, fun i x y hi => ?_⟩
  have hil : i < ls.length := by
    rcases Nat.lt_or_ge i ls.length with h | h
    · exact h
    · simp [List.getElem?_eq_none h] at hi
  have h0 := (h.cell (i := i) (c := 0) (by simpa using hil) (by decide)).1
  have h1 := (h.cell (i := i) (c := 1) (by simpa using hil) (by decide)).1
  have he : (ls.toArray)[i]! = (x, y) := by
    simp [hil] at hi
    simp [hil, hi]
  rw [he] at h0 h1
  exact ⟨h0, h1⟩

theorem below_grow {B : Nat} {w0 w : World} (h : Go.RowKit.Below B w0 w) (os : Array Obj) (hB : B ≤ w.heap.size) : Go.RowKit.Below B w0 (grow w os) :=
  h.trans ⟨rfl, rfl, rfl, by simp, fun k hk => by show (w.heap ++ os)[k]? = _; rw [Array.getElem?_append_left (by omega)]⟩
/-- What steepestFirst makes of lines: the same ones, by rate falling, then by burst falling. -/
def SortedL (ls : List (Int × Int)) : Prop := ∀ (i j : Nat) (x y : Int × Int), i < j → ls[i]? = some x → ls[j]? = some y → y.2 < x.2 ∨ (y.2 = x.2 ∧ y.1 ≤ x.1)

set_option maxRecDepth 100000 in
set_option maxHeartbeats 400000 in
theorem steepest_ok (ad : Addr) (cap : Nat) (ls : List (Int × Int)) (w : World) (hl : Lies w (some ad) ls) (h1 : 1 ≤ ls.length) (hn : ls.length ≤ 1000) :
    Calls Tryd.prog 86 #[.slice (some ad) ls.length cap] w fun e w' => ∃ g cap' ls', e = .returned (.slice (some ⟨g, 0, none⟩) ls'.length cap') ∧ ls'.Perm ls ∧ SortedL ls' ∧ Lies w' (some ⟨g, 0, none⟩) ls' ∧ Below w.heap.size w w' := by
  have HC := (show Hid (Calls Tryd.prog 97 #[.slice (some ad) ls.length cap] w fun e w' => ∃ v, e = .returned v ∧ OwnL w' w.heap.size v ls ∧ Below w.heap.size w w') from clone_ok ad cap ls w hl hn)
  clear hl
  go_enter Tryd.func86, Tryd.ntmps86
  go_wp2_with fail
  refine HC.out.mono ?_
  rintro e w1 ⟨v, rfl, ho, hb⟩
  obtain ⟨g, cap1, rfl, hg⟩ : ∃ g cap1, v = .slice (some ⟨g, 0, none⟩) ls.length cap1 ∧ w.heap.size ≤ g ∧ g < w1.heap.size := by
    obtain ⟨g, cap1, hv, hb1, hb2⟩ := World.ownsRow.form ho h1
    exact ⟨g, cap1, hv, hb1, hb2⟩
  have hH := holdsK_of_own ho
  have eg : ∀ args w, (callFunc 99 args).run Tryd.prog w = .ok (.enter 99 args) w := enters_of Tryd.func99 (by kernel_rfl) rfl
  have hcon := AnyQ.slices_SortFunc Tryd.sortL 2 Tryd.isAggLine Tryd.sizeOfLine encL (fun _ => rfl) (fun x v hv => by simp [encL] at hv; rcases hv with rfl | rfl <;> rfl) cmpL swoL 99 #[] g 0 cap1 ls.toArray w1 eg (fun _ _ _ _ x y => order_call x y _) hH hg.2 (by simp; omega)
  change Calls Tryd.prog 98 _ _ _ at hcon
  rw [List.size_toArray] at hcon
  have HS := (show Hid (Calls Tryd.prog 98 #[.slice (some ⟨g, 0, none⟩) ls.length cap1, .func (.func 99) #[] #[]] w1 fun e w' => e = .returned (.tuple #[]) ∧ ∃ d' n os, PermIn 0 ls.length ls.toArray d' ∧ SortedIn (ltOf cmpL) 0 ls.length d' ∧ w' = sortWorldK encL 2 w1 g 0 n d' os) from hcon)
  have HH : Hid (HoldsK encL 2 w1 g 0 ls.toArray) := hH
  have HB : Hid (Below w.heap.size w w1) := hb
  clear hcon hH ho hb eg
  go_wp2_with fail
  refine HS.out.mono ?_
  rintro e w2 ⟨rfl, d', n, os, hp, hs, hw2⟩
  have hsz : d'.size = ls.length := by have := hp.1; simpa using this
  have hH2 : HoldsK encL 2 w2 g 0 d' := by
    rw [hw2]
    exact holdsK_grow _ _ _ _ _ _ _ (by simp [putRowK, putRow, mapBlock]; exact hg.2) (holdsK_putRowK _ _ _ _ _ ls.toArray d' HH.out (by simpa using hsz))
  have hb2 : Below w.heap.size w w2 := by
    rw [hw2]
    have h1 : Below w.heap.size w (putRowK encL 2 (Sort.ahead w1 n) g 0 d') := Go.Lib.below_putRow HB.out hg.1
    exact below_grow h1 os (by have := HB.out.size; have := h1.size; exact this)
  have hg2 : g < w2.heap.size := by
    rw [hw2]
    simp [sortWorldK, putRowK, putRow, mapBlock]
    omega
  have hd : d'.toList.toArray = d' := by simp
  have hlen : d'.toList.length = ls.length := by simpa using hsz
  have hperm : d'.toList.Perm ls := by
    have := hp.2.2
    rw [Array.extract_eq_self_of_le (by omega), Array.extract_eq_self_of_le (by simp)] at this
    simpa using this
  have hsort : SortedL d'.toList := by
    intro i j x y hij hx hy
    have hjl : j < d'.toList.length := by
      rcases Nat.lt_or_ge j d'.toList.length with h | h
      · exact h
      · simp [List.getElem?_eq_none h] at hy
    have := hs i j (Nat.zero_le _) hij (by omega)
    rw [ltL] at this
    have hx' : d'[i]! = x := by rw [Array.getElem?_toList] at hx; rw [getElem!_def, hx]
    have hy' : d'[j]! = y := by rw [Array.getElem?_toList] at hy; rw [getElem!_def, hy]
    rw [hx', hy'] at this
    have := of_decide_eq_false this
    omega
  have HR : Hid (d'.toList.Perm ls ∧ SortedL d'.toList ∧ Lies w2 (some ⟨g, 0, none⟩) d'.toList ∧ Below w.heap.size w w2) := ⟨hperm, hsort, lies_of_holdsK (by rw [hd]; exact hH2) hg2, hb2⟩
  have HN : Hid (d'.toList.length = ls.length) := hlen
  clear hw2 hH2 hb2 hg2 hd hlen hperm hsort hp hs hsz
  go_wp2_with fail
  go_ret
  exact ⟨g, cap1, d'.toList, by rw [HN.out]; rfl, HR.out.1, HR.out.2.1, HR.out.2.2.1, HR.out.2.2.2⟩
end Go.Proofs.YtcldgpbimaoliaaDoor
