/- Own facts, put together: no statement of its own. -/
import Derived.Test.YtibhkijaafdkoaaGreatDoorB01
import Derived.Test.YtibhkijaafdkoaaGreatDoorB02
import Derived.Test.YtibhkijaafdkoaaGreatDoorB09
import Derived.Test.YtibhkijaafdkoaaGreatDoorB03
import Derived.Test.YtibhkijaafdkoaaGreatDoorB07
import Derived.Test.YtibhkijaafdkoaaGreatDoorB08
import Derived.Test.YtibhkijaafdkoaaGreatDoorB04
namespace Go.Proofs.YtibhkijaafdkoaaGreatDoor
open Go.RowKit
set_option maxHeartbeats 400000 in
theorem bare_any (n : Int) (w : World) : Calls Tryz.prog 36 #[.int .i64 n] w fun e w' => e = .returned (.agg #[.int .i64 n, .int .i64 (-1)]) ∧ Below w.heap.size w w' := by
 go_enter Tryz.func36, Tryz.ntmps36
 go_wp2
 exact bodyPost_ret (v := .agg #[.int .i64 n, .int .i64 (-1)]) (by simp [results, Tryz.results36, go_sem]) rfl ⟨rfl, (Below.refl _ _).alloc (Nat.le_refl _) _⟩
set_option maxHeartbeats 400000 in
theorem fine_any (w : World) : Calls Tryz.prog 40 #[] w fun e w' => e = .returned (.agg #[.int .i64 0, .int .i64 (-1)]) ∧ Below w.heap.size w w' := by
 go_enter Tryz.func40, Tryz.ntmps40
 go_wp2
 exact bodyPost_ret (v := .agg #[.int .i64 0, .int .i64 (-1)]) (by simp [results, Tryz.results40, go_sem]) rfl ⟨rfl, (Below.refl _ _).alloc (Nat.le_refl _) _⟩
structure Two (w w1 : World) (x y : Value) : Prop where
 c0 : w1.cell? ⟨w.heap.size, 0, none⟩ = some x
 c1 : w1.cell? ⟨w.heap.size, 1, none⟩ = some y
 f0 : w1.frozen? ⟨w.heap.size, 0, none⟩ = false
 f1 : w1.frozen? ⟨w.heap.size, 1, none⟩ = false
theorem two_new (w : World) (x y : Value) (t : TypeId) : Two w (w.alloc (.cells #[x, y] t)) x y := ⟨by simp, by simp, by simp, by simp⟩
theorem Two.later {w w1 w2 : World} {x y : Value} (h : Two w w1 x y) (hb : Below w1.heap.size w1 w2) : Two w w2 x y :=
 have l := cell_lt h.c0
 ⟨cell_later hb h.c0, cell_later hb h.c1, by rw [hb.frozen (p := ⟨w.heap.size, 0, none⟩) l]; exact h.f0, by rw [hb.frozen (p := ⟨w.heap.size, 1, none⟩) l]; exact h.f1⟩
end Go.Proofs.YtibhkijaafdkoaaGreatDoor

namespace Go.Proofs.YtibhkijaafdkoaaGreatDoor
open Go.RowKit
def FaultIs (ls : List (Int × Int)) (c a : Int) : Prop :=
 ((ls.length < 1 ∨ 6 < ls.length) ∧ c = 3 ∧ a = -1) ∨
 (1 ≤ ls.length ∧ ls.length ≤ 6 ∧ ∃ j : Nat, j < ls.length ∧ (∀ i x y, i < j → ls[i]? = some (x, y) → okLine x y = true) ∧ (∀ x y, ls[j]? = some (x, y) → okLine x y = false) ∧ c = 2 ∧ a = j) ∨
 (okCurve ls ∧ c = 0 ∧ a = -1)
theorem fault_is (ls : List (Int × Int)) : ∃ c a, FaultIs ls c a := by
 by_cases hs : ls.length < 1 ∨ 6 < ls.length
 · exact ⟨3, -1, .inl ⟨hs, rfl, rfl⟩⟩
 ·
  rcases firstBad ls with h | ⟨j, hj, h1, h2⟩
  · exact ⟨0, -1, .inr (.inr ⟨⟨by omega, by omega, h⟩, rfl, rfl⟩)⟩
  · exact ⟨2, j, .inr (.inl ⟨by omega, by omega, j, hj, h1, h2, rfl, rfl⟩)⟩
theorem FaultIs.ok {ls : List (Int × Int)} {a : Int} (h : FaultIs ls 0 a) : okCurve ls ∧ a = -1 := by
 rcases h with ⟨_, h, _⟩ | ⟨_, _, _, _, _, _, h, _⟩ | ⟨h, _, h'⟩
 · omega
 · omega
 · exact ⟨h, h'⟩
theorem FaultIs.num {ls : List (Int × Int)} {c a : Int} (h : FaultIs ls c a) : c = 0 ∨ c = 2 ∨ c = 3 := by
 rcases h with ⟨_, h, _⟩ | ⟨_, _, _, _, _, _, h, _⟩ | ⟨_, h, _⟩ <;> omega
set_option maxHeartbeats 400000 in
theorem curveFault_shape (a : Option Addr) (n cap : Nat) (w : World) (hm : n ≤ maxLen) (h : n < 1 ∨ 6 < n) :
  Calls Tryz.prog 37 #[.slice a n cap] w fun e w' => e = .returned (.agg #[.int .i64 3, .int .i64 (-1)]) ∧ Below w.heap.size w w' := by
 unfold maxLen at hm
 have hb0 : Below w.heap.size w (w.alloc (.cells #[.int .i64 0, .int .i64 0] 35)) := (Below.refl _ _).alloc (Nat.le_refl _) _
 rcases h with h | h
 ·
  obtain rfl : n = 0 := by omega
  go_enter Tryz.func37, Tryz.ntmps37
  go_wp2_with fail
  refine (bare_any 3 _).mono ?_
  rintro e w1 ⟨rfl, hb⟩
  obtain ⟨hc, hc', hf, hf'⟩ := (two_new w _ _ _).later hb
  have HB : Hid (Below w.heap.size w w1) := hb0.trans (hb.mono hb0.size)
  clear hb hb0
  go_wp2_with fail
  exact bodyPost_ret (v := .agg #[.int .i64 3, .int .i64 (-1)]) (by simp [results, Tryz.results37, go_sem, hc, hc']) rfl ⟨rfl, (HB.out.setCell (Nat.le_refl _) _).setCell (Nat.le_refl _) _⟩
 ·
  have h1 : ¬ n < 1 := by omega
  go_enter Tryz.func37, Tryz.ntmps37
  go_wp2_with fail
  refine (bare_any 3 _).mono ?_
  rintro e w1 ⟨rfl, hb⟩
  obtain ⟨hc, hc', hf, hf'⟩ := (two_new w _ _ _).later hb
  have HB : Hid (Below w.heap.size w w1) := hb0.trans (hb.mono hb0.size)
  clear hb hb0
  go_wp2_with fail
  exact bodyPost_ret (v := .agg #[.int .i64 3, .int .i64 (-1)]) (by simp [results, Tryz.results37, go_sem, hc, hc']) rfl ⟨rfl, (HB.out.setCell (Nat.le_refl _) _).setCell (Nat.le_refl _) _⟩
set_option maxHeartbeats 400000 in
theorem curveFault_ok (a : Option Addr) (cap : Nat) (ls : List (Int × Int)) (w : World) (hl : Lies w a ls) (h : okCurve ls) :
  Calls Tryz.prog 37 #[.slice a ls.length cap] w fun e w' => e = .returned (.agg #[.int .i64 0, .int .i64 (-1)]) ∧ Below w.heap.size w w' := by
 obtain ⟨h1, h6, hok⟩ := h
 obtain ⟨b, off, rfl, hlt, hc⟩ := hl.some h1
 clear hl
 generalize hn : ls.length = n at *
 have Hn := (show Hid (ls.length = n) from hn)
 have hb0 : Below w.heap.size w (w.alloc (.cells #[.int .i64 0, .int .i64 0] 35)) := (Below.refl _ _).alloc (Nat.le_refl _) _
 clear hn
 go_enter Tryz.func37, Tryz.ntmps37
 go_wp2_with fail
 go_loopw [3] (fun i wr => ∃ k : Nat, k ≤ n ∧ i = .int .i64 k ∧ Below w.heap.size w wr ∧ Two w wr (.int .i64 0) (.int .i64 0)) (fun i _ => n - (intOf i).toNat)
 case atStart => exact ⟨0, Nat.zero_le _, rfl, hb0, two_new w _ _ _⟩
 case round =>
  obtain ⟨k, hk, rfl, hb, h2⟩ := hrel
  have HB : Hid (Below w.heap.size w wr) := hb
  have H2 : Hid (Two w wr (.int .i64 0) (.int .i64 0)) := h2
  by_cases hkn : k < n
  ·
   obtain ⟨⟨x, y⟩, hp, hm⟩ := get_some ls k (by rw [Hn.out]; exact hkn)
   have hc1 : wr.cell? ⟨b, off + k * 2, none⟩ = some (.int .i64 x) := by rw [hb.cell (p := ⟨b, off + k * 2, none⟩) hlt]; exact (hc k x y hp).1
   have hc2 : wr.cell? ⟨b, off + k * 2 + 1, none⟩ = some (.int .i64 y) := by rw [hb.cell (p := ⟨b, off + k * 2 + 1, none⟩) hlt]; exact (hc k x y hp).2
   have Hxy := (show Hid (okLine x y = true) from hok _ hm)
   clear hc hok hp hm hb h2 hb0
   go_wp2_with (go_at_call 69; refine (lineError_yes x y _ Hxy.out).mono ?_; rintro e w' ⟨rfl, rfl⟩)
   go_roundw
   case rel => exact ⟨k + 1, by omega, by go_num, HB.out.alloc HB.out.size _, H2.out.later ((Below.refl _ _).alloc (Nat.le_refl _) _)⟩
   case measure => simp [intOf]; omega
  ·
   clear hc hok hb h2 hb0
   go_wp2_with fail
   refine (fine_any _).mono ?_
   rintro e w1 ⟨rfl, hb⟩
   obtain ⟨hc, hc', hf, hf'⟩ := H2.out.later hb
   have HB1 : Hid (Below w.heap.size w w1) := HB.out.trans (hb.mono HB.out.size)
   clear hb
   go_wp2_with fail
   exact bodyPost_ret (v := .agg #[.int .i64 0, .int .i64 (-1)]) (by simp [results, Tryz.results37, go_sem, hc, hc']) rfl ⟨rfl, (HB1.out.setCell (Nat.le_refl _) _).setCell (Nat.le_refl _) _⟩
set_option maxHeartbeats 400000 in
theorem curveFault_bad (a : Option Addr) (cap : Nat) (ls : List (Int × Int)) (w : World) (hl : Lies w a ls) (h1 : 1 ≤ ls.length) (h6 : ls.length ≤ 6)
  (j : Nat) (hj : j < ls.length) (hok : ∀ i x y, i < j → ls[i]? = some (x, y) → okLine x y = true) (hbad : ∀ x y, ls[j]? = some (x, y) → okLine x y = false) :
  Calls Tryz.prog 37 #[.slice a ls.length cap] w fun e w' => e = .returned (.agg #[.int .i64 2, .int .i64 j]) ∧ Below w.heap.size w w' := by
 obtain ⟨b, off, rfl, hlt, hc⟩ := hl.some h1
 clear hl
 generalize hn : ls.length = n at *
 have Hn := (show Hid (ls.length = n) from hn)
 have hb0 : Below w.heap.size w (w.alloc (.cells #[.int .i64 0, .int .i64 0] 35)) := (Below.refl _ _).alloc (Nat.le_refl _) _
 clear hn
 go_enter Tryz.func37, Tryz.ntmps37
 go_wp2_with fail
 go_loopw [3] (fun i wr => ∃ k : Nat, k ≤ j ∧ i = .int .i64 k ∧ Below w.heap.size w wr ∧ Two w wr (.int .i64 0) (.int .i64 0)) (fun i _ => n - (intOf i).toNat)
 case atStart => exact ⟨0, Nat.zero_le _, rfl, hb0, two_new w _ _ _⟩
 case round =>
  obtain ⟨k, hk, rfl, hb, h2⟩ := hrel
  have HB : Hid (Below w.heap.size w wr) := hb
  have H2 : Hid (Two w wr (.int .i64 0) (.int .i64 0)) := h2
  have hkn : k < n := by omega
  obtain ⟨⟨x, y⟩, hp, hm⟩ := get_some ls k (by rw [Hn.out]; exact hkn)
  have hc1 : wr.cell? ⟨b, off + k * 2, none⟩ = some (.int .i64 x) := by rw [hb.cell (p := ⟨b, off + k * 2, none⟩) hlt]; exact (hc k x y hp).1
  have hc2 : wr.cell? ⟨b, off + k * 2 + 1, none⟩ = some (.int .i64 y) := by rw [hb.cell (p := ⟨b, off + k * 2 + 1, none⟩) hlt]; exact (hc k x y hp).2
  by_cases hkj : k < j
  ·
   have Hxy := (show Hid (okLine x y = true) from hok k x y hkj hp)
   clear hc hok hp hm hb h2 hb0 hbad
   go_wp2_with (go_at_call 69; refine (lineError_yes x y _ Hxy.out).mono ?_; rintro e w' ⟨rfl, rfl⟩)
   go_roundw
   case rel => exact ⟨k + 1, by omega, by go_num, HB.out.alloc HB.out.size _, H2.out.later ((Below.refl _ _).alloc (Nat.le_refl _) _)⟩
   case measure => simp [intOf]; omega
  ·
   obtain rfl : k = j := by omega
   have Hxy := (show Hid (okLine x y = false) from hbad x y hp)
   clear hc hok hp hm hb h2 hb0 hbad
   go_wp2_with fail
   refine (lineError_no x y _ Hxy.out).mono ?_
   rintro e w1 ⟨rfl, hw1⟩
   have hb : Below wr.heap.size wr w1 := by rw [hw1]; exact (Below.refl _ _).alloc (Nat.le_refl _) _
   obtain ⟨hc, hc', hf, hf'⟩ := H2.out.later hb
   have HB1 : Hid (Below w.heap.size w w1) := HB.out.trans (hb.mono HB.out.size)
   clear hb hw1
   go_wp2_with fail
   exact bodyPost_ret (v := .agg #[.int .i64 2, .int .i64 k]) (by simp [results, Tryz.results37, go_sem, hc, hc']) rfl ⟨rfl, (HB1.out.setCell (Nat.le_refl _) _).setCell (Nat.le_refl _) _⟩
theorem curveFault_is (a : Option Addr) (cap : Nat) (ls : List (Int × Int)) (w : World) (hl : Lies w a ls) (hcap : ls.length ≤ cap) (hm : cap ≤ maxLen) (c p : Int) (h : FaultIs ls c p) :
  Calls Tryz.prog 37 #[.slice a ls.length cap] w fun e w' => e = .returned (.agg #[.int .i64 c, .int .i64 p]) ∧ Below w.heap.size w w' := by
 rcases h with ⟨h, rfl, rfl⟩ | ⟨h1, h6, j, hj, h2, h3, rfl, rfl⟩ | ⟨h, rfl, rfl⟩
 · exact curveFault_shape a ls.length cap w (Nat.le_trans hcap hm) h
 · exact curveFault_bad a cap ls w hl h1 h6 j hj h2 h3
 · exact curveFault_ok a cap ls w hl h
end Go.Proofs.YtibhkijaafdkoaaGreatDoor

namespace Go.Proofs.YtibhkijaafdkoaaGreatDoor
open Go.RowKit
def TidyIs (P L : List (Int × Int)) : Prop := ∃ l, l.Perm P ∧ SortedL l ∧ L = (lowT [] l).reverse
theorem kept_tidy {P L R : List (Int × Int)} (h : KeptTo P P.length R) (ht : TidyIs P L) : R = L := by
 obtain ⟨l, hp, hs, rfl⟩ := ht
 exact kept_low h hp hs
def SumRel (la lb : List (Int × Int)) (code : Int) (L : List (Int × Int)) : Prop :=
 (¬ okAll (eachL la lb) ∧ code = 2 ∧ L = []) ∨
 (okAll (eachL la lb) ∧ ∃ R, TidyIs (eachL la lb) R ∧ ((6 < R.length ∧ code = 3 ∧ L = []) ∨ (R.length ≤ 6 ∧ code = 0 ∧ L = R)))
theorem sumRel_num {la lb L : List (Int × Int)} {code : Int} (h : SumRel la lb code L) : code = 2 ∨ code = 3 ∨ code = 0 := by
 rcases h with ⟨-, h, -⟩ | ⟨-, R, -, ⟨-, h, -⟩ | ⟨-, h, -⟩⟩
 · exact .inl h
 · exact .inr (.inl h)
 · exact .inr (.inr h)
theorem sumOf_is {la lb L : List (Int × Int)} {code : Int} {w w' : World} {e : Ending} (h : SumOfIs la lb w w' e) (hr : SumRel la lb code L) : ∃ v, e = .returned (.tuple #[v, .int .i64 code]) ∧ OwnL w' w.heap.size v L ∧ Below w.heap.size w w' := by
 obtain ⟨hb, ⟨hn, rfl⟩ | ⟨hok, R, hk, h⟩⟩ := h
 ·
  rcases hr with ⟨-, rfl, rfl⟩ | ⟨h, -⟩
  · exact ⟨_, rfl, World.ownsRow_nil _ _ _ _, hb⟩
  · exact absurd h hn
 ·
  rcases hr with ⟨h, -⟩ | ⟨-, R', ht, h'⟩
  · exact absurd hok h
  ·
   obtain rfl := kept_tidy hk ht
   rcases h with ⟨h6, rfl⟩ | ⟨h6, v, rfl, ho⟩
   ·
    rcases h' with ⟨-, rfl, rfl⟩ | ⟨h6', -⟩
    · exact ⟨_, rfl, World.ownsRow_nil _ _ _ _, hb⟩
    · omega
   ·
    rcases h' with ⟨h6', -⟩ | ⟨-, rfl, rfl⟩
    · omega
    · exact ⟨v, rfl, ho, hb⟩
end Go.Proofs.YtibhkijaafdkoaaGreatDoor

namespace Go.Proofs.YtibhkijaafdkoaaGreatDoor
open Go.RowKit
structure TwoB (b : Nat) (w : World) (x y : Value) : Prop where
 c0 : w.cell? ⟨b, 0, none⟩ = some x
 c1 : w.cell? ⟨b, 1, none⟩ = some y
 f0 : w.frozen? ⟨b, 0, none⟩ = false
 f1 : w.frozen? ⟨b, 1, none⟩ = false
theorem TwoB.lt {b : Nat} {w : World} {x y : Value} (h : TwoB b w x y) : b < w.heap.size := cell_lt h.c0
theorem TwoB.later {b : Nat} {w w' : World} {x y : Value} (h : TwoB b w x y) (hb : Below w.heap.size w w') : TwoB b w' x y :=
 ⟨cell_later hb h.c0, cell_later hb h.c1, by rw [hb.frozen (p := ⟨b, 0, none⟩) h.lt]; exact h.f0, by rw [hb.frozen (p := ⟨b, 1, none⟩) h.lt]; exact h.f1⟩
theorem twoB_new (w : World) (x y : Value) (t : TypeId) : TwoB w.heap.size (w.alloc (.cells #[x, y] t)) x y := ⟨by simp, by simp, by simp, by simp⟩
theorem frozen_setCell (w : World) (p a : Addr) (v : Value) : (w.setCell p v).frozen? a = w.frozen? a := by simp
theorem TwoB.set {b : Nat} {w : World} {x y : Value} (h : TwoB b w x y) (u v : Value) : TwoB b ((w.setCell ⟨b, 0, none⟩ u).setCell ⟨b, 1, none⟩ v) u v := by
 have h1 : (w.setCell ⟨b, 0, none⟩ u).cell? ⟨b, 1, none⟩ = some y := by rw [World.cell?_setCell_other _ _ _ _ (by simp)]; exact h.c1
 refine ⟨?_, World.cell?_setCell_same _ _ _ h1, ?_, ?_⟩
 · rw [World.cell?_setCell_other _ _ _ _ (by simp)]; exact World.cell?_setCell_same _ _ _ h.c0
 · rw [frozen_setCell, frozen_setCell]; exact h.f0
 · rw [frozen_setCell, frozen_setCell]; exact h.f1
theorem cell_far (w : World) (p a : Addr) (v : Value) (h : p.block ≠ a.block) : (w.setCell p v).cell? a = w.cell? a := World.cell?_of_block (Below.heap_setCell w p v a.block (Ne.symm h))
theorem TwoB.far {b c : Nat} {w : World} {x y : Value} (h : TwoB b w x y) (hbc : c ≠ b) (u v : Value) : TwoB b ((w.setCell ⟨c, 0, none⟩ u).setCell ⟨c, 1, none⟩ v) x y := by
 refine ⟨?_, ?_, ?_, ?_⟩
 · rw [cell_far _ _ _ _ hbc, cell_far _ _ _ _ hbc]; exact h.c0
 · rw [cell_far _ _ _ _ hbc, cell_far _ _ _ _ hbc]; exact h.c1
 · rw [frozen_setCell, frozen_setCell]; exact h.f0
 · rw [frozen_setCell, frozen_setCell]; exact h.f1
set_option maxRecDepth 100000 in
set_option maxHeartbeats 1000000 in
theorem last_ok (a : Option Addr) (cap : Nat) (ls : List (Int × Int)) (m : Int) (w : World) (hl : Lies w a ls) (h : okCurve ls) (hcap : ls.length ≤ cap) (hm : cap ≤ maxLen) (m0 : 0 ≤ m) (m1 : m ≤ 20020000) :
  Calls Tryz.prog 75 #[.slice a ls.length cap, .int .i64 m] w fun e w' => e = .returned (.agg #[.int .i64 (lastC m ls).1, .int .i64 (lastC m ls).2]) ∧ Below w.heap.size w w' := by
 obtain ⟨h1, h6, hok⟩ := h
 obtain ⟨b, off, rfl, hlt, hc⟩ := hl.some h1
 clear hl
 unfold maxLen at hm
 obtain ⟨x0, y0, r, rfl⟩ : ∃ x y r, ls = (x, y) :: r := by
  cases ls with
  | nil => simp at h1
  | cons p r => exact ⟨p.1, p.2, r, rfl⟩
 obtain ⟨n, hn⟩ : ∃ n, r.length = n := ⟨_, rfl⟩
 have Hn := (show Hid (r.length = n) from hn)
 have h6' : n ≤ 5 := by simp at h6; omega
 have hcap' : n + 1 ≤ cap := by simp at hcap; omega
 rw [show ((x0, y0) :: r).length = n + 1 by simp [hn]]
 clear h1 h6 hcap hn
 obtain ⟨⟨hx0, hy0⟩, hr⟩ := lies_tail hc
 have HR : Hid (∀ i x y, r[i]? = some (x, y) → w.cell? ⟨b, off + 2 + i * 2, none⟩ = some (.int .i64 x) ∧ w.cell? ⟨b, off + 2 + i * 2 + 1, none⟩ = some (.int .i64 y)) := hr
 have HO : Hid (okAll ((x0, y0) :: r)) := hok
 have HL : Hid (lastC m ((x0, y0) :: r) = lastOf m (x0, y0) r) := rfl
 clear hok hc hr
 -- the two blocks that the call makes first
 have hbA : Below w.heap.size w ((w.alloc (.cells #[.int .i64 0, .int .i64 0] 133)).alloc (.cells #[.int .i64 x0, .int .i64 y0] 133)) := ((Below.refl _ _).alloc (Nat.le_refl _) _).alloc (by simp) _
 have hRA : TwoB w.heap.size ((w.alloc (.cells #[.int .i64 0, .int .i64 0] 133)).alloc (.cells #[.int .i64 x0, .int .i64 y0] 133)) (.int .i64 0) (.int .i64 0) := (twoB_new w _ _ _).later ((Below.refl _ _).alloc (Nat.le_refl _) _)
 have hXA : TwoB (w.heap.size + 1) ((w.alloc (.cells #[.int .i64 0, .int .i64 0] 133)).alloc (.cells #[.int .i64 x0, .int .i64 y0] 133)) (.int .i64 x0) (.int .i64 y0) := by
  have := twoB_new (w.alloc (.cells #[.int .i64 0, .int .i64 0] 133)) (.int .i64 x0) (.int .i64 y0) 133
  simpa using this
 by_cases hc1 : cap = 1
 ·
  subst hc1
  obtain rfl : n = 0 := by omega
  have hr0 : r = [] := List.length_eq_zero_iff.1 Hn.out
  subst hr0
  clear HR Hn HO hbA hRA hXA
  go_enter Tryz.func75, Tryz.ntmps75
  go_wp2
  refine wp_loop_rounds 1 ?_
  rw [rounds_succ]
  go_wp2
  exact bodyPost_ret (v := .agg #[.int .i64 x0, .int .i64 y0]) (by simp [results, Tryz.results75, go_sem]) rfl ⟨rfl, ((Below.refl _ _).alloc (Nat.le_refl _) _).alloc (by simp) _⟩
 ·
  have hc2 : 1 < cap := by omega
  clear hc1
  go_enter Tryz.func75, Tryz.ntmps75
  go_wp2
  clear hx0 hy0
  generalize (w.alloc (.cells #[.int .i64 0, .int .i64 0] 133)).alloc (.cells #[.int .i64 x0, .int .i64 y0] 133) = W at *
  go_loopw [14] (fun i wr => ∃ k : Nat, k ≤ n ∧ i = .int .i64 k ∧ Below w.heap.size w wr ∧ TwoB w.heap.size wr (.int .i64 0) (.int .i64 0) ∧ TwoB (w.heap.size + 1) wr (.int .i64 (lastOf m (x0, y0) (r.take k)).1) (.int .i64 (lastOf m (x0, y0) (r.take k)).2)) (fun i _ => n - (intOf i).toNat)
  case atStart => exact ⟨0, Nat.zero_le _, rfl, hbA, hRA, hXA⟩
  case round =>
   obtain ⟨k, hk, rfl, hb, hR, hX⟩ := hrel
   clear hbA hRA hXA
   have HB : Hid (Below w.heap.size w wr) := hb
   have H0 : Hid (TwoB w.heap.size wr (.int .i64 0) (.int .i64 0)) := hR
   by_cases hkn : k < n
   ·
    obtain ⟨⟨x, y⟩, hp, hmem⟩ := get_some r k (by rw [Hn.out]; exact hkn)
    have q1 : wr.cell? ⟨b, off + 2 + k * 2, none⟩ = some (.int .i64 x) := by rw [hb.cell (p := ⟨b, off + 2 + k * 2, none⟩) hlt]; exact (HR.out k x y hp).1
    have q2 : wr.cell? ⟨b, off + 2 + k * 2 + 1, none⟩ = some (.int .i64 y) := by rw [hb.cell (p := ⟨b, off + 2 + k * 2 + 1, none⟩) hlt]; exact (HR.out k x y hp).2
    have hts : r.take (k + 1) = r.take k ++ [(x, y)] := by rw [List.take_add_one, hp]; rfl
    have HS : Hid (lastOf m (x0, y0) (r.take (k + 1)) = if laterB (x, y) (lastOf m (x0, y0) (r.take k)) m = true then (x, y) else lastOf m (x0, y0) (r.take k)) := by show _ = _; rw [hts]; exact lastOf_snoc _ _ _ _
    have hz : okLine (lastOf m (x0, y0) (r.take k)).1 (lastOf m (x0, y0) (r.take k)).2 = true := by
     rcases lastOf_mem m (r.take k) (x0, y0) with h | h
     · rw [h]; exact HO.out _ (List.mem_cons_self ..)
     · exact HO.out _ (List.mem_cons_of_mem _ (List.mem_of_mem_take h))
    obtain ⟨p1, p2, p3, p4⟩ := okLine_true (HO.out _ (List.mem_cons_of_mem _ hmem))
    obtain ⟨z1, z2, z3, z4⟩ := okLine_true hz
    generalize hZ : lastOf m (x0, y0) (r.take k) = Z at *
    have HZ : Hid (lastOf m (x0, y0) (r.take k) = Z) := hZ
    obtain ⟨X, Y⟩ := Z
    simp only [] at p1 p2 p3 p4 z1 z2 z3 z4 hX
    have HX : Hid (TwoB (w.heap.size + 1) wr (.int .i64 X) (.int .i64 Y)) := hX
    have hb1 : Below wr.heap.size wr (wr.alloc (.cells #[.int .i64 x, .int .i64 y] 133)) := (Below.refl _ _).alloc (Nat.le_refl _) _
    obtain ⟨g0, g1, _, _⟩ := hX.later hb1
    have HB1 : Hid (Below wr.heap.size wr (wr.alloc (.cells #[.int .i64 x, .int .i64 y] 133))) := hb1
    have HY : Hid (TwoB wr.heap.size (wr.alloc (.cells #[.int .i64 x, .int .i64 y] 133)) (.int .i64 x) (.int .i64 y)) := twoB_new wr _ _ _
    clear hts hp hmem hz hb hR hX hb1 hZ
    cases hlat : laterB (x, y) (X, Y) m with
    | true =>
     have HT : Hid (laterB (x, y) (X, Y) m = true) := hlat
     clear hlat
     go_wp2_with fail
     refine (isLater_any x y X Y m _ p1 p2 p3 p4 z1 z2 z3 z4 m0 m1).mono ?_
     rintro e w2 ⟨rfl, hb2⟩
     rw [HT.out]
     have HB2 : Hid (Below wr.heap.size wr w2) := HB1.out.trans (hb2.mono HB1.out.size)
     obtain ⟨y0', y1', _, _⟩ := HY.out.later hb2
     have hX2 := HX.out.later HB2.out
     obtain ⟨k0, k1, k2, k3⟩ := hX2
     have hs2 : w.heap.size ≤ w.heap.size + 1 := by omega
     clear hb2
     go_wp2_with fail
     go_roundw
     case rel =>
      refine ⟨k + 1, by omega, by go_num, ?_, ?_, ?_⟩
      · exact ((HB.out.trans (HB2.out.mono HB.out.size)).setCell hs2 _).setCell hs2 _
      · exact (H0.out.later HB2.out).far (by omega) _ _
      ·
       rw [HS.out, if_pos HT.out]
       exact (HX.out.later HB2.out).set _ _
     case measure => simp [intOf]; omega
    | false =>
     have HT : Hid (laterB (x, y) (X, Y) m = false) := hlat
     clear hlat
     go_wp2_with fail
     refine (isLater_any x y X Y m _ p1 p2 p3 p4 z1 z2 z3 z4 m0 m1).mono ?_
     rintro e w2 ⟨rfl, hb2⟩
     rw [HT.out]
     have HB2 : Hid (Below wr.heap.size wr w2) := HB1.out.trans (hb2.mono HB1.out.size)
     clear hb2
     go_wp2_with fail
     go_roundw
     case rel =>
      refine ⟨k + 1, by omega, by go_num, HB.out.trans (HB2.out.mono HB.out.size), H0.out.later HB2.out, ?_⟩
      rw [HS.out, if_neg (by rw [HT.out]; decide)]
      exact HX.out.later HB2.out
     case measure => simp [intOf]; omega
   ·
    have hk' : k = n := by omega
    subst hk'
    rw [List.take_of_length_le (by rw [Hn.out]; omega)] at hX
    have HF : Hid (lastC m ((x0, y0) :: r) = lastOf m (x0, y0) r) := rfl
    generalize lastOf m (x0, y0) r = Z at *
    obtain ⟨X, Y⟩ := Z
    simp only [] at hX
    obtain ⟨g0, g1, _, _⟩ := hX
    obtain ⟨j0, j1, j2, j3⟩ := hR
    clear hb
    go_wp2_with fail
    refine bodyPost_ret (v := .agg #[.int .i64 X, .int .i64 Y]) (by simp [results, Tryz.results75, go_sem, j0, j1]) rfl ⟨?_, (HB.out.setCell (Nat.le_refl _) _).setCell (Nat.le_refl _) _⟩
    rw [HF.out]
end Go.Proofs.YtibhkijaafdkoaaGreatDoor

namespace Go.Proofs.YtibhkijaafdkoaaGreatDoor
open Go.RowKit
def waitOf (per : Int) (ls : List (Int × Int)) (n : Int) : Int := per * n - comesAt (lastC n ls) n
theorem per_bd {per n : Int} (h1 : 1 ≤ per) (h2 : per ≤ 1000) (n0 : 0 ≤ n) (n1 : n ≤ 20020000) : 0 ≤ per * n ∧ per * n ≤ 20020000000 := by
 refine ⟨Int.mul_nonneg (by omega) n0, ?_⟩
 have a := Int.mul_le_mul_of_nonneg_right h2 n0
 omega
theorem comes_bd {x y n : Int} (hx : 1 ≤ x) (hy : 0 ≤ y) (hy2 : y ≤ 100000) (n0 : 0 ≤ n) (n1 : n ≤ 20020000) (hk : miss x n = 0 ∨ 0 < y) : 0 ≤ comesAt (x, y) n ∧ comesAt (x, y) n ≤ 20020100000 := by
 have mb := miss_bd hx n0
 unfold comesAt
 split
 · omega
 ·
  next h =>
  have hy0 : 0 < y := by
   rcases hk with hk | hk
   · exact absurd hk h
   · exact hk
  refine ⟨Int.ediv_nonneg (by simp only []; omega) hy, ?_⟩
  have := Int.ediv_le_self (a := miss x n * 1000 + y - 1) y (by omega)
  simp only []
  omega
set_option maxHeartbeats 400000 in
theorem wait_ok (a : Option Addr) (cap : Nat) (ls : List (Int × Int)) (per n : Int) (w : World) (hl : Lies w a ls) (h : okCurve ls) (hcap : ls.length ≤ cap) (hm : cap ≤ maxLen) (p1 : 1 ≤ per) (p2 : per ≤ 1000) (n0 : 0 ≤ n) (n1 : n ≤ 20020000)
  (hk : miss (lastC n ls).1 n = 0 ∨ 0 < (lastC n ls).2) :
  Calls Tryz.prog 77 #[.slice a ls.length cap, .int .i64 per, .int .i64 n] w fun e w' => e = .returned (.int .i64 (waitOf per ls n)) ∧ Below w.heap.size w w' := by
 have HL : Hid (Lies w a ls) := hl
 have HK : Hid (okCurve ls) := h
 have Hc : Hid (ls.length ≤ cap ∧ cap ≤ maxLen) := ⟨hcap, hm⟩
 obtain ⟨b1, b2⟩ := per_bd p1 p2 n0 n1
 have hok := okLine_true (h.2.2 _ (lastC_mem n ls h.1))
 have HW : Hid (waitOf per ls n = per * n - comesAt (lastC n ls) n) := rfl
 have HI : Hid (lastC n ls = lastC n ls) := rfl
 generalize hZ : lastC n ls = Z at *
 have HZ : Hid (lastC n ls = Z) := hZ
 obtain ⟨X, Y⟩ := Z
 simp only [] at hok hk
 obtain ⟨q1, q2, q3, q4⟩ := hok
 obtain ⟨d1, d2⟩ := comes_bd q1 q3 q4 n0 n1 hk
 have HD : Hid (miss X n = 0 ∨ 0 < Y) := hk
 clear hl h hcap hm hZ HI hk
 go_enter Tryz.func77, Tryz.ntmps77
 go_wp2_with fail
 refine (last_ok a cap ls n _ HL.out HK.out Hc.out.1 Hc.out.2 n0 n1).mono ?_
 rintro e w1 ⟨rfl, hb1⟩
 rw [HZ.out]
 have HB1 : Hid (Below w.heap.size w w1) := hb1
 clear hb1
 go_wp2_with fail
 refine (comes_any X Y n _ q1 q2 q3 q4 n0 n1 HD.out).mono ?_
 rintro e w2 ⟨rfl, hb2⟩
 have HB2 : Hid (Below w.heap.size w w2) := HB1.out.trans (hb2.mono HB1.out.size)
 clear hb2
 go_wp2_with fail
 go_ret
 exact ⟨congrArg (fun z => Ending.returned (.int .i64 z)) HW.out.symm, HB2.out⟩
set_option maxHeartbeats 400000 in
theorem turn_call (a : Option Addr) (cap : Nat) (ls : List (Int × Int)) (per n : Int) (w : World) (k1 k2 : Nat) (c1 : w.cell? ⟨k1, 0, none⟩ = some (.slice a ls.length cap)) (c2 : w.cell? ⟨k2, 0, none⟩ = some (.int .i64 per))
  (hl : Lies w a ls) (h : okCurve ls) (hcap : ls.length ≤ cap) (hm : cap ≤ maxLen) (p1 : 1 ≤ per) (p2 : per ≤ 1000) (n0 : 0 ≤ n) (n1 : n ≤ 20020000) :
  Calls Tryz.prog 74 #[.int .i64 n, .pointer (some ⟨k1, 0, none⟩), .pointer (some ⟨k2, 0, none⟩)] w fun e w' => e = .returned (.bool (turns per ls n)) ∧ Below w.heap.size w w' := by
 have HL : Hid (Lies w a ls) := hl
 have HK : Hid (okCurve ls) := h
 have Hc : Hid (ls.length ≤ cap ∧ cap ≤ maxLen) := ⟨hcap, hm⟩
 have hok := okLine_true (h.2.2 _ (lastC_mem n ls h.1))
 have HT : Hid (turns per ls n = decide (0 < miss (lastC n ls).1 n ∧ (lastC n ls).2 * per ≤ 1000)) := rfl
 have HI : Hid (lastC n ls = lastC n ls) := rfl
 generalize hZ : lastC n ls = Z at *
 have HZ : Hid (lastC n ls = Z) := hZ
 obtain ⟨X, Y⟩ := Z
 simp only [] at hok
 obtain ⟨q1, q2, q3, q4⟩ := hok
 have mb := miss_bd q1 n0
 have pb1 : 0 ≤ Y * per := Int.mul_nonneg q3 (by omega)
 have pb2 : Y * per ≤ 100000000 := by
  have a1 := Int.mul_le_mul_of_nonneg_left p2 q3
  omega
 have HC2 : Hid (w.cell? ⟨k2, 0, none⟩ = some (.int .i64 per)) := c2
 clear hl h hcap hm hZ HI c2
 go_enter Tryz.func74, Tryz.ntmps74
 go_wp2_with fail
 refine (last_ok a cap ls n _ HL.out HK.out Hc.out.1 Hc.out.2 n0 n1).mono ?_
 rintro e w1 ⟨rfl, hb1⟩
 rw [HZ.out]
 have HB1 : Hid (Below w.heap.size w w1) := hb1
 have hy := twoB_new w1 (.int .i64 X) (.int .i64 Y) 133
 have HY : Hid (TwoB w1.heap.size (w1.alloc (.cells #[.int .i64 X, .int .i64 Y] 133)) (.int .i64 X) (.int .i64 Y)) := hy
 clear hb1 hy c1
 go_wp2_with fail
 refine (missing_any X Y n _ q1 q2 n0 n1).mono ?_
 rintro e w2 ⟨rfl, hb2⟩
 obtain ⟨_, y1, _, _⟩ := HY.out.later hb2
 have HB2 : Hid (Below w.heap.size w w2) := (HB1.out.alloc HB1.out.size _).trans (hb2.mono (by have := HB1.out.size; simp; omega))
 have d2 := cell_later HB2.out HC2.out
 obtain ⟨A, hA⟩ : ∃ A, miss X n = A := ⟨_, rfl⟩
 have HA : Hid (miss X n = A) := hA
 rw [hA] at mb ⊢
 obtain ⟨m1, m2⟩ := mb
 clear hb2 hA
 by_cases hp : 0 < A
 ·
  have HR : Hid (turns per ls n = decide (Y * per ≤ 1000)) := by
   show _ = _
   rw [HT.out]
   simp only [HA.out]
   simp [hp]
  go_wp2_with fail
  go_ret
  exact ⟨congrArg (fun z => Ending.returned (.bool z)) HR.out.symm, HB2.out⟩
 ·
  have HR : Hid (turns per ls n = false) := by
   show _ = _
   rw [HT.out]
   simp only [HA.out]
   simp [hp]
  go_wp2_with fail
  go_ret
  exact ⟨congrArg (fun z => Ending.returned (.bool z)) HR.out.symm, HB2.out⟩
end Go.Proofs.YtibhkijaafdkoaaGreatDoor
