/- The reference's CurveFault and AtOf; Check and At with their errors' numbers. -/
import Derived.Test.YtlknljbceppedaaDoorCAllWalks
import Derived.Test.YtlknljbceppedaaDoorCLaws
import Derived.Test.YtlknljbceppedaaDoorCBare
import Derived.Test.YtlknljbceppedaaDoorCAllPlain
namespace Go.Proofs.YtlknljbceppedaaDoor
open Go.RowKit

/-- What is wrong with lines, by the document: a number and a place. -/
def FaultIs (ls : List (Int × Int)) (c a : Int) : Prop :=
  ((ls.length < 1 ∨ 6 < ls.length) ∧ c = 3 ∧ a = -1) ∨
  (1 ≤ ls.length ∧ ls.length ≤ 6 ∧ ∃ j : Nat, j < ls.length ∧ (∀ i x y, i < j → ls[i]? = some (x, y) → okLine x y = true) ∧ (∀ x y, ls[j]? = some (x, y) → okLine x y = false) ∧ c = 2 ∧ a = j) ∨
  (okCurve ls ∧ c = 0 ∧ a = -1)
theorem fault_is (ls : List (Int × Int)) : ∃ c a, FaultIs ls c a := by
  by_cases hs : ls.length < 1 ∨ 6 < ls.length
  · exact ⟨3, -1, .inl ⟨hs, rfl, rfl⟩⟩
  · rcases firstBad ls with h | ⟨j, hj, h1, h2⟩
    · exact ⟨0, -1, .inr (.inr ⟨⟨by omega, by omega, h⟩, rfl, rfl⟩)⟩
    · exact ⟨2, j, .inr (.inl ⟨by omega, by omega, j, hj, h1, h2, rfl, rfl⟩)⟩
theorem FaultIs.ok {ls : List (Int × Int)} {a : Int} (h : FaultIs ls 0 a) : okCurve ls ∧ a = -1 := by
  rcases h with ⟨_, h, _⟩ | ⟨_, _, _, _, _, _, h, _⟩ | ⟨h, _, h'⟩
  · omega
  · omega
  · exact ⟨h, h'⟩
theorem FaultIs.num {ls : List (Int × Int)} {c a : Int} (h : FaultIs ls c a) : c = 0 ∨ c = 2 ∨ c = 3 := by
  rcases h with ⟨_, h, _⟩ | ⟨_, _, _, _, _, _, h, _⟩ | ⟨_, h, _⟩ <;> omega

set_option maxHeartbeats 400000 in
theorem curveFault_shape (a : Option Addr) (n cap : Nat) (w : World) (hm : n ≤ maxLen) (h : n < 1 ∨ 6 < n) :
    Calls Tryd.prog 22 #[.slice a n cap] w fun e w' => e = .returned (.agg #[.int .i64 3, .int .i64 (-1)]) ∧ Below w.heap.size w w' := by
  unfold maxLen at hm
  have hb0 : Below w.heap.size w (w.alloc (.cells #[.int .i64 0, .int .i64 0] 40)) := (Below.refl _ _).alloc (Nat.le_refl _) _
  rcases h with h | h
  · obtain rfl : n = 0 := by omega
    go_enter Tryd.func22, Tryd.ntmps22
    go_wp2_with fail
    refine (bare_any 3 _).mono ?_
    rintro e w1 ⟨rfl, hb⟩
    obtain ⟨hc, hc', hf, hf'⟩ := (two_new w _ _ _).later hb
    have HB : Hid (Below w.heap.size w w1) := hb0.trans (hb.mono hb0.size)
    clear hb hb0
    go_wp2_with fail
    exact bodyPost_ret (v := .agg #[.int .i64 3, .int .i64 (-1)]) (by simp [results, Tryd.results22, go_sem, hc, hc']) rfl ⟨rfl, (HB.out.setCell (Nat.le_refl _) _).setCell (Nat.le_refl _) _⟩
  · have h1 : ¬ n < 1 := by omega
    go_enter Tryd.func22, Tryd.ntmps22
    go_wp2_with fail
    refine (bare_any 3 _).mono ?_
    rintro e w1 ⟨rfl, hb⟩
    obtain ⟨hc, hc', hf, hf'⟩ := (two_new w _ _ _).later hb
    have HB : Hid (Below w.heap.size w w1) := hb0.trans (hb.mono hb0.size)
    clear hb hb0
    go_wp2_with fail
    exact bodyPost_ret (v := .agg #[.int .i64 3, .int .i64 (-1)]) (by simp [results, Tryd.results22, go_sem, hc, hc']) rfl ⟨rfl, (HB.out.setCell (Nat.le_refl _) _).setCell (Nat.le_refl _) _⟩

set_option maxHeartbeats 400000 in
theorem curveFault_ok (a : Option Addr) (cap : Nat) (ls : List (Int × Int)) (w : World) (hl : Lies w a ls) (h : okCurve ls) :
    Calls Tryd.prog 22 #[.slice a ls.length cap] w fun e w' => e = .returned (.agg #[.int .i64 0, .int .i64 (-1)]) ∧ Below w.heap.size w w' := by
  obtain ⟨h1, h6, hok⟩ := h
  obtain ⟨b, off, rfl, hlt, hc⟩ := hl.some h1
  clear hl
  generalize hn : ls.length = n at *
  have Hn := (show Hid (ls.length = n) from hn)
  have hb0 : Below w.heap.size w (w.alloc (.cells #[.int .i64 0, .int .i64 0] 40)) := (Below.refl _ _).alloc (Nat.le_refl _) _
  clear hn
  go_enter Tryd.func22, Tryd.ntmps22
  go_wp2_with fail
  go_loopw [3] (fun i wr => ∃ k : Nat, k ≤ n ∧ i = .int .i64 k ∧ Below w.heap.size w wr ∧ Two w wr (.int .i64 0) (.int .i64 0)) (fun i _ => n - (intOf i).toNat)
  case atStart => exact ⟨0, Nat.zero_le _, rfl, hb0, two_new w _ _ _⟩
  case round =>
    obtain ⟨k, hk, rfl, hb, h2⟩ := hrel
    have HB : Hid (Below w.heap.size w wr) := hb
    have H2 : Hid (Two w wr (.int .i64 0) (.int .i64 0)) := h2
    by_cases hkn : k < n
    · obtain ⟨⟨x, y⟩, hp, hm⟩ := get_some ls k (by rw [Hn.out]; exact hkn)
      have hc1 : wr.cell? ⟨b, off + k * 2, none⟩ = some (.int .i64 x) := by rw [hb.cell (p := ⟨b, off + k * 2, none⟩) hlt]; exact (hc k x y hp).1
      have hc2 : wr.cell? ⟨b, off + k * 2 + 1, none⟩ = some (.int .i64 y) := by rw [hb.cell (p := ⟨b, off + k * 2 + 1, none⟩) hlt]; exact (hc k x y hp).2
      have Hxy := (show Hid (okLine x y = true) from hok _ hm)
      clear hc hok hp hm hb h2 hb0
      go_wp2_with (go_at_call 36; refine (lineError_yes x y _ Hxy.out).mono ?_; rintro e w' ⟨rfl, rfl⟩)
      go_roundw
      case rel => exact ⟨k + 1, by omega, by go_num, HB.out.alloc HB.out.size _, H2.out.later ((Below.refl _ _).alloc (Nat.le_refl _) _)⟩
      case measure => simp [intOf]; omega
    · clear hc hok hb h2 hb0
      go_wp2_with fail
      refine (fine_any _).mono ?_
      rintro e w1 ⟨rfl, hb⟩
      obtain ⟨hc, hc', hf, hf'⟩ := H2.out.later hb
      have HB1 : Hid (Below w.heap.size w w1) := HB.out.trans (hb.mono HB.out.size)
      clear hb
      go_wp2_with fail
      exact bodyPost_ret (v := .agg #[.int .i64 0, .int .i64 (-1)]) (by simp [results, Tryd.results22, go_sem, hc, hc']) rfl ⟨rfl, (HB1.out.setCell (Nat.le_refl _) _).setCell (Nat.le_refl _) _⟩

set_option maxHeartbeats 400000 in
theorem curveFault_bad (a : Option Addr) (cap : Nat) (ls : List (Int × Int)) (w : World) (hl : Lies w a ls) (h1 : 1 ≤ ls.length) (h6 : ls.length ≤ 6)
    (j : Nat) (hj : j < ls.length) (hok : ∀ i x y, i < j → ls[i]? = some (x, y) → okLine x y = true) (hbad : ∀ x y, ls[j]? = some (x, y) → okLine x y = false) :
    Calls Tryd.prog 22 #[.slice a ls.length cap] w fun e w' => e = .returned (.agg #[.int .i64 2, .int .i64 j]) ∧ Below w.heap.size w w' := by
  obtain ⟨b, off, rfl, hlt, hc⟩ := hl.some h1
  clear hl
  generalize hn : ls.length = n at *
  have Hn := (show Hid (ls.length = n) from hn)
  have hb0 : Below w.heap.size w (w.alloc (.cells #[.int .i64 0, .int .i64 0] 40)) := (Below.refl _ _).alloc (Nat.le_refl _) _
  clear hn
  go_enter Tryd.func22, Tryd.ntmps22
  go_wp2_with fail
  go_loopw [3] (fun i wr => ∃ k : Nat, k ≤ j ∧ i = .int .i64 k ∧ Below w.heap.size w wr ∧ Two w wr (.int .i64 0) (.int .i64 0)) (fun i _ => n - (intOf i).toNat)
  case atStart => exact ⟨0, Nat.zero_le _, rfl, hb0, two_new w _ _ _⟩
  case round =>
    obtain ⟨k, hk, rfl, hb, h2⟩ := hrel
    have HB : Hid (Below w.heap.size w wr) := hb
    have H2 : Hid (Two w wr (.int .i64 0) (.int .i64 0)) := h2
    have hkn : k < n := by omega
    obtain ⟨⟨x, y⟩, hp, hm⟩ := get_some ls k (by rw [Hn.out]; exact hkn)
    have hc1 : wr.cell? ⟨b, off + k * 2, none⟩ = some (.int .i64 x) := by rw [hb.cell (p := ⟨b, off + k * 2, none⟩) hlt]; exact (hc k x y hp).1
    have hc2 : wr.cell? ⟨b, off + k * 2 + 1, none⟩ = some (.int .i64 y) := by rw [hb.cell (p := ⟨b, off + k * 2 + 1, none⟩) hlt]; exact (hc k x y hp).2
    by_cases hkj : k < j
    · have Hxy := (show Hid (okLine x y = true) from hok k x y hkj hp)
      clear hc hok hp hm hb h2 hb0 hbad
      go_wp2_with (go_at_call 36; refine (lineError_yes x y _ Hxy.out).mono ?_; rintro e w' ⟨rfl, rfl⟩)
      go_roundw
      case rel => exact ⟨k + 1, by omega, by go_num, HB.out.alloc HB.out.size _, H2.out.later ((Below.refl _ _).alloc (Nat.le_refl _) _)⟩
      case measure => simp [intOf]; omega
    · obtain rfl : k = j := by omega
      have Hxy := (show Hid (okLine x y = false) from hbad x y hp)
      clear hc hok hp hm hb h2 hb0 hbad
      go_wp2_with fail
      refine (lineError_no x y _ Hxy.out).mono ?_
      rintro e w1 ⟨rfl, hw1⟩
      have hb : Below wr.heap.size wr w1 := by rw [hw1]; exact (Below.refl _ _).alloc (Nat.le_refl _) _
      obtain ⟨hc, hc', hf, hf'⟩ := H2.out.later hb
      have HB1 : Hid (Below w.heap.size w w1) := HB.out.trans (hb.mono HB.out.size)
      clear hb hw1
      go_wp2_with fail
      exact bodyPost_ret (v := .agg #[.int .i64 2, .int .i64 k]) (by simp [results, Tryd.results22, go_sem, hc, hc']) rfl ⟨rfl, (HB1.out.setCell (Nat.le_refl _) _).setCell (Nat.le_refl _) _⟩

/-- CurveFault tells what is wrong. -/
theorem curveFault_is (a : Option Addr) (cap : Nat) (ls : List (Int × Int)) (w : World) (hl : Lies w a ls) (hcap : ls.length ≤ cap) (hm : cap ≤ maxLen) (c p : Int) (h : FaultIs ls c p) :
    Calls Tryd.prog 22 #[.slice a ls.length cap] w fun e w' => e = .returned (.agg #[.int .i64 c, .int .i64 p]) ∧ Below w.heap.size w w' := by
  rcases h with ⟨h, rfl, rfl⟩ | ⟨h1, h6, j, hj, h2, h3, rfl, rfl⟩ | ⟨h, rfl, rfl⟩
  · exact curveFault_shape a ls.length cap w (Nat.le_trans hcap hm) h
  · exact curveFault_bad a cap ls w hl h1 h6 j hj h2 h3
  · exact curveFault_ok a cap ls w hl h
end Go.Proofs.YtlknljbceppedaaDoor
