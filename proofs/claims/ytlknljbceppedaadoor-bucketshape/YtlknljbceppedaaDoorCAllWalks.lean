/- Own facts, put together: no statement of its own. -/
import Derived.WalkKit
import Derived.WalkSpells
import Derived.WalkLawsBesides
import Derived.BigQuiet
import Derived.Test.YtlknljbceppedaaDoorCUtil
import Derived.Test.YtlknljbceppedaaDoorCAllPlain

/- Walks: the small functions over one line. -/
namespace Go.Proofs.YtlknljbceppedaaDoor
open Go.RowKit

set_option maxHeartbeats 400000 in
theorem isLine_yes (x y : Int) (w : World) (h : okLine x y = true) :
    Calls Tryd.prog 59 #[.agg #[.int .i64 x, .int .i64 y]] w fun e w' => e = .returned (.bool true) ∧ w' = w.alloc (.cells #[.int .i64 x, .int .i64 y] 54) := by
  obtain ⟨h1, h2, h3, h4⟩ := okLine_true h
  clear h
  go_enter Tryd.func59, Tryd.ntmps59
  go_wp2
  go_ret
  exact ⟨rfl, rfl⟩
set_option maxHeartbeats 400000 in
theorem isLine_no (x y : Int) (w : World) (h : okLine x y = false) :
    Calls Tryd.prog 59 #[.agg #[.int .i64 x, .int .i64 y]] w fun e w' => e = .returned (.bool false) ∧ w' = w.alloc (.cells #[.int .i64 x, .int .i64 y] 54) := by
  have h' : ¬ (1 ≤ x ∧ x ≤ 20000 ∧ 0 ≤ y ∧ y ≤ 100000) := of_decide_eq_false h
  clear h
  by_cases h1 : 1 ≤ x
  · by_cases h2 : x ≤ 20000
    · by_cases h3 : 0 ≤ y
      · have h4 : ¬ y ≤ 100000 := fun h4 => h' ⟨h1, h2, h3, h4⟩
        clear h'
        go_enter Tryd.func59, Tryd.ntmps59
        go_wp2
        go_ret
        exact ⟨rfl, rfl⟩
      · clear h'
        go_enter Tryd.func59, Tryd.ntmps59
        go_wp2
        go_ret
        exact ⟨rfl, rfl⟩
    · clear h'
      go_enter Tryd.func59, Tryd.ntmps59
      go_wp2
      go_ret
      exact ⟨rfl, rfl⟩
  · clear h'
    go_enter Tryd.func59, Tryd.ntmps59
    go_wp2
    go_ret
    exact ⟨rfl, rfl⟩
end Go.Proofs.YtlknljbceppedaaDoor

/- Walks: package curve's Check. -/
namespace Go.Proofs.YtlknljbceppedaaDoor
open Go.RowKit

/-- So many lines lie in memory from an address on (no address is asked for where there is none). -/
def Lies (w : World) (a : Option Addr) (ls : List (Int × Int)) : Prop :=
  ls = [] ∨ ∃ b off, a = some ⟨b, off, none⟩ ∧ b < w.heap.size ∧ ∀ i x y, ls[i]? = some (x, y) → w.cell? ⟨b, off + i * 2, none⟩ = some (.int .i64 x) ∧ w.cell? ⟨b, off + i * 2 + 1, none⟩ = some (.int .i64 y)

theorem Lies.some {w : World} {a : Option Addr} {ls : List (Int × Int)} (h : Lies w a ls) (h1 : 1 ≤ ls.length) :
    ∃ b off, a = some ⟨b, off, none⟩ ∧ b < w.heap.size ∧ ∀ i x y, ls[i]? = some (x, y) → w.cell? ⟨b, off + i * 2, none⟩ = some (.int .i64 x) ∧ w.cell? ⟨b, off + i * 2 + 1, none⟩ = some (.int .i64 y) := by
  rcases h with rfl | h
  · simp at h1
  · exact h
theorem Lies.below {w w' : World} {a : Option Addr} {ls : List (Int × Int)} (h : Lies w a ls) (hb : Below w.heap.size w w') : Lies w' a ls := by
  rcases h with rfl | ⟨b, off, rfl, hlt, hc⟩
  · exact .inl rfl
  · refine .inr ⟨b, off, rfl, Nat.lt_of_lt_of_le hlt hb.size, fun i x y hi => ?_⟩
    have := hc i x y hi
    exact ⟨by rw [hb.cell (p := ⟨b, off + i * 2, none⟩) hlt]; exact this.1, by rw [hb.cell (p := ⟨b, off + i * 2 + 1, none⟩) hlt]; exact this.2⟩

set_option maxHeartbeats 400000 in
theorem check_ok (a : Option Addr) (cap : Nat) (ls : List (Int × Int)) (w : World) (hl : Lies w a ls) (h : okCurve ls) :
    Calls Tryd.prog 24 #[.slice a ls.length cap] w fun e w' => e = .returned .nilIface ∧ Below w.heap.size w w' := by
  obtain ⟨h1, h6, hok⟩ := h
  obtain ⟨b, off, rfl, hlt, hc⟩ := hl.some h1
  clear hl
  generalize hn : ls.length = n at *
  have Hn := (show Hid (ls.length = n) from hn)
  clear hn
  go_enter Tryd.func24, Tryd.ntmps24
  go_wp2
  go_loopw [16] (fun i wr => ∃ k : Nat, k ≤ n ∧ i = .int .i64 k ∧ Below w.heap.size w wr) (fun i _ => n - (intOf i).toNat)
  case atStart => exact ⟨0, Nat.zero_le _, rfl, Below.refl _ _⟩
  case round =>
    obtain ⟨k, hk, rfl, hb⟩ := hrel
    by_cases hkn : k < n
    · obtain ⟨⟨x, y⟩, hp, hm⟩ := get_some ls k (by rw [Hn.out]; exact hkn)
      have hc1 : wr.cell? ⟨b, off + k * 2, none⟩ = some (.int .i64 x) := by rw [hb.cell (p := ⟨b, off + k * 2, none⟩) hlt]; exact (hc k x y hp).1
      have hc2 : wr.cell? ⟨b, off + k * 2 + 1, none⟩ = some (.int .i64 y) := by rw [hb.cell (p := ⟨b, off + k * 2 + 1, none⟩) hlt]; exact (hc k x y hp).2
      have hxy := hok _ hm
      clear hc hok hp hm
      have Hxy := (show Hid (okLine x y = true) from hxy)
      clear hxy
      go_wp2_with (go_at_call 59; refine (isLine_yes x y _ Hxy.out).mono ?_; rintro e w' ⟨rfl, rfl⟩)
      have hs := hb.size
      go_roundw
      case rel => exact ⟨k + 1, by omega, by go_num, (hb.alloc hs _).alloc (by simp; omega) _⟩
      case measure => simp [intOf]; omega
    · go_wp2
      go_ret
      exact ⟨rfl, hb⟩

set_option maxHeartbeats 400000 in
theorem check_shape (a : Option Addr) (n cap : Nat) (w : World) (vS : Value) (hS : w.cell? ⟨2, 0, none⟩ = some vS) (hm : n ≤ maxLen) (h : n < 1 ∨ 6 < n) :
    Calls Tryd.prog 24 #[.slice a n cap] w fun e w' => e = .returned vS ∧ w' = w := by
  unfold maxLen at hm
  rcases h with h | h
  · obtain rfl : n = 0 := by omega
    go_enter Tryd.func24, Tryd.ntmps24
    go_wp2
    go_ret
    exact ⟨rfl, rfl⟩
  · have h1 : ¬ n < 1 := by omega
    go_enter Tryd.func24, Tryd.ntmps24
    go_wp2
    go_ret
    exact ⟨rfl, rfl⟩

set_option maxHeartbeats 400000 in
theorem check_bad (a : Option Addr) (cap : Nat) (ls : List (Int × Int)) (w : World) (aB : Addr) (hB : w.cell? ⟨1, 0, none⟩ = some (.iface 98 (.pointer (some aB)))) (hl : Lies w a ls) (h1 : 1 ≤ ls.length) (h6 : ls.length ≤ 6)
    (j : Nat) (hj : j < ls.length) (hok : ∀ i x y, i < j → ls[i]? = some (x, y) → okLine x y = true) (hbad : ∀ x y, ls[j]? = some (x, y) → okLine x y = false) :
    Calls Tryd.prog 24 #[.slice a ls.length cap] w fun e w' => Below w.heap.size w w' ∧ ∃ B, e = .returned (.iface 29 (.pointer (some ⟨B, 0, none⟩))) ∧ w.heap.size ≤ B ∧ B < w'.heap.size ∧ w'.cell? ⟨B, 0, none⟩ = some (.int .i64 j) ∧ w'.cell? ⟨B, 1, none⟩ = some (.iface 98 (.pointer (some aB))) := by
  obtain ⟨b, off, rfl, hlt, hc⟩ := hl.some h1
  clear hl
  generalize hn : ls.length = n at *
  have Hn := (show Hid (ls.length = n) from hn)
  clear hn
  go_enter Tryd.func24, Tryd.ntmps24
  go_wp2
  go_loopw [16] (fun i wr => ∃ k : Nat, k ≤ j ∧ i = .int .i64 k ∧ Below w.heap.size w wr) (fun i _ => n - (intOf i).toNat)
  case atStart => exact ⟨0, Nat.zero_le _, rfl, Below.refl _ _⟩
  case round =>
    obtain ⟨k, hk, rfl, hb⟩ := hrel
    have hs := hb.size
    have hkn : k < n := by omega
    obtain ⟨⟨x, y⟩, hp, hm⟩ := get_some ls k (by rw [Hn.out]; exact hkn)
    have hc1 : wr.cell? ⟨b, off + k * 2, none⟩ = some (.int .i64 x) := by rw [hb.cell (p := ⟨b, off + k * 2, none⟩) hlt]; exact (hc k x y hp).1
    have hc2 : wr.cell? ⟨b, off + k * 2 + 1, none⟩ = some (.int .i64 y) := by rw [hb.cell (p := ⟨b, off + k * 2 + 1, none⟩) hlt]; exact (hc k x y hp).2
    have hgs : 1 < w.heap.size := by
      rcases Nat.lt_or_ge 1 w.heap.size with h | h
      · exact h
      · simp [World.cell?, Array.getElem?_eq_none h] at hB
    have hB2 : wr.cell? ⟨1, 0, none⟩ = some (.iface 98 (.pointer (some aB))) := by rw [hb.cell (p := ⟨1, 0, none⟩) hgs]; exact hB
    by_cases hkj : k < j
    · have Hxy := (show Hid (okLine x y = true) from hok k x y hkj hp)
      clear hc hok hp hm hbad hB hB2
      go_wp2_with (go_at_call 59; refine (isLine_yes x y _ Hxy.out).mono ?_; rintro e w' ⟨rfl, rfl⟩)
      go_roundw
      case rel => exact ⟨k + 1, by omega, by go_num, (hb.alloc hs _).alloc (by simp; omega) _⟩
      case measure => simp [intOf]; omega
    · obtain rfl : k = j := by omega
      have Hxy := (show Hid (okLine x y = false) from hbad x y hp)
      clear hc hok hp hm hbad hB
      have hB3 : ((wr.alloc (.cells #[.int .i64 x, .int .i64 y] 54)).alloc (.cells #[.int .i64 x, .int .i64 y] 54)).cell? ⟨1, 0, none⟩ = some (.iface 98 (.pointer (some aB))) := by
        rw [World.cell?_alloc_lt _ _ ⟨1, 0, none⟩ (Nat.lt_of_lt_of_le hgs (by simp; omega)), World.cell?_alloc_lt _ _ ⟨1, 0, none⟩ (Nat.lt_of_lt_of_le hgs hs)]; exact hB2
      go_wp2_with (go_at_call 59; refine (isLine_no x y _ Hxy.out).mono ?_; rintro e w' ⟨rfl, rfl⟩)
      go_ret
      refine ⟨((hb.alloc hs _).alloc (by simp; omega) _).alloc (by simp; omega) _, _, rfl, ?_, ?_, ?_, ?_⟩
      · omega
      · simp
      · rw [World.cell?_alloc_at _ _ _ _ (by simp)]; rfl
      · rw [World.cell?_alloc_at _ _ _ _ (by simp)]; rfl
end Go.Proofs.YtlknljbceppedaaDoor

/- Walks: package curve's bytesAt. -/
namespace Go.Proofs.YtlknljbceppedaaDoor
open Go.RowKit

set_option maxHeartbeats 400000 in
theorem bytesAt_ok (a : Option Addr) (cap : Nat) (ls : List (Int × Int)) (t : Int) (w : World) (hl : Lies w a ls) (h : okCurve ls) (hcap : ls.length ≤ cap) (hm : cap ≤ maxLen) (t0 : 0 ≤ t) (t1 : t ≤ 1099511627776) :
    Calls Tryd.prog 57 #[.slice a ls.length cap, .int .i64 t] w fun e w' => e = .returned (.int .i64 (curveAt t ls)) ∧ Below w.heap.size w w' := by
  obtain ⟨h1, h6, hok⟩ := h
  obtain ⟨b, off, rfl, hlt, hc⟩ := hl.some h1
  clear hl
  unfold maxLen at hm
  obtain ⟨x0, y0, r, rfl⟩ : ∃ x y r, ls = (x, y) :: r := by
    cases ls with
    | nil => simp at h1
    | cons p r => exact ⟨p.1, p.2, r, rfl⟩
  obtain ⟨n, hn⟩ : ∃ n, r.length = n := ⟨_, rfl⟩
  have Hn := (show Hid (r.length = n) from hn)
  have h6' : n ≤ 5 := by simp at h6; omega
  have hcap' : n + 1 ≤ cap := by simp at hcap; omega
  rw [show ((x0, y0) :: r).length = n + 1 by simp [hn]]
  clear h1 h6 hcap hn
  have ha := (hc 0 x0 y0 rfl)
  have hx0 : w.cell? ⟨b, off, none⟩ = some (.int .i64 x0) := by simpa using ha.1
  have hy0 : w.cell? ⟨b, off + 1, none⟩ = some (.int .i64 y0) := by simpa using ha.2
  clear ha
  have hr : ∀ i x y, r[i]? = some (x, y) → w.cell? ⟨b, off + 2 + i * 2, none⟩ = some (.int .i64 x) ∧ w.cell? ⟨b, off + 2 + i * 2 + 1, none⟩ = some (.int .i64 y) := by
    intro i x y hi
    have := hc (i + 1) x y (by simpa using hi)
    rw [show off + (i + 1) * 2 = off + 2 + i * 2 by omega] at this
    exact this
  have hok0 := hok _ (List.mem_cons_self ..)
  have hokr : okAll r := fun p hp => hok p (List.mem_cons_of_mem _ hp)
  have hb0 := lineAt_bd hok0 t0 t1
  have o0 := okLine_true hok0
  simp only [] at o0
  obtain ⟨o1, o2, o3, o4⟩ := o0
  obtain ⟨m1, m2⟩ := mul_bd o3 o4 t0 t1
  have HL : Hid (x0 + y0 * t / 1000 = lineAt t x0 y0) := rfl
  have HC : Hid (curveAt t ((x0, y0) :: r) = leastAt t (lineAt t x0 y0) r) := rfl
  clear hok hok0 hc
  by_cases hc1 : cap = 1
  · subst hc1
    obtain rfl : n = 0 := by omega
    have hr0 : r = [] := List.length_eq_zero_iff.1 Hn.out
    subst hr0
    clear hr Hn hokr
    go_enter Tryd.func57, Tryd.ntmps57
    go_wp2
    go_quiet (fail)
    go_wp2
    refine wp_loop_rounds 1 ?_
    rw [rounds_succ]
    go_wp2
    go_ret
    exact ⟨rfl, below_drewN (Below.refl _ _) _⟩
  · have hc2 : 1 < cap := by omega
    clear hc1
    go_enter Tryd.func57, Tryd.ntmps57
    go_wp2
    go_quiet (fail)
    go_wp2
    go_loopw [5, 23] (fun m i wr => ∃ k : Nat, k ≤ n ∧ i = .int .i64 k ∧ m = .int .i64 (leastAt t (lineAt t x0 y0) (r.take k)) ∧ Below w.heap.size w wr) (fun _ i _ => n - (intOf i).toNat)
    case atStart => exact ⟨0, Nat.zero_le _, rfl, rfl, below_drewN (Below.refl _ _) _⟩
    case round =>
      obtain ⟨k, hk, rfl, rfl, hb⟩ := hrel
      have hs := hb.size
      by_cases hkn : k < n
      · obtain ⟨⟨x, y⟩, hp, hm'⟩ := get_some r k (by rw [Hn.out]; exact hkn)
        have hc1 : wr.cell? ⟨b, off + 2 + k * 2, none⟩ = some (.int .i64 x) := by rw [hb.cell (p := ⟨b, off + 2 + k * 2, none⟩) hlt]; exact (hr k x y hp).1
        have hc2 : wr.cell? ⟨b, off + 2 + k * 2 + 1, none⟩ = some (.int .i64 y) := by rw [hb.cell (p := ⟨b, off + 2 + k * 2 + 1, none⟩) hlt]; exact (hr k x y hp).2
        have hts : r.take (k + 1) = r.take k ++ [(x, y)] := by rw [List.take_add_one, hp]; rfl
        have hsn := leastAt_snoc t (r.take k) (lineAt t x0 y0) (x, y)
        have HS : Hid (leastAt t (lineAt t x0 y0) (r.take (k + 1)) = min (leastAt t (lineAt t x0 y0) (r.take k)) (x + y * t / 1000)) := by rw [hts]; exact hsn
        have hbd := leastAt_bd t t0 t1 (r.take k) (lineAt t x0 y0) (by omega) (by omega) (fun p hp => hokr p (List.mem_of_mem_take hp))
        obtain ⟨p1, p2, p3, p4⟩ := okLine_true (hokr _ hm')
        simp only [] at p1 p2 p3 p4
        obtain ⟨q1, q2⟩ := mul_bd p3 p4 t0 t1
        obtain ⟨M, hM⟩ : ∃ M, leastAt t (lineAt t x0 y0) (r.take k) = M := ⟨_, rfl⟩
        rw [hM] at hbd ⊢
        have HM : Hid (leastAt t (lineAt t x0 y0) (r.take k) = M) := hM
        clear hM hts hsn hp hm' hr hokr
        obtain ⟨b1, b2, b3⟩ := hbd
        go_wp2
        go_roundw
        case rel =>
          refine ⟨k + 1, by omega, by go_num, ?_, ?_⟩
          · rw [HS.out, HM.out]
            exact congrArg (Value.int .i64) (min_if _ _)
          · exact hb.alloc hs _
        case measure => simp [intOf]; omega
      · go_wp2
        go_ret
        refine ⟨congrArg (fun z => Ending.returned (.int .i64 z)) ?_, hb⟩
        rw [List.take_of_length_le (by rw [Hn.out]; omega)]
        exact HC.out.symm
end Go.Proofs.YtlknljbceppedaaDoor

/- Walks: the law's own copy of lines; package curve's At; the reference's LineError; the law's closed fact. -/
namespace Go.Proofs.YtlknljbceppedaaDoor
open Go.RowKit

/-- The cells of lines, one behind the other. -/
def cellsL (ls : List (Int × Int)) : List Value := ls.flatMap fun p => [.int .i64 p.1, .int .i64 p.2]
theorem cellsL_cons (p : Int × Int) (r : List (Int × Int)) : cellsL (p :: r) = .int .i64 p.1 :: .int .i64 p.2 :: cellsL r := rfl
theorem cellsL_append (a b : List (Int × Int)) : cellsL (a ++ b) = cellsL a ++ cellsL b := by simp [cellsL]
theorem cellsL_length (ls : List (Int × Int)) : (cellsL ls).length = ls.length * 2 := by
  induction ls with
  | nil => rfl
  | cons p r ih => rw [cellsL_cons]; simp [ih]; omega
theorem cellsL_get (ls : List (Int × Int)) : ∀ i x y, ls[i]? = some (x, y) → (cellsL ls)[i * 2]? = some (.int .i64 x) ∧ (cellsL ls)[i * 2 + 1]? = some (.int .i64 y) := by
  induction ls with
  | nil => intro i x y h; simp at h
  | cons p r ih =>
    intro i x y h
    rw [cellsL_cons]
    cases i with
    | zero => simp at h; subst h; exact ⟨rfl, rfl⟩
    | succ i =>
      have := ih i x y (by simpa using h)
      rw [show (i + 1) * 2 = i * 2 + 1 + 1 by omega]
      exact ⟨by simpa using this.1, by simpa using this.2⟩
theorem cellsL_at (ls : List (Int × Int)) : ∀ j u, (cellsL ls)[j]? = some u → ∃ i x y, ls[i]? = some (x, y) ∧ ((j = i * 2 ∧ u = .int .i64 x) ∨ (j = i * 2 + 1 ∧ u = .int .i64 y)) := by
  induction ls with
  | nil => intro j u h; simp [cellsL] at h
  | cons p r ih =>
    intro j u h
    rw [cellsL_cons] at h
    match j, h with
    | 0, h => exact ⟨0, p.1, p.2, rfl, .inl ⟨rfl, by simpa using h.symm⟩⟩
    | 1, h => exact ⟨0, p.1, p.2, rfl, .inr ⟨rfl, by simpa using h.symm⟩⟩
    | j + 2, h =>
      obtain ⟨i, x, y, hi, hj⟩ := ih j u (by simpa using h)
      exact ⟨i + 1, x, y, by simpa using hi, by rcases hj with ⟨e, f⟩ | ⟨e, f⟩; exact .inl ⟨by omega, f⟩; exact .inr ⟨by omega, f⟩⟩
theorem cellsL_one (ls : List (Int × Int)) : ∀ u ∈ cellsL ls, u.oneCell' = true := by
  intro u hu
  obtain ⟨j, hj⟩ := List.mem_iff_getElem?.1 hu
  obtain ⟨i, x, y, -, h⟩ := cellsL_at ls j u hj
  rcases h with ⟨-, rfl⟩ | ⟨-, rfl⟩ <;> rfl

/-- A slice of lines in memory that the call itself has made, from block B on. -/
def OwnL (w : World) (B : Nat) (v : Value) (ls : List (Int × Int)) : Prop := w.ownsRow B 54 2 v ls.length (cellsL ls)

theorem OwnL.open {w : World} {B : Nat} {v : Value} {ls : List (Int × Int)} (h : OwnL w B v ls) :
    ∃ a cap, v = .slice a ls.length cap ∧ ls.length ≤ cap ∧ cap ≤ maxLen ∧ Lies w a ls := by
  obtain ⟨hlen, ⟨rfl, h0⟩ | ⟨g, cap, cur, rfl, hB, hg, hn, hm, hc, ht⟩⟩ := h
  · refine ⟨none, 0, by rw [h0], by omega, by simp [maxLen], .inl (List.length_eq_zero_iff.1 h0)⟩
  · refine ⟨_, cap, rfl, hn, hm, .inr ⟨g, 0, rfl, ?_, fun i x y hi => ?_⟩⟩
    · rcases Nat.lt_or_ge g w.heap.size with h | h
      · exact h
      · simp [Array.getElem?_eq_none h] at hg
    · have hh : w.ownsRow B 54 2 (.slice (some ⟨g, 0, none⟩) ls.length cap) ls.length (cellsL ls) := ⟨hlen, .inr ⟨g, cap, cur, rfl, hB, hg, hn, hm, hc, ht⟩⟩
      have hil : i < ls.length := by
        rcases Nat.lt_or_ge i ls.length with h | h
        · exact h
        · simp [List.getElem?_eq_none h] at hi
      have := cellsL_get ls i x y hi
      rw [hh.cellAt _ (by omega), hh.cellAt _ (by omega), Nat.zero_add]
      exact this
theorem lies_news {w : World} {ad : Addr} {ls : List (Int × Int)} (h : Lies w (some ad) ls) : ∀ j u, (cellsL ls)[j]? = some u → w.cell? (ad.add j) = some u := by
  intro j u hj
  obtain ⟨i, x, y, hi, hc⟩ := cellsL_at ls j u hj
  rcases h with rfl | ⟨b, off, e, -, h⟩
  · simp at hi
  · cases e
    have := h i x y hi
    rw [Addr.add_lit]
    rcases hc with ⟨rfl, rfl⟩ | ⟨rfl, rfl⟩
    · exact this.1
    · exact this.2

theorem Tryd.infoLine : (Tryd.prog.info? 54).map (fun i => (i.zero, i.size, i.bytes)) = some (some (.agg #[.int .i64 0, .int .i64 0]), 2, 16) := by kernel_rfl

set_option maxHeartbeats 400000 in
theorem ownLines_any (a : Option Addr) (cap : Nat) (ls : List (Int × Int)) (w : World) (hl : Lies w a ls) (hn : ls.length ≤ 1000) (ha : a = none → ls = [] ∧ cap = 0) :
    Calls Tryd.prog 21 #[.slice a ls.length cap] w fun e w' => ∃ v, e = .returned v ∧ OwnL w' w.heap.size v ls ∧ Below w.heap.size w w' := by
  obtain ⟨i0, hi, hz0, hz1, hz2⟩ := info_parts Tryd.infoLine
  cases a with
  | none =>
    obtain ⟨rfl, rfl⟩ := ha rfl
    show Calls Tryd.prog 21 #[.slice none 0 0] w _
    go_enter Tryd.func21, Tryd.ntmps21
    go_wp2
    go_ret
    exact ⟨_, rfl, World.ownsRow_nil _ _ _ _, Below.refl _ _⟩
  | some ad =>
    have hnews := lies_news hl
    have hlen := cellsL_length ls
    have hone := cellsL_one ls
    have H1 : Hid (∀ j u, (cellsL ls)[j]? = some u → w.cell? (ad.add j) = some u) := hnews
    have H2 : Hid ((cellsL ls).length = ls.length * 2) := hlen
    have H3 : Hid (∀ u ∈ cellsL ls, u.oneCell' = true) := hone
    have HL : Hid (Lies w (some ad) ls) := hl
    clear hnews hlen hone hl ha
    go_enter Tryd.func21, Tryd.ntmps21
    go_wp2_with (at_builtin; refine wpList_append_own _ rfl _ _ 35 rfl w.heap.size 54 i0 (.agg #[.int .i64 0, .int .i64 0]) 2 16 Tryd.underlying35 hi hz0 hz1 hz2 rfl (by decide) (.slice none 0 0) 0 [] rfl (World.ownsRow_nil _ _ _ _) ad ls.length cap (cellsL ls) rfl H2.out H1.out H3.out (by unfold maxLen; omega) (by omega) (Nat.le_refl _) ?_; intro v' w3 hown' hgrow3 hnil3)
    go_ret
    refine ⟨_, rfl, by simpa [OwnL] using hown', ?_⟩
    exact (Below.refl _ _).grown hgrow3 (Nat.le_refl _) (fun k hk => by cases hk)
end Go.Proofs.YtlknljbceppedaaDoor

/- Walks: package curve's At; the reference's LineError; the law's closed fact. -/
namespace Go.Proofs.YtlknljbceppedaaDoor
open Go.RowKit


set_option maxHeartbeats 400000 in
theorem at_ok (a : Option Addr) (cap : Nat) (ls : List (Int × Int)) (t : Int) (w : World) (hl : Lies w a ls) (h : okCurve ls) (hcap : ls.length ≤ cap) (hm : cap ≤ maxLen) (t0 : 0 ≤ t) (t1 : t ≤ 1099511627776) :
    Calls Tryd.prog 20 #[.slice a ls.length cap, .int .i64 t] w fun e w' => e = .returned (.tuple #[.int .i64 (curveAt t ls), .nilIface]) ∧ Below w.heap.size w w' := by
  have HL : Hid (Lies w a ls) := hl
  have HO : Hid (okCurve ls) := h
  have Hc : Hid (ls.length ≤ cap ∧ cap ≤ maxLen) := ⟨hcap, hm⟩
  clear hl h hcap hm
  go_enter Tryd.func20, Tryd.ntmps20
  go_wp2_with fail
  refine (check_ok a cap ls _ HL.out HO.out).mono ?_
  rintro e w1 ⟨rfl, hb⟩
  have HB : Hid (Below w.heap.size w w1) := hb
  clear hb
  go_wp2_with fail
  refine (bytesAt_ok a cap ls t _ (HL.out.below HB.out) HO.out Hc.out.1 Hc.out.2 t0 t1).mono ?_
  rintro e w2 ⟨rfl, hb2⟩
  go_wp2_with fail
  go_ret2
  exact ⟨rfl, HB.out.trans (hb2.mono HB.out.size)⟩

/-- At tells Check's error. -/
theorem at_err {R : TypeId → Value → World → Prop} (a : Option Addr) (n cap : Nat) (t : Int) (w : World)
    (hc : Calls Tryd.prog 24 #[.slice a n cap] w fun e w' => ∃ ty p, e = .returned (.iface ty p) ∧ R ty p w') :
    Calls Tryd.prog 20 #[.slice a n cap, .int .i64 t] w fun e w' => ∃ ty p, e = .returned (.tuple #[.int .i64 0, .iface ty p]) ∧ R ty p w' := by
  have HC : Hid (Calls Tryd.prog 24 #[.slice a n cap] w fun e w' => ∃ ty p, e = .returned (.iface ty p) ∧ R ty p w') := hc
  clear hc
  go_enter Tryd.func20, Tryd.ntmps20
  go_wp2_with fail
  refine HC.out.mono ?_
  rintro e w1 ⟨ty, p, rfl, hR⟩
  have HR : Hid (R ty p w1) := hR
  clear hR
  go_wp2_with fail
  go_ret2
  exact ⟨ty, p, rfl, HR.out⟩

set_option maxHeartbeats 400000 in
theorem at_time (a : Option Addr) (cap : Nat) (ls : List (Int × Int)) (t : Int) (w : World) (aB : Addr) (hB : w.cell? ⟨1, 0, none⟩ = some (.iface 98 (.pointer (some aB)))) (hl : Lies w a ls) (h : okCurve ls) (ht : t < 0 ∨ 1099511627776 < t) :
    Calls Tryd.prog 20 #[.slice a ls.length cap, .int .i64 t] w fun e w' => e = .returned (.tuple #[.int .i64 0, .iface 98 (.pointer (some aB))]) ∧ Below w.heap.size w w' := by
  have HL : Hid (Lies w a ls) := hl
  have HO : Hid (okCurve ls) := h
  have hlt := cell_lt hB
  clear hl h
  rcases ht with ht | ht
  · go_enter Tryd.func20, Tryd.ntmps20
    go_wp2_with fail
    refine (check_ok a cap ls _ HL.out HO.out).mono ?_
    rintro e w1 ⟨rfl, hb⟩
    have HB : Hid (Below w.heap.size w w1) := hb
    have hB1 : w1.cell? ⟨1, 0, none⟩ = some (.iface 98 (.pointer (some aB))) := by rw [hb.cell (p := ⟨1, 0, none⟩) hlt]; exact hB
    clear hb hB
    go_wp2_with fail
    go_quiet (fail)
    go_wp2_with fail
    go_ret2
    exact ⟨rfl, below_drewN HB.out _⟩
  · have ht' : ¬ t < 0 := by omega
    go_enter Tryd.func20, Tryd.ntmps20
    go_wp2_with fail
    refine (check_ok a cap ls _ HL.out HO.out).mono ?_
    rintro e w1 ⟨rfl, hb⟩
    have HB : Hid (Below w.heap.size w w1) := hb
    have hB1 : w1.cell? ⟨1, 0, none⟩ = some (.iface 98 (.pointer (some aB))) := by rw [hb.cell (p := ⟨1, 0, none⟩) hlt]; exact hB
    clear hb hB
    go_wp2_with fail
    go_quiet (fail)
    go_wp2_with fail
    go_ret2
    exact ⟨rfl, below_drewN HB.out _⟩

/-- Which line is the first that is none. -/
theorem firstBad (ls : List (Int × Int)) : okAll ls ∨ ∃ j, j < ls.length ∧ (∀ i x y, i < j → ls[i]? = some (x, y) → okLine x y = true) ∧ ∀ x y, ls[j]? = some (x, y) → okLine x y = false := by
  induction ls with
  | nil => exact .inl fun p hp => by cases hp
  | cons q r ih =>
    cases hq : okLine q.1 q.2 with
    | false => exact .inr ⟨0, by simp, fun i x y hi => by omega, fun x y h => by simp at h; subst h; exact hq⟩
    | true =>
      rcases ih with h | ⟨j, hj, h1, h2⟩
      · refine .inl fun p hp => ?_
        rcases List.mem_cons.1 hp with rfl | hp
        · exact hq
        · exact h p hp
      · refine .inr ⟨j + 1, by simpa using hj, fun i x y hi he => ?_, fun x y he => h2 x y (by simpa using he)⟩
        cases i with
        | zero => simp at he; subst he; exact hq
        | succ i => exact h1 i x y (by omega) (by simpa using he)

/-- The variables of package api that hold two errors. -/
structure Errs2 (w : World) (aB aS : Addr) : Prop where
  bound : w.cell? ⟨1, 0, none⟩ = some (.iface 98 (.pointer (some aB)))
  shape : w.cell? ⟨2, 0, none⟩ = some (.iface 98 (.pointer (some aS)))
theorem Errs2.below {w w' : World} {aB aS : Addr} (h : Errs2 w aB aS) (hb : Below w.heap.size w w') : Errs2 w' aB aS :=
  ⟨cell_later hb h.bound, cell_later hb h.shape⟩

/-- Check, whatever the lines: an error or none. -/
theorem check_any (a : Option Addr) (cap : Nat) (ls : List (Int × Int)) (w : World) (aB aS : Addr) (he : Errs2 w aB aS) (hl : Lies w a ls) (hcap : ls.length ≤ cap) (hm : cap ≤ maxLen) :
    (okCurve ls ∧ Calls Tryd.prog 24 #[.slice a ls.length cap] w fun e w' => e = .returned .nilIface ∧ Below w.heap.size w w') ∨
    (¬ okCurve ls ∧ Calls Tryd.prog 24 #[.slice a ls.length cap] w fun e w' => ∃ ty p, e = .returned (.iface ty p) ∧ Below w.heap.size w w') := by
  by_cases hs : ls.length < 1 ∨ 6 < ls.length
  · refine .inr ⟨fun h => by have := h.1; have := h.2.1; omega, (check_shape a ls.length cap w _ he.shape (Nat.le_trans hcap hm) hs).mono ?_⟩
    rintro e w' ⟨rfl, rfl⟩
    exact ⟨_, _, rfl, Below.refl _ _⟩
  · rcases firstBad ls with h | ⟨j, hj, h1, h2⟩
    · have hk : okCurve ls := ⟨by omega, by omega, h⟩
      exact .inl ⟨hk, check_ok a cap ls w hl hk⟩
    · refine .inr ⟨fun h => ?_, (check_bad a cap ls w aB he.bound hl (by omega) (by omega) j hj h1 h2).mono ?_⟩
      · have := h.2.2 _ (List.getElem_mem hj)
        rw [h2 _ _ (by rw [List.getElem?_eq_getElem hj])] at this
        cases this
      · rintro e w' ⟨hb, B, rfl, -⟩
        exact ⟨_, _, rfl, hb⟩

/-- At, whatever the lines and the tick: an error or none. -/
theorem at_any (a : Option Addr) (cap : Nat) (ls : List (Int × Int)) (t : Int) (w : World) (aB aS : Addr) (he : Errs2 w aB aS) (hl : Lies w a ls) (hcap : ls.length ≤ cap) (hm : cap ≤ maxLen) :
    (okCurve ls ∧ 0 ≤ t ∧ t ≤ 1099511627776 ∧ Calls Tryd.prog 20 #[.slice a ls.length cap, .int .i64 t] w fun e w' => e = .returned (.tuple #[.int .i64 (curveAt t ls), .nilIface]) ∧ Below w.heap.size w w') ∨
    (¬ (okCurve ls ∧ 0 ≤ t ∧ t ≤ 1099511627776) ∧ Calls Tryd.prog 20 #[.slice a ls.length cap, .int .i64 t] w fun e w' => ∃ ty p, e = .returned (.tuple #[.int .i64 0, .iface ty p]) ∧ Below w.heap.size w w') := by
  rcases check_any a cap ls w aB aS he hl hcap hm with ⟨hk, -⟩ | ⟨hk, hc⟩
  · by_cases ht : 0 ≤ t ∧ t ≤ 1099511627776
    · exact .inl ⟨hk, ht.1, ht.2, at_ok a cap ls t w hl hk hcap hm ht.1 ht.2⟩
    · refine .inr ⟨fun h => ht h.2, (at_time a cap ls t w aB he.bound hl hk (by omega)).mono ?_⟩
      rintro e w' ⟨rfl, hb⟩
      exact ⟨_, _, rfl, hb⟩
  · exact .inr ⟨fun h => hk h.1, at_err (R := fun _ _ w' => Below w.heap.size w w') a ls.length cap t w hc⟩

set_option maxHeartbeats 400000 in
theorem lineError_yes (x y : Int) (w : World) (h : okLine x y = true) :
    Calls Tryd.prog 36 #[.agg #[.int .i64 x, .int .i64 y]] w fun e w' => e = .returned (.int .i64 0) ∧ w' = w.alloc (.cells #[.int .i64 x, .int .i64 y] 54) := by
  obtain ⟨h1, h2, h3, h4⟩ := okLine_true h
  clear h
  go_enter Tryd.func36, Tryd.ntmps36
  go_wp2
  go_ret
  exact ⟨rfl, rfl⟩
set_option maxHeartbeats 400000 in
theorem lineError_no (x y : Int) (w : World) (h : okLine x y = false) :
    Calls Tryd.prog 36 #[.agg #[.int .i64 x, .int .i64 y]] w fun e w' => e = .returned (.int .i64 2) ∧ w' = w.alloc (.cells #[.int .i64 x, .int .i64 y] 54) := by
  have h' : ¬ (1 ≤ x ∧ x ≤ 20000 ∧ 0 ≤ y ∧ y ≤ 100000) := of_decide_eq_false h
  clear h
  by_cases h1 : 1 ≤ x
  · by_cases h2 : x ≤ 20000
    · by_cases h3 : 0 ≤ y
      · have h4 : ¬ y ≤ 100000 := fun h4 => h' ⟨h1, h2, h3, h4⟩
        clear h'
        go_enter Tryd.func36, Tryd.ntmps36
        go_wp2
        go_ret
        exact ⟨rfl, rfl⟩
      · clear h'
        go_enter Tryd.func36, Tryd.ntmps36
        go_wp2
        go_ret
        exact ⟨rfl, rfl⟩
    · clear h'
      go_enter Tryd.func36, Tryd.ntmps36
      go_wp2
      go_ret
      exact ⟨rfl, rfl⟩
  · clear h'
    go_enter Tryd.func36, Tryd.ntmps36
    go_wp2
    go_ret
    exact ⟨rfl, rfl⟩
end Go.Proofs.YtlknljbceppedaaDoor

/- Walks: the closed fact of the curve laws. -/
namespace Go.Proofs.YtlknljbceppedaaDoor
open Go.RowKit

theorem lies_new (w : World) (x y : Int) : Lies (w.alloc (.cells #[.int .i64 x, .int .i64 y] 54)) (some ⟨w.heap.size, 0, none⟩) [(x, y)] := by
  refine .inr ⟨_, _, rfl, by simp, fun i x' y' hi => ?_⟩
  cases i with
  | zero => simp at hi; obtain ⟨rfl, rfl⟩ := hi; exact ⟨by simp, by simp⟩
  | succ i => simp at hi

set_option maxHeartbeats 400000 in
theorem drawn_any (w : World) :
    Calls Tryd.prog 19 #[] w fun e w' => e = .returned (.bool true) ∧ Below w.heap.size w w' := by
  have k1 : okCurve [(5, 500)] := ⟨by decide, by decide, fun p hp => by simp at hp; subst hp; rfl⟩
  have k2 : okCurve [(1, 0)] := ⟨by decide, by decide, fun p hp => by simp at hp; subst hp; rfl⟩
  have K1 : Hid (okCurve [(5, 500)]) := k1
  have K2 : Hid (okCurve [(1, 0)]) := k2
  clear k1 k2
  go_enter Tryd.func19, Tryd.ntmps19
  go_wp2_with fail
  refine (at_ok _ 1 [(5, 500)] 3 _ (lies_new w 5 500) K1.out (by decide) (by decide) (by decide) (by decide)).mono ?_
  rintro e w1 ⟨rfl, hb⟩
  have hv : curveAt 3 [(5, 500)] = 6 := by decide
  rw [hv]
  have HB : Hid (Below (w.alloc (.cells #[.int .i64 5, .int .i64 500] 54)).heap.size (w.alloc (.cells #[.int .i64 5, .int .i64 500] 54)) w1) := hb
  clear hb hv
  go_wp2_with fail
  refine (check_ok _ 1 [(1, 0)] _ (lies_new w1 1 0) K2.out).mono ?_
  rintro e w2 ⟨rfl, hb2⟩
  have HB2 : Hid (Below (w1.alloc (.cells #[.int .i64 1, .int .i64 0] 54)).heap.size (w1.alloc (.cells #[.int .i64 1, .int .i64 0] 54)) w2) := hb2
  clear hb2
  go_wp2_with fail
  go_ret
  refine ⟨rfl, ?_⟩
  have h1 : Below w.heap.size w w1 := ((Below.refl _ _).alloc (Nat.le_refl _) _).trans (HB.out.mono (by simp))
  exact (h1.alloc h1.size _).trans (HB2.out.mono (by have := h1.size; simp; omega))

/-- The copy, made in a later world than the one of which the lines' place is known. -/
theorem ownLines_from (a : Option Addr) (cap : Nat) (ls : List (Int × Int)) (w0 w : World) (hB : Below w0.heap.size w0 w) (hl : Lies w0 a ls) (hn : ls.length ≤ 1000) (ha : a = none → ls = [] ∧ cap = 0) :
    Calls Tryd.prog 21 #[.slice a ls.length cap] w fun e w' => ∃ v, e = .returned v ∧ OwnL w' w0.heap.size v ls ∧ Below w.heap.size w w' ∧ Below w0.heap.size w0 w' := by
  refine (ownLines_any a cap ls w (hl.below hB) hn ha).mono ?_
  rintro e w' ⟨v, rfl, ho, hb⟩
  exact ⟨v, rfl, ownsRow_mono ho hB.size, hb, hB.trans (hb.mono hB.size)⟩
theorem OwnL.lies {w : World} {B : Nat} {a : Option Addr} {n cap : Nat} {ls : List (Int × Int)} (h : OwnL w B (.slice a n cap) ls) : n = ls.length ∧ ls.length ≤ cap ∧ cap ≤ maxLen ∧ Lies w a ls := by
  obtain ⟨a', cap', e, h1, h2, h3⟩ := h.open
  injection e with e1 e2 e3
  subst e1 e2 e3
  exact ⟨rfl, h1, h2, h3⟩
theorem at_ok_own (v : Value) (ls : List (Int × Int)) (t : Int) (w : World) (B : Nat) (a : Option Addr) (n cap : Nat) (ho : OwnL w B (.slice a n cap) ls) (hk : okCurve ls) (t0 : 0 ≤ t) (t1 : t ≤ 1099511627776) (hv : v = .slice a n cap) :
    Calls Tryd.prog 20 #[v, .int .i64 t] w fun e w' => e = .returned (.tuple #[.int .i64 (curveAt t ls), .nilIface]) ∧ Below w.heap.size w w' := by
  subst hv
  obtain ⟨rfl, h1, h2, h3⟩ := ho.lies
  exact at_ok a cap ls t w h3 hk h1 h2 t0 t1
end Go.Proofs.YtlknljbceppedaaDoor
