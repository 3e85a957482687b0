/- Own facts, put together: no statement of its own. -/
import Derived.Test.YtfonpoijfkapcaaGreatDoorA04
import Derived.Deep.LoopGhost
import Derived.Test.YtfonpoijfkapcaaGreatDoorA15
import Derived.WalkKit
import Derived.WalkSpells
import Derived.WalkLawsBesides
import Derived.BigQuiet
import Derived.Test.YtfonpoijfkapcaaGreatDoorA01
import Derived.Test.YtfonpoijfkapcaaGreatDoorA07
namespace Go.Proofs.YtfonpoijfkapcaaGreatDoor
section
variable (per : Int) (ps : List Pk) (out : List Sn) (x : Sn)
def IdlesAt : Prop := lastFin out < x.beg ∧ ∃ i, i < ps.length ∧ isDone out i = false ∧ tickOf ps i < x.beg
def OutOfTurn (k : Nat) : Prop := ∃ i, i < k ∧ isDone out i = false ∧ flowOf ps i = flowOf ps k
def SentIs (c : Int) : Prop :=
 (c = 4 ∧ (x.num < 0 ∨ (ps.length : Int) ≤ x.num)) ∨ ∃ k : Nat, x.num = k ∧ k < ps.length ∧ ((c = 4 ∧ isDone out k = true) ∨ (isDone out k = false ∧
  ((c = 5 ∧ (x.beg < tickOf ps k ∨ x.beg < lastFin out)) ∨ (tickOf ps k ≤ x.beg ∧ lastFin out ≤ x.beg ∧
   ((c = 3 ∧ x.fin - x.beg ≠ per * bytesOf ps k) ∨ (x.fin - x.beg = per * bytesOf ps k ∧
    ((c = 7 ∧ IdlesAt ps out x) ∨ (¬ IdlesAt ps out x ∧ ((c = 8 ∧ OutOfTurn ps out k) ∨ (c = 0 ∧ ¬ OutOfTurn ps out k))))))))))
variable {per ps out x}
theorem SentIs.range {c : Int} (h : SentIs per ps out x c) : 0 ≤ c ∧ c ≤ 8 := by
 rcases h with ⟨h, -⟩ | ⟨k, -, -, ⟨h, -⟩ | ⟨-, ⟨h, -⟩ | ⟨-, -, ⟨h, -⟩ | ⟨-, ⟨h, -⟩ | ⟨-, ⟨h, -⟩ | ⟨h, -⟩⟩⟩⟩⟩⟩ <;> omega
end
end Go.Proofs.YtfonpoijfkapcaaGreatDoor

namespace Go.Proofs.YtfonpoijfkapcaaGreatDoor
open Go.RowKit
structure NumsOk (lo hi : Int) (ns : List Int) : Prop where
 len : ns.length = 8
 each : ∀ (i : Nat) x, ns[i]? = some x → lo ≤ x ∧ x ≤ hi
def NumBad (lo hi : Int) (ns : List Int) (j : Nat) : Prop := ns.length = 8 ∧ (∃ x, ns[j]? = some x ∧ ¬ (lo ≤ x ∧ x ≤ hi)) ∧ ∀ (i : Nat) y, i < j → ns[i]? = some y → lo ≤ y ∧ y ≤ hi
def NumsFault (lo hi : Int) (ns : List Int) (c : Nat) : Prop := (c = 3 ∧ ns.length ≠ 8) ∨ (c = 2 ∧ ∃ j, NumBad lo hi ns j) ∨ (c = 0 ∧ NumsOk lo hi ns)
theorem numsFault_is (lo hi : Int) (ns : List Int) : ∃ c, NumsFault lo hi ns c := by
 by_cases hl : ns.length = 8
 ·
  have key : ∀ k, k ≤ ns.length → (∀ (i : Nat) y, i < k → ns[i]? = some y → lo ≤ y ∧ y ≤ hi) ∨ ∃ j, NumBad lo hi ns j := by
   intro k
   induction k with
   | zero => intro _; exact .inl fun i y h => by omega
   | succ k ih =>
    intro hk
    rcases ih (by omega) with h | h
    ·
     obtain ⟨x, hx, -⟩ := get_some ns k (by omega)
     by_cases hb : lo ≤ x ∧ x ≤ hi
     ·
      refine .inl fun i y hi' hy => ?_
      rcases Nat.lt_or_ge i k with h' | h'
      · exact h i y h' hy
      ·
       obtain rfl : i = k := by omega
       obtain rfl := Option.some.inj (hx.symm.trans hy)
       exact hb
     · exact .inr ⟨k, hl, ⟨x, hx, hb⟩, h⟩
    · exact .inr h
  rcases key ns.length (Nat.le_refl _) with h | h
  ·
   exact ⟨0, .inr (.inr ⟨rfl, hl, fun i x hx => h i x (by
    rcases Nat.lt_or_ge i ns.length with h' | h'
    · exact h'
    · simp [List.getElem?_eq_none h'] at hx) hx⟩)⟩
  · exact ⟨2, .inr (.inl ⟨rfl, h⟩)⟩
 · exact ⟨3, .inl ⟨rfl, hl⟩⟩
end Go.Proofs.YtfonpoijfkapcaaGreatDoor

namespace Go.Proofs.YtfonpoijfkapcaaGreatDoor
def isWt (x : Int) : Prop := 1 ≤ x ∧ 12 % x = 0
theorem isWt_le {x : Int} (h : isWt x) : x ≤ 12 := Int.le_of_dvd (by decide) (Int.dvd_of_emod_eq_zero h.2)
structure WtsAll (ns : List Int) : Prop where
 len : ns.length = 8
 each : ∀ (i : Nat) x, ns[i]? = some x → isWt x
def WtBad (ns : List Int) (j : Nat) : Prop := ns.length = 8 ∧ (∃ x, ns[j]? = some x ∧ ¬ isWt x) ∧ ∀ (i : Nat) y, i < j → ns[i]? = some y → isWt y
def WtsFault (ns : List Int) (c : Nat) : Prop := (c = 3 ∧ ns.length ≠ 8) ∨ (c = 2 ∧ ∃ j, WtBad ns j) ∨ (c = 0 ∧ WtsAll ns)
theorem wtsFault_is (ns : List Int) : ∃ c, WtsFault ns c := by
 by_cases hl : ns.length = 8
 ·
  have key : ∀ k, k ≤ ns.length → (∀ (i : Nat) y, i < k → ns[i]? = some y → isWt y) ∨ ∃ j, WtBad ns j := by
   intro k
   induction k with
   | zero => intro _; exact .inl fun i y h => by omega
   | succ k ih =>
    intro hk
    rcases ih (by omega) with h | h
    ·
     obtain ⟨x, hx, -⟩ := get_some ns k (by omega)
     by_cases hb : isWt x
     ·
      refine .inl fun i y hi' hy => ?_
      rcases Nat.lt_or_ge i k with h' | h'
      · exact h i y h' hy
      ·
       obtain rfl : i = k := by omega
       obtain rfl := Option.some.inj (hx.symm.trans hy)
       exact hb
     · exact .inr ⟨k, hl, ⟨x, hx, hb⟩, h⟩
    · exact .inr h
  rcases key ns.length (Nat.le_refl _) with h | h
  · exact ⟨0, .inr (.inr ⟨rfl, hl, fun i x hx => h i x (lt_of_get hx) hx⟩)⟩
  · exact ⟨2, .inr (.inl ⟨rfl, h⟩)⟩
 · exact ⟨3, .inl ⟨rfl, hl⟩⟩
theorem WtsAll.ok {ns : List Int} (h : WtsAll ns) : WtsOk ns := fun f => by
 cases hf : ns[f]? with
 | some x =>
  rw [quOf_get hf]
  have := h.each f x hf
  exact ⟨this.1, Int.ediv_mul_cancel (Int.dvd_of_emod_eq_zero this.2)⟩
 | none =>
  have : quOf ns f = 1 := by simp [quOf, hf]
  rw [this]
  exact ⟨Int.le_refl _, by decide⟩
theorem inc_tdiv {x z : Int} (h : isWt x) (hz : 0 ≤ z) : (z * 12).tdiv x = z * (12 / x) := by
 have hd := Int.dvd_of_emod_eq_zero h.2
 rw [Int.tdiv_eq_ediv_of_nonneg (by omega), Int.mul_ediv_assoc _ hd]
theorem erase_filter : ∀ (q : List Nat) (i : Nat), q.Nodup → i < q.length → q.eraseIdx i = q.filter fun j => j != q.getD i 0
 | [], i, _, h => absurd h (Nat.not_lt_zero _)
 | a :: q, 0, hn, _ => by
  obtain ⟨h1, -⟩ := List.nodup_cons.1 hn
  have e : (a :: q).getD 0 0 = a := rfl
  rw [e, List.filter_cons, if_neg (by simp)]
  refine (List.filter_eq_self.2 fun j hj => ?_).symm
  have : j ≠ a := fun e => h1 (by rw [← e]; exact hj)
  simp [this]
 | a :: q, i + 1, hn, h => by
  obtain ⟨h1, h2⟩ := List.nodup_cons.1 hn
  have hi : i < q.length := by simpa using h
  have e : (a :: q).getD (i + 1) 0 = q.getD i 0 := by simp [List.getD]
  have hne : a ≠ q.getD i 0 := fun e' => h1 (by rw [e', getD_lt hi]; exact List.getElem_mem hi)
  rw [e, List.filter_cons, if_pos (bne_iff_ne.2 hne), ← erase_filter q i h2 hi]
  rfl
end Go.Proofs.YtfonpoijfkapcaaGreatDoor

namespace Go.Proofs.YtfonpoijfkapcaaGreatDoor
open Go.RowKit
set_option maxHeartbeats 400000 in
theorem isLine_yes (x y : Int) (w : World) (h : okLine x y = true) :
  Calls Tryz.prog 54 #[.agg #[.int .i64 x, .int .i64 y]] w fun e w' => e = .returned (.bool true) ∧ w' = w.alloc (.cells #[.int .i64 x, .int .i64 y] 99) := by
 obtain ⟨h1, h2, h3, h4⟩ := okLine_true h
 clear h
 go_enter Tryz.func54, Tryz.ntmps54
 go_wp2
 go_ret
 exact ⟨rfl, rfl⟩
set_option maxHeartbeats 400000 in
theorem isLine_no (x y : Int) (w : World) (h : okLine x y = false) :
  Calls Tryz.prog 54 #[.agg #[.int .i64 x, .int .i64 y]] w fun e w' => e = .returned (.bool false) ∧ w' = w.alloc (.cells #[.int .i64 x, .int .i64 y] 99) := by
 have h' : ¬ (1 ≤ x ∧ x ≤ 20000 ∧ 0 ≤ y ∧ y ≤ 100000) := of_decide_eq_false h
 clear h
 by_cases h1 : 1 ≤ x
 ·
  by_cases h2 : x ≤ 20000
  ·
   by_cases h3 : 0 ≤ y
   ·
    have h4 : ¬ y ≤ 100000 := fun h4 => h' ⟨h1, h2, h3, h4⟩
    clear h'
    go_enter Tryz.func54, Tryz.ntmps54
    go_wp2
    go_ret
    exact ⟨rfl, rfl⟩
   ·
    clear h'
    go_enter Tryz.func54, Tryz.ntmps54
    go_wp2
    go_ret
    exact ⟨rfl, rfl⟩
  ·
   clear h'
   go_enter Tryz.func54, Tryz.ntmps54
   go_wp2
   go_ret
   exact ⟨rfl, rfl⟩
 ·
  clear h'
  go_enter Tryz.func54, Tryz.ntmps54
  go_wp2
  go_ret
  exact ⟨rfl, rfl⟩
end Go.Proofs.YtfonpoijfkapcaaGreatDoor

namespace Go.Proofs.YtfonpoijfkapcaaGreatDoor
open Go.RowKit
def Lies (w : World) (a : Option Addr) (ls : List (Int × Int)) : Prop :=
 ls = [] ∨ ∃ b off, a = some ⟨b, off, none⟩ ∧ b < w.heap.size ∧ ∀ i x y, ls[i]? = some (x, y) → w.cell? ⟨b, off + i * 2, none⟩ = some (.int .i64 x) ∧ w.cell? ⟨b, off + i * 2 + 1, none⟩ = some (.int .i64 y)
theorem Lies.some {w : World} {a : Option Addr} {ls : List (Int × Int)} (h : Lies w a ls) (h1 : 1 ≤ ls.length) :
  ∃ b off, a = some ⟨b, off, none⟩ ∧ b < w.heap.size ∧ ∀ i x y, ls[i]? = some (x, y) → w.cell? ⟨b, off + i * 2, none⟩ = some (.int .i64 x) ∧ w.cell? ⟨b, off + i * 2 + 1, none⟩ = some (.int .i64 y) := by
 rcases h with rfl | h
 · simp at h1
 · exact h
theorem Lies.below {w w' : World} {a : Option Addr} {ls : List (Int × Int)} (h : Lies w a ls) (hb : Below w.heap.size w w') : Lies w' a ls := by
 rcases h with rfl | ⟨b, off, rfl, hlt, hc⟩
 · exact .inl rfl
 ·
  refine .inr ⟨b, off, rfl, Nat.lt_of_lt_of_le hlt hb.size, fun i x y hi => ?_⟩
  have := hc i x y hi
  exact ⟨by rw [hb.cell (p := ⟨b, off + i * 2, none⟩) hlt]; exact this.1, by rw [hb.cell (p := ⟨b, off + i * 2 + 1, none⟩) hlt]; exact this.2⟩
set_option maxHeartbeats 400000 in
theorem check_ok (a : Option Addr) (cap : Nat) (ls : List (Int × Int)) (w : World) (hl : Lies w a ls) (h : okCurve ls) :
  Calls Tryz.prog 31 #[.slice a ls.length cap] w fun e w' => e = .returned .nilIface ∧ Below w.heap.size w w' := by
 obtain ⟨h1, h6, hok⟩ := h
 obtain ⟨b, off, rfl, hlt, hc⟩ := hl.some h1
 clear hl
 generalize hn : ls.length = n at *
 have Hn := (show Hid (ls.length = n) from hn)
 clear hn
 go_enter Tryz.func31, Tryz.ntmps31
 go_wp2
 go_loopw [16] (fun i wr => ∃ k : Nat, k ≤ n ∧ i = .int .i64 k ∧ Below w.heap.size w wr) (fun i _ => n - (intOf i).toNat)
 case atStart => exact ⟨0, Nat.zero_le _, rfl, Below.refl _ _⟩
 case round =>
  obtain ⟨k, hk, rfl, hb⟩ := hrel
  by_cases hkn : k < n
  ·
   obtain ⟨⟨x, y⟩, hp, hm⟩ := get_some ls k (by rw [Hn.out]; exact hkn)
   have hc1 : wr.cell? ⟨b, off + k * 2, none⟩ = some (.int .i64 x) := by rw [hb.cell (p := ⟨b, off + k * 2, none⟩) hlt]; exact (hc k x y hp).1
   have hc2 : wr.cell? ⟨b, off + k * 2 + 1, none⟩ = some (.int .i64 y) := by rw [hb.cell (p := ⟨b, off + k * 2 + 1, none⟩) hlt]; exact (hc k x y hp).2
   have hxy := hok _ hm
   clear hc hok hp hm
   have Hxy := (show Hid (okLine x y = true) from hxy)
   clear hxy
   go_wp2_with (go_at_call 54; refine (isLine_yes x y _ Hxy.out).mono ?_; rintro e w' ⟨rfl, rfl⟩)
   have hs := hb.size
   go_roundw
   case rel => exact ⟨k + 1, by omega, by go_num, (hb.alloc hs _).alloc (by simp; omega) _⟩
   case measure => simp [intOf]; omega
  ·
   go_wp2
   go_ret
   exact ⟨rfl, hb⟩
set_option maxHeartbeats 400000 in
theorem check_shape (a : Option Addr) (n cap : Nat) (w : World) (vS : Value) (hS : w.cell? ⟨4, 0, none⟩ = some vS) (hm : n ≤ maxLen) (h : n < 1 ∨ 6 < n) :
  Calls Tryz.prog 31 #[.slice a n cap] w fun e w' => e = .returned vS ∧ w' = w := by
 unfold maxLen at hm
 rcases h with h | h
 ·
  obtain rfl : n = 0 := by omega
  go_enter Tryz.func31, Tryz.ntmps31
  go_wp2
  go_ret
  exact ⟨rfl, rfl⟩
 ·
  have h1 : ¬ n < 1 := by omega
  go_enter Tryz.func31, Tryz.ntmps31
  go_wp2
  go_ret
  exact ⟨rfl, rfl⟩
set_option maxHeartbeats 400000 in
theorem check_bad (a : Option Addr) (cap : Nat) (ls : List (Int × Int)) (w : World) (aB : Addr) (hB : w.cell? ⟨1, 0, none⟩ = some (.iface 164 (.pointer (some aB)))) (hl : Lies w a ls) (h1 : 1 ≤ ls.length) (h6 : ls.length ≤ 6)
  (j : Nat) (hj : j < ls.length) (hok : ∀ i x y, i < j → ls[i]? = some (x, y) → okLine x y = true) (hbad : ∀ x y, ls[j]? = some (x, y) → okLine x y = false) :
  Calls Tryz.prog 31 #[.slice a ls.length cap] w fun e w' => Below w.heap.size w w' ∧ ∃ B, e = .returned (.iface 65 (.pointer (some ⟨B, 0, none⟩))) ∧ w.heap.size ≤ B ∧ B < w'.heap.size ∧ w'.cell? ⟨B, 0, none⟩ = some (.int .i64 j) ∧ w'.cell? ⟨B, 1, none⟩ = some (.iface 164 (.pointer (some aB))) := by
 obtain ⟨b, off, rfl, hlt, hc⟩ := hl.some h1
 clear hl
 generalize hn : ls.length = n at *
 have Hn := (show Hid (ls.length = n) from hn)
 clear hn
 go_enter Tryz.func31, Tryz.ntmps31
 go_wp2
 go_loopw [16] (fun i wr => ∃ k : Nat, k ≤ j ∧ i = .int .i64 k ∧ Below w.heap.size w wr) (fun i _ => n - (intOf i).toNat)
 case atStart => exact ⟨0, Nat.zero_le _, rfl, Below.refl _ _⟩
 case round =>
  obtain ⟨k, hk, rfl, hb⟩ := hrel
  have hs := hb.size
  have hkn : k < n := by omega
  obtain ⟨⟨x, y⟩, hp, hm⟩ := get_some ls k (by rw [Hn.out]; exact hkn)
  have hc1 : wr.cell? ⟨b, off + k * 2, none⟩ = some (.int .i64 x) := by rw [hb.cell (p := ⟨b, off + k * 2, none⟩) hlt]; exact (hc k x y hp).1
  have hc2 : wr.cell? ⟨b, off + k * 2 + 1, none⟩ = some (.int .i64 y) := by rw [hb.cell (p := ⟨b, off + k * 2 + 1, none⟩) hlt]; exact (hc k x y hp).2
  have hgs : 1 < w.heap.size := by
   rcases Nat.lt_or_ge 1 w.heap.size with h | h
   · exact h
   · simp [World.cell?, Array.getElem?_eq_none h] at hB
  have hB2 : wr.cell? ⟨1, 0, none⟩ = some (.iface 164 (.pointer (some aB))) := by rw [hb.cell (p := ⟨1, 0, none⟩) hgs]; exact hB
  by_cases hkj : k < j
  ·
   have Hxy := (show Hid (okLine x y = true) from hok k x y hkj hp)
   clear hc hok hp hm hbad hB hB2
   go_wp2_with (go_at_call 54; refine (isLine_yes x y _ Hxy.out).mono ?_; rintro e w' ⟨rfl, rfl⟩)
   go_roundw
   case rel => exact ⟨k + 1, by omega, by go_num, (hb.alloc hs _).alloc (by simp; omega) _⟩
   case measure => simp [intOf]; omega
  ·
   obtain rfl : k = j := by omega
   have Hxy := (show Hid (okLine x y = false) from hbad x y hp)
   clear hc hok hp hm hbad hB
   have hB3 : ((wr.alloc (.cells #[.int .i64 x, .int .i64 y] 99)).alloc (.cells #[.int .i64 x, .int .i64 y] 99)).cell? ⟨1, 0, none⟩ = some (.iface 164 (.pointer (some aB))) := by
    rw [World.cell?_alloc_lt _ _ ⟨1, 0, none⟩ (Nat.lt_of_lt_of_le hgs (by simp; omega)), World.cell?_alloc_lt _ _ ⟨1, 0, none⟩ (Nat.lt_of_lt_of_le hgs hs)]; exact hB2
   go_wp2_with (go_at_call 54; refine (isLine_no x y _ Hxy.out).mono ?_; rintro e w' ⟨rfl, rfl⟩)
   go_ret
   refine ⟨((hb.alloc hs _).alloc (by simp; omega) _).alloc (by simp; omega) _, _, rfl, ?_, ?_, ?_, ?_⟩
   · omega
   · simp
   · rw [World.cell?_alloc_at _ _ _ _ (by simp)]; rfl
   · rw [World.cell?_alloc_at _ _ _ _ (by simp)]; rfl
end Go.Proofs.YtfonpoijfkapcaaGreatDoor

namespace Go.Proofs.YtfonpoijfkapcaaGreatDoor
open Go.RowKit
def cellsL (ls : List (Int × Int)) : List Value := ls.flatMap fun p => [.int .i64 p.1, .int .i64 p.2]
theorem cellsL_cons (p : Int × Int) (r : List (Int × Int)) : cellsL (p :: r) = .int .i64 p.1 :: .int .i64 p.2 :: cellsL r := rfl
theorem cellsL_length (ls : List (Int × Int)) : (cellsL ls).length = ls.length * 2 := by
 induction ls with
 | nil => rfl
 | cons p r ih => rw [cellsL_cons]; simp [ih]; omega
theorem cellsL_get (ls : List (Int × Int)) : ∀ i x y, ls[i]? = some (x, y) → (cellsL ls)[i * 2]? = some (.int .i64 x) ∧ (cellsL ls)[i * 2 + 1]? = some (.int .i64 y) := by
 induction ls with
 | nil => intro i x y h; simp at h
 | cons p r ih =>
  intro i x y h
  rw [cellsL_cons]
  cases i with
  | zero => simp at h; subst h; exact ⟨rfl, rfl⟩
  | succ i =>
   have := ih i x y (by simpa using h)
   rw [show (i + 1) * 2 = i * 2 + 1 + 1 by omega]
   exact ⟨by simpa using this.1, by simpa using this.2⟩
theorem cellsL_at (ls : List (Int × Int)) : ∀ j u, (cellsL ls)[j]? = some u → ∃ i x y, ls[i]? = some (x, y) ∧ ((j = i * 2 ∧ u = .int .i64 x) ∨ (j = i * 2 + 1 ∧ u = .int .i64 y)) := by
 induction ls with
 | nil => intro j u h; simp [cellsL] at h
 | cons p r ih =>
  intro j u h
  rw [cellsL_cons] at h
  match j, h with
  | 0, h => exact ⟨0, p.1, p.2, rfl, .inl ⟨rfl, by simpa using h.symm⟩⟩
  | 1, h => exact ⟨0, p.1, p.2, rfl, .inr ⟨rfl, by simpa using h.symm⟩⟩
  | j + 2, h =>
   obtain ⟨i, x, y, hi, hj⟩ := ih j u (by simpa using h)
   exact ⟨i + 1, x, y, by simpa using hi, by rcases hj with ⟨e, f⟩ | ⟨e, f⟩; exact .inl ⟨by omega, f⟩; exact .inr ⟨by omega, f⟩⟩
theorem cellsL_one (ls : List (Int × Int)) : ∀ u ∈ cellsL ls, u.oneCell' = true := by
 intro u hu
 obtain ⟨j, hj⟩ := List.mem_iff_getElem?.1 hu
 obtain ⟨i, x, y, -, h⟩ := cellsL_at ls j u hj
 rcases h with ⟨-, rfl⟩ | ⟨-, rfl⟩ <;> rfl
def OwnL (w : World) (B : Nat) (v : Value) (ls : List (Int × Int)) : Prop := w.ownsRow B 99 2 v ls.length (cellsL ls)
theorem OwnL.open {w : World} {B : Nat} {v : Value} {ls : List (Int × Int)} (h : OwnL w B v ls) :
  ∃ a cap, v = .slice a ls.length cap ∧ ls.length ≤ cap ∧ cap ≤ maxLen ∧ Lies w a ls := by
 obtain ⟨hlen, ⟨rfl, h0⟩ | ⟨g, cap, cur, rfl, hB, hg, hn, hm, hc, ht⟩⟩ := h
 · refine ⟨none, 0, by rw [h0], by omega, by simp [maxLen], .inl (List.length_eq_zero_iff.1 h0)⟩
 ·
  refine ⟨_, cap, rfl, hn, hm, .inr ⟨g, 0, rfl, ?_, fun i x y hi => ?_⟩⟩
  ·
   rcases Nat.lt_or_ge g w.heap.size with h | h
   · exact h
   · simp [Array.getElem?_eq_none h] at hg
  ·
   have hh : w.ownsRow B 99 2 (.slice (some ⟨g, 0, none⟩) ls.length cap) ls.length (cellsL ls) := ⟨hlen, .inr ⟨g, cap, cur, rfl, hB, hg, hn, hm, hc, ht⟩⟩
   have hil : i < ls.length := by
    rcases Nat.lt_or_ge i ls.length with h | h
    · exact h
    · simp [List.getElem?_eq_none h] at hi
   have := cellsL_get ls i x y hi
   rw [hh.cellAt _ (by omega), hh.cellAt _ (by omega), Nat.zero_add]
   exact this
theorem lies_news {w : World} {ad : Addr} {ls : List (Int × Int)} (h : Lies w (some ad) ls) : ∀ j u, (cellsL ls)[j]? = some u → w.cell? (ad.add j) = some u := by
 intro j u hj
 obtain ⟨i, x, y, hi, hc⟩ := cellsL_at ls j u hj
 rcases h with rfl | ⟨b, off, e, -, h⟩
 · simp at hi
 ·
  cases e
  have := h i x y hi
  rw [Addr.add_lit]
  rcases hc with ⟨rfl, rfl⟩ | ⟨rfl, rfl⟩
  · exact this.1
  · exact this.2
theorem Tryz.infoLine : (Tryz.prog.info? 99).map (fun i => (i.zero, i.size, i.bytes)) = some (some (.agg #[.int .i64 0, .int .i64 0]), 2, 16) := by kernel_rfl
set_option maxHeartbeats 400000 in
theorem ownLines_any (a : Option Addr) (cap : Nat) (ls : List (Int × Int)) (w : World) (hl : Lies w a ls) (hn : ls.length ≤ 1000) (ha : a = none → ls = [] ∧ cap = 0) :
  Calls Tryz.prog 14 #[.slice a ls.length cap] w fun e w' => ∃ v, e = .returned v ∧ OwnL w' w.heap.size v ls ∧ Below w.heap.size w w' := by
 obtain ⟨i0, hi, hz0, hz1, hz2⟩ := info_parts Tryz.infoLine
 cases a with
 | none =>
  obtain ⟨rfl, rfl⟩ := ha rfl
  show Calls Tryz.prog 14 #[.slice none 0 0] w _
  go_enter Tryz.func14, Tryz.ntmps14
  go_wp2
  go_ret
  exact ⟨_, rfl, World.ownsRow_nil _ _ _ _, Below.refl _ _⟩
 | some ad =>
  have hnews := lies_news hl
  have hlen := cellsL_length ls
  have hone := cellsL_one ls
  have H1 : Hid (∀ j u, (cellsL ls)[j]? = some u → w.cell? (ad.add j) = some u) := hnews
  have H2 : Hid ((cellsL ls).length = ls.length * 2) := hlen
  have H3 : Hid (∀ u ∈ cellsL ls, u.oneCell' = true) := hone
  have HL : Hid (Lies w (some ad) ls) := hl
  clear hnews hlen hone hl ha
  go_enter Tryz.func14, Tryz.ntmps14
  go_wp2_with (at_builtin; refine wpList_append_own _ rfl _ _ 45 rfl w.heap.size 99 i0 (.agg #[.int .i64 0, .int .i64 0]) 2 16 Tryz.underlying45 hi hz0 hz1 hz2 rfl (by decide) (.slice none 0 0) 0 [] rfl (World.ownsRow_nil _ _ _ _) ad ls.length cap (cellsL ls) rfl H2.out H1.out H3.out (by unfold maxLen; omega) (by omega) (Nat.le_refl _) ?_; intro v' w3 hown' hgrow3 hnil3)
  go_ret
  refine ⟨_, rfl, by simpa [OwnL] using hown', ?_⟩
  exact (Below.refl _ _).grown hgrow3 (Nat.le_refl _) (fun k hk => by cases hk)
end Go.Proofs.YtfonpoijfkapcaaGreatDoor

namespace Go.Proofs.YtfonpoijfkapcaaGreatDoor
open Go.RowKit
theorem firstBad (ls : List (Int × Int)) : okAll ls ∨ ∃ j, j < ls.length ∧ (∀ i x y, i < j → ls[i]? = some (x, y) → okLine x y = true) ∧ ∀ x y, ls[j]? = some (x, y) → okLine x y = false := by
 induction ls with
 | nil => exact .inl fun p hp => by cases hp
 | cons q r ih =>
  cases hq : okLine q.1 q.2 with
  | false => exact .inr ⟨0, by simp, fun i x y hi => by omega, fun x y h => by simp at h; subst h; exact hq⟩
  | true =>
   rcases ih with h | ⟨j, hj, h1, h2⟩
   ·
    refine .inl fun p hp => ?_
    rcases List.mem_cons.1 hp with rfl | hp
    · exact hq
    · exact h p hp
   ·
    refine .inr ⟨j + 1, by simpa using hj, fun i x y hi he => ?_, fun x y he => h2 x y (by simpa using he)⟩
    cases i with
    | zero => simp at he; subst he; exact hq
    | succ i => exact h1 i x y (by omega) (by simpa using he)
structure Errs2 (w : World) (aB aS : Addr) : Prop where
 bound : w.cell? ⟨1, 0, none⟩ = some (.iface 164 (.pointer (some aB)))
 shape : w.cell? ⟨4, 0, none⟩ = some (.iface 164 (.pointer (some aS)))
theorem Errs2.below {w w' : World} {aB aS : Addr} (h : Errs2 w aB aS) (hb : Below w.heap.size w w') : Errs2 w' aB aS :=
 ⟨cell_later hb h.bound, cell_later hb h.shape⟩
end Go.Proofs.YtfonpoijfkapcaaGreatDoor

namespace Go.Proofs.YtfonpoijfkapcaaGreatDoor
open Go.RowKit
def FaultIs (ls : List (Int × Int)) (c a : Int) : Prop :=
 ((ls.length < 1 ∨ 6 < ls.length) ∧ c = 3 ∧ a = -1) ∨
 (1 ≤ ls.length ∧ ls.length ≤ 6 ∧ ∃ j : Nat, j < ls.length ∧ (∀ i x y, i < j → ls[i]? = some (x, y) → okLine x y = true) ∧ (∀ x y, ls[j]? = some (x, y) → okLine x y = false) ∧ c = 2 ∧ a = j) ∨
 (okCurve ls ∧ c = 0 ∧ a = -1)
theorem fault_is (ls : List (Int × Int)) : ∃ c a, FaultIs ls c a := by
 by_cases hs : ls.length < 1 ∨ 6 < ls.length
 · exact ⟨3, -1, .inl ⟨hs, rfl, rfl⟩⟩
 ·
  rcases firstBad ls with h | ⟨j, hj, h1, h2⟩
  · exact ⟨0, -1, .inr (.inr ⟨⟨by omega, by omega, h⟩, rfl, rfl⟩)⟩
  · exact ⟨2, j, .inr (.inl ⟨by omega, by omega, j, hj, h1, h2, rfl, rfl⟩)⟩
theorem FaultIs.ok {ls : List (Int × Int)} {a : Int} (h : FaultIs ls 0 a) : okCurve ls ∧ a = -1 := by
 rcases h with ⟨_, h, _⟩ | ⟨_, _, _, _, _, _, h, _⟩ | ⟨h, _, h'⟩
 · omega
 · omega
 · exact ⟨h, h'⟩
theorem FaultIs.num {ls : List (Int × Int)} {c a : Int} (h : FaultIs ls c a) : c = 0 ∨ c = 2 ∨ c = 3 := by
 rcases h with ⟨_, h, _⟩ | ⟨_, _, _, _, _, _, h, _⟩ | ⟨_, h, _⟩ <;> omega
end Go.Proofs.YtfonpoijfkapcaaGreatDoor
