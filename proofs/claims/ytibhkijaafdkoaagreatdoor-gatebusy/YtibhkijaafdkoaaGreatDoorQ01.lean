/- Own facts, put together: no statement of its own. -/
import Derived.Below
import Derived.Test.YtibhkijaafdkoaaGreatDoorRows
import Derived.WalkKit
import Derived.WalkSpells
import Derived.WalkLawsBesides
import Derived.BigQuiet
import Derived.Test.YtibhkijaafdkoaaGreatDoorChecked
import Derived.LaidEql
import Derived.Stop.Asserts
import Derived.RowKitTokens
namespace Go.Proofs.YtibhkijaafdkoaaGreatDoor
open Go.RowKit
structure But (S : Nat → Prop) (w w' : World) : Prop where
 os : w'.os = w.os
 tape : w'.tape = w.tape
 output : w'.output = w.output
 size : w.heap.size ≤ w'.heap.size
 block : ∀ k, k < w.heap.size → ¬ S k → w'.heap[k]? = w.heap[k]?
theorem But.refl (S : Nat → Prop) (w : World) : But S w w := ⟨rfl, rfl, rfl, Nat.le_refl _, fun _ _ _ => rfl⟩
theorem But.trans {S : Nat → Prop} {a b c : World} (h : But S a b) (k : But S b c) : But S a c :=
 ⟨k.os.trans h.os, k.tape.trans h.tape, k.output.trans h.output, Nat.le_trans h.size k.size, fun i hi hs => (k.block i (Nat.lt_of_lt_of_le hi h.size) hs).trans (h.block i hi hs)⟩
theorem But.mono {S S' : Nat → Prop} {w w' : World} (h : But S w w') (hS : ∀ k, S k → S' k) : But S' w w' := ⟨h.os, h.tape, h.output, h.size, fun k hk hs => h.block k hk fun h' => hs (hS k h')⟩
theorem But.ofBelow {S : Nat → Prop} {w w' : World} (h : Below w.heap.size w w') : But S w w' := ⟨h.os, h.tape, h.output, h.size, fun k hk _ => h.block k hk⟩
theorem But.below {S : Nat → Prop} {B : Nat} {w w' : World} (h : But S w w') (hB : B ≤ w.heap.size) (hS : ∀ k, S k → B ≤ k) : Below B w w' :=
 ⟨h.os, h.tape, h.output, h.size, fun k hk => h.block k (Nat.lt_of_lt_of_le hk hB) fun h' => by have := hS k h'; omega⟩
theorem But.alloc {S : Nat → Prop} {a w : World} (h : But S a w) (o : Obj) : But S a (w.alloc o) := h.trans (.ofBelow ((Below.refl _ _).alloc (Nat.le_refl _) o))
theorem But.drew {S : Nat → Prop} {a w : World} (h : But S a w) : But S a w.drew := ⟨h.os, h.tape, h.output, h.size, h.block⟩
theorem But.setCell {S : Nat → Prop} {a w : World} (h : But S a w) {p : Addr} (hp : S p.block) (u : Value) : But S a (w.setCell p u) :=
 h.trans ⟨rfl, rfl, rfl, by simp [World.setCell], fun k _ hs => Below.heap_setCell _ _ _ _ fun e => hs (by rw [e]; exact hp)⟩
theorem But.cell {S : Nat → Prop} {w w' : World} (h : But S w w') {p : Addr} (hp : p.block < w.heap.size) (hs : ¬ S p.block) : w'.cell? p = w.cell? p := World.cell?_of_block (w := w) (h.block p.block hp hs)
theorem But.frozen {S : Nat → Prop} {w w' : World} (h : But S w w') {p : Addr} (hp : p.block < w.heap.size) (hs : ¬ S p.block) : w'.frozen? p = w.frozen? p := World.frozen?_of_block (w := w) (h.block p.block hp hs)
end Go.Proofs.YtibhkijaafdkoaaGreatDoor

namespace Go.Proofs.YtibhkijaafdkoaaGreatDoor
open Go.RowKit
theorem get_some {α : Type} (l : List α) (k : Nat) (h : k < l.length) : ∃ p, l[k]? = some p ∧ p ∈ l := ⟨l[k], by simp [h], List.getElem_mem h⟩
theorem cell_lt {w : World} {a : Addr} {v : Value} (h : w.cell? a = some v) : a.block < w.heap.size := by
 rcases Nat.lt_or_ge a.block w.heap.size with h' | h'
 · exact h'
 · simp [World.cell?, Array.getElem?_eq_none h'] at h
theorem ownsRow_mono {w : World} {base base' : Nat} {e : TypeId} {size : Nat} {v : Value} {n : Nat} {xs : List Value} (h : w.ownsRow base e size v n xs) (hb : base' ≤ base) : w.ownsRow base' e size v n xs := by
 obtain ⟨h1, h2 | ⟨g, cap, cur, hv, hB, r⟩⟩ := h
 · exact ⟨h1, .inl h2⟩
 · exact ⟨h1, .inr ⟨g, cap, cur, hv, Nat.le_trans hb hB, r⟩⟩
structure ErrsBO (w : World) (ad : Nat → Addr) : Prop where
 c1 : w.cell? ⟨3, 0, none⟩ = some (.iface 271 (.pointer (some (ad 1))))
 c4 : w.cell? ⟨5, 0, none⟩ = some (.iface 271 (.pointer (some (ad 4))))
theorem ErrsBO.below {w w' : World} {ad : Nat → Addr} (h : ErrsBO w ad) (hb : Below w.heap.size w w') : ErrsBO w' ad :=
 ⟨cell_later hb h.c1, cell_later hb h.c4⟩
def sentOf (ad : Nat → Addr) : Nat → Value
 | 0 => .nilIface
 | k + 1 => .iface 271 (.pointer (some (ad k)))
end Go.Proofs.YtibhkijaafdkoaaGreatDoor

namespace Go.Proofs.YtibhkijaafdkoaaGreatDoor
open Go.RowKit
def okLine (x y : Int) : Bool := decide (1 ≤ x ∧ x ≤ 20000 ∧ 0 ≤ y ∧ y ≤ 100000)
theorem okLine_true {x y : Int} (h : okLine x y = true) : 1 ≤ x ∧ x ≤ 20000 ∧ 0 ≤ y ∧ y ≤ 100000 := of_decide_eq_true h
def lineAt (t x y : Int) : Int := x + y * t / 1000
def leastAt (t : Int) : Int → List (Int × Int) → Int
 | m, [] => m
 | m, p :: r => leastAt t (min m (lineAt t p.1 p.2)) r
def curveAt (t : Int) : List (Int × Int) → Int
 | [] => 0
 | p :: r => leastAt t (lineAt t p.1 p.2) r
def okAll (ls : List (Int × Int)) : Prop := ∀ p, p ∈ ls → okLine p.1 p.2 = true
def okCurve (ls : List (Int × Int)) : Prop := 1 ≤ ls.length ∧ ls.length ≤ 6 ∧ okAll ls
theorem mul_bd {y t : Int} (h0 : 0 ≤ y) (h1 : y ≤ 100000) (t0 : 0 ≤ t) (t1 : t ≤ 1099511627776) : 0 ≤ y * t ∧ y * t ≤ 109951162777600000 := by
 refine ⟨Int.mul_nonneg h0 t0, ?_⟩
 have a : y * t ≤ 100000 * t := Int.mul_le_mul_of_nonneg_right h1 t0
 omega
end Go.Proofs.YtibhkijaafdkoaaGreatDoor

namespace Go.Proofs.YtibhkijaafdkoaaGreatDoor
open Go.RowKit
set_option maxHeartbeats 400000 in
theorem isLine_yes (x y : Int) (w : World) (h : okLine x y = true) :
  Calls Tryz.prog 112 #[.agg #[.int .i64 x, .int .i64 y]] w fun e w' => e = .returned (.bool true) ∧ w' = w.alloc (.cells #[.int .i64 x, .int .i64 y] 133) := by
 obtain ⟨h1, h2, h3, h4⟩ := okLine_true h
 clear h
 go_enter Tryz.func112, Tryz.ntmps112
 go_wp2
 go_ret
 exact ⟨rfl, rfl⟩
set_option maxHeartbeats 400000 in
theorem isLine_no (x y : Int) (w : World) (h : okLine x y = false) :
  Calls Tryz.prog 112 #[.agg #[.int .i64 x, .int .i64 y]] w fun e w' => e = .returned (.bool false) ∧ w' = w.alloc (.cells #[.int .i64 x, .int .i64 y] 133) := by
 have h' : ¬ (1 ≤ x ∧ x ≤ 20000 ∧ 0 ≤ y ∧ y ≤ 100000) := of_decide_eq_false h
 clear h
 by_cases h1 : 1 ≤ x
 ·
  by_cases h2 : x ≤ 20000
  ·
   by_cases h3 : 0 ≤ y
   ·
    have h4 : ¬ y ≤ 100000 := fun h4 => h' ⟨h1, h2, h3, h4⟩
    clear h'
    go_enter Tryz.func112, Tryz.ntmps112
    go_wp2
    go_ret
    exact ⟨rfl, rfl⟩
   ·
    clear h'
    go_enter Tryz.func112, Tryz.ntmps112
    go_wp2
    go_ret
    exact ⟨rfl, rfl⟩
  ·
   clear h'
   go_enter Tryz.func112, Tryz.ntmps112
   go_wp2
   go_ret
   exact ⟨rfl, rfl⟩
 ·
  clear h'
  go_enter Tryz.func112, Tryz.ntmps112
  go_wp2
  go_ret
  exact ⟨rfl, rfl⟩
end Go.Proofs.YtibhkijaafdkoaaGreatDoor

namespace Go.Proofs.YtibhkijaafdkoaaGreatDoor
open Go.RowKit
def Lies (w : World) (a : Option Addr) (ls : List (Int × Int)) : Prop :=
 ls = [] ∨ ∃ b off, a = some ⟨b, off, none⟩ ∧ b < w.heap.size ∧ ∀ i x y, ls[i]? = some (x, y) → w.cell? ⟨b, off + i * 2, none⟩ = some (.int .i64 x) ∧ w.cell? ⟨b, off + i * 2 + 1, none⟩ = some (.int .i64 y)
theorem Lies.some {w : World} {a : Option Addr} {ls : List (Int × Int)} (h : Lies w a ls) (h1 : 1 ≤ ls.length) :
  ∃ b off, a = some ⟨b, off, none⟩ ∧ b < w.heap.size ∧ ∀ i x y, ls[i]? = some (x, y) → w.cell? ⟨b, off + i * 2, none⟩ = some (.int .i64 x) ∧ w.cell? ⟨b, off + i * 2 + 1, none⟩ = some (.int .i64 y) := by
 rcases h with rfl | h
 · simp at h1
 · exact h
theorem Lies.below {w w' : World} {a : Option Addr} {ls : List (Int × Int)} (h : Lies w a ls) (hb : Below w.heap.size w w') : Lies w' a ls := by
 rcases h with rfl | ⟨b, off, rfl, hlt, hc⟩
 · exact .inl rfl
 ·
  refine .inr ⟨b, off, rfl, Nat.lt_of_lt_of_le hlt hb.size, fun i x y hi => ?_⟩
  have := hc i x y hi
  exact ⟨by rw [hb.cell (p := ⟨b, off + i * 2, none⟩) hlt]; exact this.1, by rw [hb.cell (p := ⟨b, off + i * 2 + 1, none⟩) hlt]; exact this.2⟩
set_option maxHeartbeats 400000 in
theorem check_ok (a : Option Addr) (cap : Nat) (ls : List (Int × Int)) (w : World) (hl : Lies w a ls) (h : okCurve ls) :
  Calls Tryz.prog 73 #[.slice a ls.length cap] w fun e w' => e = .returned .nilIface ∧ Below w.heap.size w w' := by
 obtain ⟨h1, h6, hok⟩ := h
 obtain ⟨b, off, rfl, hlt, hc⟩ := hl.some h1
 clear hl
 generalize hn : ls.length = n at *
 have Hn := (show Hid (ls.length = n) from hn)
 clear hn
 go_enter Tryz.func73, Tryz.ntmps73
 go_wp2
 go_loopw [16] (fun i wr => ∃ k : Nat, k ≤ n ∧ i = .int .i64 k ∧ Below w.heap.size w wr) (fun i _ => n - (intOf i).toNat)
 case atStart => exact ⟨0, Nat.zero_le _, rfl, Below.refl _ _⟩
 case round =>
  obtain ⟨k, hk, rfl, hb⟩ := hrel
  by_cases hkn : k < n
  ·
   obtain ⟨⟨x, y⟩, hp, hm⟩ := get_some ls k (by rw [Hn.out]; exact hkn)
   have hc1 : wr.cell? ⟨b, off + k * 2, none⟩ = some (.int .i64 x) := by rw [hb.cell (p := ⟨b, off + k * 2, none⟩) hlt]; exact (hc k x y hp).1
   have hc2 : wr.cell? ⟨b, off + k * 2 + 1, none⟩ = some (.int .i64 y) := by rw [hb.cell (p := ⟨b, off + k * 2 + 1, none⟩) hlt]; exact (hc k x y hp).2
   have hxy := hok _ hm
   clear hc hok hp hm
   have Hxy := (show Hid (okLine x y = true) from hxy)
   clear hxy
   go_wp2_with (go_at_call 112; refine (isLine_yes x y _ Hxy.out).mono ?_; rintro e w' ⟨rfl, rfl⟩)
   have hs := hb.size
   go_roundw
   case rel => exact ⟨k + 1, by omega, by go_num, (hb.alloc hs _).alloc (by simp; omega) _⟩
   case measure => simp [intOf]; omega
  ·
   go_wp2
   go_ret
   exact ⟨rfl, hb⟩
set_option maxHeartbeats 400000 in
theorem check_shape (a : Option Addr) (n cap : Nat) (w : World) (vS : Value) (hS : w.cell? ⟨4, 0, none⟩ = some vS) (hm : n ≤ maxLen) (h : n < 1 ∨ 6 < n) :
  Calls Tryz.prog 73 #[.slice a n cap] w fun e w' => e = .returned vS ∧ w' = w := by
 unfold maxLen at hm
 rcases h with h | h
 ·
  obtain rfl : n = 0 := by omega
  go_enter Tryz.func73, Tryz.ntmps73
  go_wp2
  go_ret
  exact ⟨rfl, rfl⟩
 ·
  have h1 : ¬ n < 1 := by omega
  go_enter Tryz.func73, Tryz.ntmps73
  go_wp2
  go_ret
  exact ⟨rfl, rfl⟩
set_option maxHeartbeats 400000 in
theorem check_bad (a : Option Addr) (cap : Nat) (ls : List (Int × Int)) (w : World) (aB : Addr) (hB : w.cell? ⟨3, 0, none⟩ = some (.iface 271 (.pointer (some aB)))) (hl : Lies w a ls) (h1 : 1 ≤ ls.length) (h6 : ls.length ≤ 6)
  (j : Nat) (hj : j < ls.length) (hok : ∀ i x y, i < j → ls[i]? = some (x, y) → okLine x y = true) (hbad : ∀ x y, ls[j]? = some (x, y) → okLine x y = false) :
  Calls Tryz.prog 73 #[.slice a ls.length cap] w fun e w' => Below w.heap.size w w' ∧ ∃ B, e = .returned (.iface 110 (.pointer (some ⟨B, 0, none⟩))) ∧ w.heap.size ≤ B ∧ B < w'.heap.size ∧ w'.cell? ⟨B, 0, none⟩ = some (.int .i64 j) ∧ w'.cell? ⟨B, 1, none⟩ = some (.iface 271 (.pointer (some aB))) := by
 obtain ⟨b, off, rfl, hlt, hc⟩ := hl.some h1
 clear hl
 generalize hn : ls.length = n at *
 have Hn := (show Hid (ls.length = n) from hn)
 clear hn
 go_enter Tryz.func73, Tryz.ntmps73
 go_wp2
 go_loopw [16] (fun i wr => ∃ k : Nat, k ≤ j ∧ i = .int .i64 k ∧ Below w.heap.size w wr) (fun i _ => n - (intOf i).toNat)
 case atStart => exact ⟨0, Nat.zero_le _, rfl, Below.refl _ _⟩
 case round =>
  obtain ⟨k, hk, rfl, hb⟩ := hrel
  have hs := hb.size
  have hkn : k < n := by omega
  obtain ⟨⟨x, y⟩, hp, hm⟩ := get_some ls k (by rw [Hn.out]; exact hkn)
  have hc1 : wr.cell? ⟨b, off + k * 2, none⟩ = some (.int .i64 x) := by rw [hb.cell (p := ⟨b, off + k * 2, none⟩) hlt]; exact (hc k x y hp).1
  have hc2 : wr.cell? ⟨b, off + k * 2 + 1, none⟩ = some (.int .i64 y) := by rw [hb.cell (p := ⟨b, off + k * 2 + 1, none⟩) hlt]; exact (hc k x y hp).2
  have hgs : 3 < w.heap.size := by
   rcases Nat.lt_or_ge 3 w.heap.size with h | h
   · exact h
   · simp [World.cell?, Array.getElem?_eq_none h] at hB
  have hB2 : wr.cell? ⟨3, 0, none⟩ = some (.iface 271 (.pointer (some aB))) := by rw [hb.cell (p := ⟨3, 0, none⟩) hgs]; exact hB
  by_cases hkj : k < j
  ·
   have Hxy := (show Hid (okLine x y = true) from hok k x y hkj hp)
   clear hc hok hp hm hbad hB hB2
   go_wp2_with (go_at_call 112; refine (isLine_yes x y _ Hxy.out).mono ?_; rintro e w' ⟨rfl, rfl⟩)
   go_roundw
   case rel => exact ⟨k + 1, by omega, by go_num, (hb.alloc hs _).alloc (by simp; omega) _⟩
   case measure => simp [intOf]; omega
  ·
   obtain rfl : k = j := by omega
   have Hxy := (show Hid (okLine x y = false) from hbad x y hp)
   clear hc hok hp hm hbad hB
   have hB3 : ((wr.alloc (.cells #[.int .i64 x, .int .i64 y] 133)).alloc (.cells #[.int .i64 x, .int .i64 y] 133)).cell? ⟨3, 0, none⟩ = some (.iface 271 (.pointer (some aB))) := by
    rw [World.cell?_alloc_lt _ _ ⟨3, 0, none⟩ (Nat.lt_of_lt_of_le hgs (by simp; omega)), World.cell?_alloc_lt _ _ ⟨3, 0, none⟩ (Nat.lt_of_lt_of_le hgs hs)]; exact hB2
   go_wp2_with (go_at_call 112; refine (isLine_no x y _ Hxy.out).mono ?_; rintro e w' ⟨rfl, rfl⟩)
   go_ret
   refine ⟨((hb.alloc hs _).alloc (by simp; omega) _).alloc (by simp; omega) _, _, rfl, ?_, ?_, ?_, ?_⟩
   · omega
   · simp
   · rw [World.cell?_alloc_at _ _ _ _ (by simp)]; rfl
   · rw [World.cell?_alloc_at _ _ _ _ (by simp)]; rfl
end Go.Proofs.YtibhkijaafdkoaaGreatDoor

namespace Go.Proofs.YtibhkijaafdkoaaGreatDoor
open Go.RowKit
def cellsL (ls : List (Int × Int)) : List Value := ls.flatMap fun p => [.int .i64 p.1, .int .i64 p.2]
theorem cellsL_cons (p : Int × Int) (r : List (Int × Int)) : cellsL (p :: r) = .int .i64 p.1 :: .int .i64 p.2 :: cellsL r := rfl
theorem cellsL_length (ls : List (Int × Int)) : (cellsL ls).length = ls.length * 2 := by
 induction ls with
 | nil => rfl
 | cons p r ih => rw [cellsL_cons]; simp [ih]; omega
theorem cellsL_get (ls : List (Int × Int)) : ∀ i x y, ls[i]? = some (x, y) → (cellsL ls)[i * 2]? = some (.int .i64 x) ∧ (cellsL ls)[i * 2 + 1]? = some (.int .i64 y) := by
 induction ls with
 | nil => intro i x y h; simp at h
 | cons p r ih =>
  intro i x y h
  rw [cellsL_cons]
  cases i with
  | zero => simp at h; subst h; exact ⟨rfl, rfl⟩
  | succ i =>
   have := ih i x y (by simpa using h)
   rw [show (i + 1) * 2 = i * 2 + 1 + 1 by omega]
   exact ⟨by simpa using this.1, by simpa using this.2⟩
theorem cellsL_at (ls : List (Int × Int)) : ∀ j u, (cellsL ls)[j]? = some u → ∃ i x y, ls[i]? = some (x, y) ∧ ((j = i * 2 ∧ u = .int .i64 x) ∨ (j = i * 2 + 1 ∧ u = .int .i64 y)) := by
 induction ls with
 | nil => intro j u h; simp [cellsL] at h
 | cons p r ih =>
  intro j u h
  rw [cellsL_cons] at h
  match j, h with
  | 0, h => exact ⟨0, p.1, p.2, rfl, .inl ⟨rfl, by simpa using h.symm⟩⟩
  | 1, h => exact ⟨0, p.1, p.2, rfl, .inr ⟨rfl, by simpa using h.symm⟩⟩
  | j + 2, h =>
   obtain ⟨i, x, y, hi, hj⟩ := ih j u (by simpa using h)
   exact ⟨i + 1, x, y, by simpa using hi, by rcases hj with ⟨e, f⟩ | ⟨e, f⟩; exact .inl ⟨by omega, f⟩; exact .inr ⟨by omega, f⟩⟩
theorem cellsL_one (ls : List (Int × Int)) : ∀ u ∈ cellsL ls, u.oneCell' = true := by
 intro u hu
 obtain ⟨j, hj⟩ := List.mem_iff_getElem?.1 hu
 obtain ⟨i, x, y, -, h⟩ := cellsL_at ls j u hj
 rcases h with ⟨-, rfl⟩ | ⟨-, rfl⟩ <;> rfl
def OwnL (w : World) (B : Nat) (v : Value) (ls : List (Int × Int)) : Prop := w.ownsRow B 133 2 v ls.length (cellsL ls)
theorem OwnL.open {w : World} {B : Nat} {v : Value} {ls : List (Int × Int)} (h : OwnL w B v ls) :
  ∃ a cap, v = .slice a ls.length cap ∧ ls.length ≤ cap ∧ cap ≤ maxLen ∧ Lies w a ls := by
 obtain ⟨hlen, ⟨rfl, h0⟩ | ⟨g, cap, cur, rfl, hB, hg, hn, hm, hc, ht⟩⟩ := h
 · refine ⟨none, 0, by rw [h0], by omega, by simp [maxLen], .inl (List.length_eq_zero_iff.1 h0)⟩
 ·
  refine ⟨_, cap, rfl, hn, hm, .inr ⟨g, 0, rfl, ?_, fun i x y hi => ?_⟩⟩
  ·
   rcases Nat.lt_or_ge g w.heap.size with h | h
   · exact h
   · simp [Array.getElem?_eq_none h] at hg
  ·
   have hh : w.ownsRow B 133 2 (.slice (some ⟨g, 0, none⟩) ls.length cap) ls.length (cellsL ls) := ⟨hlen, .inr ⟨g, cap, cur, rfl, hB, hg, hn, hm, hc, ht⟩⟩
   have hil : i < ls.length := by
    rcases Nat.lt_or_ge i ls.length with h | h
    · exact h
    · simp [List.getElem?_eq_none h] at hi
   have := cellsL_get ls i x y hi
   rw [hh.cellAt _ (by omega), hh.cellAt _ (by omega), Nat.zero_add]
   exact this
theorem lies_news {w : World} {ad : Addr} {ls : List (Int × Int)} (h : Lies w (some ad) ls) : ∀ j u, (cellsL ls)[j]? = some u → w.cell? (ad.add j) = some u := by
 intro j u hj
 obtain ⟨i, x, y, hi, hc⟩ := cellsL_at ls j u hj
 rcases h with rfl | ⟨b, off, e, -, h⟩
 · simp at hi
 ·
  cases e
  have := h i x y hi
  rw [Addr.add_lit]
  rcases hc with ⟨rfl, rfl⟩ | ⟨rfl, rfl⟩
  · exact this.1
  · exact this.2
theorem Tryz.infoLine : (Tryz.prog.info? 133).map (fun i => (i.zero, i.size, i.bytes)) = some (some (.agg #[.int .i64 0, .int .i64 0]), 2, 16) := by kernel_rfl
set_option maxHeartbeats 400000 in
theorem ownLines_any (a : Option Addr) (cap : Nat) (ls : List (Int × Int)) (w : World) (hl : Lies w a ls) (hn : ls.length ≤ 1000) (ha : a = none → ls = [] ∧ cap = 0) :
  Calls Tryz.prog 35 #[.slice a ls.length cap] w fun e w' => ∃ v, e = .returned v ∧ OwnL w' w.heap.size v ls ∧ Below w.heap.size w w' := by
 obtain ⟨i0, hi, hz0, hz1, hz2⟩ := info_parts Tryz.infoLine
 cases a with
 | none =>
  obtain ⟨rfl, rfl⟩ := ha rfl
  show Calls Tryz.prog 35 #[.slice none 0 0] w _
  go_enter Tryz.func35, Tryz.ntmps35
  go_wp2
  go_ret
  exact ⟨_, rfl, World.ownsRow_nil _ _ _ _, Below.refl _ _⟩
 | some ad =>
  have hnews := lies_news hl
  have hlen := cellsL_length ls
  have hone := cellsL_one ls
  have H1 : Hid (∀ j u, (cellsL ls)[j]? = some u → w.cell? (ad.add j) = some u) := hnews
  have H2 : Hid ((cellsL ls).length = ls.length * 2) := hlen
  have H3 : Hid (∀ u ∈ cellsL ls, u.oneCell' = true) := hone
  have HL : Hid (Lies w (some ad) ls) := hl
  clear hnews hlen hone hl ha
  go_enter Tryz.func35, Tryz.ntmps35
  go_wp2_with (at_builtin; refine wpList_append_own _ rfl _ _ 38 rfl w.heap.size 133 i0 (.agg #[.int .i64 0, .int .i64 0]) 2 16 Tryz.underlying38 hi hz0 hz1 hz2 rfl (by decide) (.slice none 0 0) 0 [] rfl (World.ownsRow_nil _ _ _ _) ad ls.length cap (cellsL ls) rfl H2.out H1.out H3.out (by unfold maxLen; omega) (by omega) (Nat.le_refl _) ?_; intro v' w3 hown' hgrow3 hnil3)
  go_ret
  refine ⟨_, rfl, by simpa [OwnL] using hown', ?_⟩
  exact (Below.refl _ _).grown hgrow3 (Nat.le_refl _) (fun k hk => by cases hk)
end Go.Proofs.YtibhkijaafdkoaaGreatDoor

namespace Go.Proofs.YtibhkijaafdkoaaGreatDoor
open Go.RowKit
theorem firstBad (ls : List (Int × Int)) : okAll ls ∨ ∃ j, j < ls.length ∧ (∀ i x y, i < j → ls[i]? = some (x, y) → okLine x y = true) ∧ ∀ x y, ls[j]? = some (x, y) → okLine x y = false := by
 induction ls with
 | nil => exact .inl fun p hp => by cases hp
 | cons q r ih =>
  cases hq : okLine q.1 q.2 with
  | false => exact .inr ⟨0, by simp, fun i x y hi => by omega, fun x y h => by simp at h; subst h; exact hq⟩
  | true =>
   rcases ih with h | ⟨j, hj, h1, h2⟩
   ·
    refine .inl fun p hp => ?_
    rcases List.mem_cons.1 hp with rfl | hp
    · exact hq
    · exact h p hp
   ·
    refine .inr ⟨j + 1, by simpa using hj, fun i x y hi he => ?_, fun x y he => h2 x y (by simpa using he)⟩
    cases i with
    | zero => simp at he; subst he; exact hq
    | succ i => exact h1 i x y (by omega) (by simpa using he)
structure Errs2 (w : World) (aB aS : Addr) : Prop where
 bound : w.cell? ⟨3, 0, none⟩ = some (.iface 271 (.pointer (some aB)))
 shape : w.cell? ⟨4, 0, none⟩ = some (.iface 271 (.pointer (some aS)))
theorem Errs2.below {w w' : World} {aB aS : Addr} (h : Errs2 w aB aS) (hb : Below w.heap.size w w') : Errs2 w' aB aS :=
 ⟨cell_later hb h.bound, cell_later hb h.shape⟩
end Go.Proofs.YtibhkijaafdkoaaGreatDoor

namespace Go.Proofs.YtibhkijaafdkoaaGreatDoor
open Go.RowKit Go.Extern.Stop Go.Stop Go.Extern
theorem Tryz.isTypeOf (v : Value) (w : World) : (Extern.ReflectliteType.typeOf #[.iface 271 v]).run Tryz.prog w = .ok (.iface 207 (.agg #[.pointer (some ⟨10, 271, none⟩)])) w := by kernel_rfl
theorem Tryz.noAsE (v : Value) (xT : TypeId) (w : World) : (Instr.typeAssert (.iface 271 v) xT 211 true).run Tryz.prog w = .ok (.tuple #[.nilIface, .bool false]) w := run_typeAssert_lacksB Tryz.underlying211 (by kernel_rfl) (by kernel_rfl) v xT w
theorem Tryz.noUnwrapE (v : Value) (xT : TypeId) (w : World) : (Instr.typeAssert (.iface 271 v) xT 214 true).run Tryz.prog w = .ok (.tuple #[.nilIface, .bool false]) w := run_typeAssert_lacksB Tryz.underlying214 (by kernel_rfl) (by kernel_rfl) v xT w
theorem Tryz.noUnwrapsE (v : Value) (xT : TypeId) (w : World) : (Instr.typeAssert (.iface 271 v) xT 216 true).run Tryz.prog w = .ok (.tuple #[.nilIface, .bool false]) w := run_typeAssert_lacksB Tryz.underlying216 (by kernel_rfl) (by kernel_rfl) v xT w
end Go.Proofs.YtibhkijaafdkoaaGreatDoor
